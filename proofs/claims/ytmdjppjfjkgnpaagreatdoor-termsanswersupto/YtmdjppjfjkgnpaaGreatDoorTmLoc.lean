import Derived.Test.YtmdjppjfjkgnpaaGreatDoorTmWeb
import Derived.Deep.MidRow
namespace Go.Proofs.YtmdjppjfjkgnpaaGreatDoor.tm
open Go.ChangeShapes Go.WideShapes Go.ChangeAt Go.RowKit Go.Proofs.YtmdjppjfjkgnpaaGreatDoor.common Go.Proofs.YtmdjppjfjkgnpaaGreatDoor.bk
attribute [local go_sem ↓] Go.wp_at_zero Go.wp_at_succ

def hostsL : List (List UInt8) := [[108, 111, 99, 97, 108, 104, 111, 115, 116], [49, 50, 55, 46, 48, 46, 48, 46, 49], [91, 58, 58, 49, 93]]
def tH (k : Nat) : List UInt8 := hostsL.getD k []
def cellsH : List Value := hostsL.map fun l => S l
/-- the hosts of one's own lie in their variable -/
def Loc (w : World) : Prop := w.rangeAt 13 0 cellsH
theorem Loc.below {w w' : World} (h : Loc w) (hb : Below w.heap.size w w') : Loc w' := fun j v hv => by
  have := h j v hv
  rw [← this]
  exact hb.cell (World.block_lt_of_cell? w _ this)

def locT : List (List UInt8) → List UInt8 → Bool
  | [], _ => false
  | h :: t, l => if h.isPrefixOf l then behL (l.drop h.length) else locT t l
/-- what may stand behind http:// -/
def locL (l : List UInt8) : Bool := locT hostsL l

theorem loc_step (k : Nat) (h : k < 3) (l : List UInt8) : locT (hostsL.drop k) l = if (tH k).isPrefixOf l then behL (l.drop (tH k).length) else locT (hostsL.drop (k + 1)) l := by
  match k, h with
  | 0, _ => rfl
  | 1, _ => rfl
  | 2, _ => rfl

theorem sizeH : (Tryz.prog.info? 61).map (·.size) = some cellsH.length := by kernel_rfl
set_option maxRecDepth 100000 in
theorem index_hosts : ∀ k : Nat, k < 3 → ∀ w : World, (Instr.index 61 (.agg cellsH.toArray) (.int .i64 (k : Int))).run Tryz.prog w = .ok (S (tH k)) w := by
  intro k h w
  match k, h with
  | 0, _ => rfl
  | 1, _ => rfl
  | 2, _ => rfl

set_option maxRecDepth 100000 in
set_option maxHeartbeats 3200000 in
theorem loc_any (s : ByteArray) (w : World) (hs : s.size ≤ 1048576) (h : Nums w) (hl : Loc w) :
    Calls Tryz.prog 26 #[.string s] w fun e w' => e = .returned (.bool (locL s.data.toList)) ∧ Below w.heap.size w w' := by
  have HN := hide h
  have HL := hide hl
  clear h hl
  obtain ⟨R, hR⟩ : ∃ R, R = locL s.data.toList := ⟨_, rfl⟩
  have HRR : Hid (R = locT (hostsL.drop 0) s.data.toList) := hR
  rw [← hR]
  clear hR
  go_enter Tryz.func26, Tryz.ntmps26
  go_wp2_with (refine wpList_load_mid rfl 61 _ rfl 13 0 rfl cellsH _ HL.out Tryz.underlying61 rfl sizeH ?_)
  go_loopw [8] (fun i wr => ∃ k : Nat, k ≤ 3 ∧ i = .int .i64 k ∧ Hid (R = locT (hostsL.drop k) s.data.toList) ∧ wr = w) (fun i _ => 3 - (intOf i).toNat)
  case atStart => exact ⟨0, Nat.zero_le _, rfl, HRR, rfl⟩
  case round =>
    obtain ⟨k, hk, rfl, HR, rfl⟩ := hrel
    by_cases hlt : k < 3
    · have hki : (k : Int) < (3 : Int) := by omega
      have hix := index_hosts k hlt
      have HF := hide (loc_step k hlt s.data.toList)
      have HC := hide (cutPrefix_any s ⟨(tH k).toArray⟩ wr)
      unfold cutP at HC
      generalize cellsH.toArray = C at *
      cases hp : (⟨(tH k).toArray⟩ : ByteArray).data.toList.isPrefixOf s.data.toList with
      | true =>
        have HQ : Hid (R = behL (s.data.toList.drop (tH k).length)) := by
          show _ = _
          rw [HR.out, HF.out, if_pos (show (tH k).isPrefixOf s.data.toList = true from hp)]
        rw [hp, if_pos rfl, str_size] at HC
        have HB := hide (fun W h => beh_any (s.extract (tH k).length s.size) W (by rw [ByteArray.size_extract]; omega) h)
        rw [ext_from] at HB
        rw [← HQ.out] at HB
        clear hp HF HR HQ
        generalize tH k = T at *
        go_wp2_with (first
          | (go_at_call 17; refine HC.out.mono ?_; rintro x w1 ⟨rfl, hw⟩; obtain rfl := hw.symm)
          | (go_at_call 38; refine (HB.out _ HN.out).mono ?_; rintro x w4 ⟨rfl, hb⟩; have B1 := hide hb; clear hb))
        go_ret
        exact ⟨rfl, B1.out⟩
      | false =>
        have HQ : Hid (R = locT (hostsL.drop (k + 1)) s.data.toList) := by
          show _ = _
          rw [HR.out, HF.out, if_neg (by rw [show (tH k).isPrefixOf s.data.toList = false from hp]; decide)]
        rw [hp, if_neg (by decide)] at HC
        clear hp HF HR
        generalize tH k = T at *
        go_wp2_with (go_at_call 17; refine HC.out.mono ?_; rintro x w1 ⟨rfl, hw⟩; obtain rfl := hw.symm)
        go_roundw
        case rel => exact ⟨k + 1, by omega, by go_num, HQ, by trivial⟩
        case measure => simp [intOf]; omega
    · obtain rfl : k = 3 := by omega
      have HQ : Hid (R = false) := HR.out
      go_wp2_with fail
      go_ret
      exact ⟨by rw [HQ.out]; rfl, Below.refl _ _⟩

end Go.Proofs.YtmdjppjfjkgnpaaGreatDoor.tm
