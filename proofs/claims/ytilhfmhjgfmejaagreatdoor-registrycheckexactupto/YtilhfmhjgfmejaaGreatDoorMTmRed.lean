import Derived.Test.YtilhfmhjgfmejaaGreatDoorMTmWeb
import Derived.Deep.MidRow
import Derived.Laws.EntriesVeiled
namespace Go.Proofs.YtilhfmhjgfmejaaGreatDoor.tm
open Go.ChangeShapes Go.WideShapes Go.ChangeAt Go.RowKit Go.Proofs.YtilhfmhjgfmejaaGreatDoor.common Go.Proofs.YtilhfmhjgfmejaaGreatDoor.bk
attribute [local go_sem ↓] Go.wp_at_zero Go.wp_at_succ

def hostsL : List (List UInt8) := [[108, 111, 99, 97, 108, 104, 111, 115, 116], [49, 50, 55, 46, 48, 46, 48, 46, 49], [91, 58, 58, 49, 93]]
def tH (k : Nat) : List UInt8 := hostsL.getD k []
def cellsH : List Value := hostsL.map fun l => S l
/-- the hosts of one's own lie in their variable -/
def Loc (w : World) : Prop := w.rangeAt 19 0 cellsH
theorem Loc.below {w w' : World} (h : Loc w) (hb : Below w.heap.size w w') : Loc w' := fun j v hv => by
  have := h j v hv
  rw [← this]
  exact hb.cell (World.block_lt_of_cell? w _ this)

def locT : List (List UInt8) → List UInt8 → Bool
  | [], _ => false
  | h :: t, l => if h.isPrefixOf l then behL (l.drop h.length) else locT t l
/-- what may stand behind http:// -/
def locL (l : List UInt8) : Bool := locT hostsL l

theorem loc_step (k : Nat) (h : k < 3) (l : List UInt8) : locT (hostsL.drop k) l = if (tH k).isPrefixOf l then behL (l.drop (tH k).length) else locT (hostsL.drop (k + 1)) l := by
  match k, h with
  | 0, _ => rfl
  | 1, _ => rfl
  | 2, _ => rfl

theorem sizeH : (Tryz.prog.info? 142).map (·.size) = some cellsH.length := by kernel_rfl
set_option maxRecDepth 100000 in
theorem index_hosts : ∀ k : Nat, k < 3 → ∀ w : World, (Instr.index 142 (.agg cellsH.toArray) (.int .i64 (k : Int))).run Tryz.prog w = .ok (S (tH k)) w := by
  intro k h w
  match k, h with
  | 0, _ => rfl
  | 1, _ => rfl
  | 2, _ => rfl

set_option maxRecDepth 100000 in
set_option maxHeartbeats 3200000 in
theorem loc_any (s : ByteArray) (w : World) (hs : s.size ≤ 1048576) (h : Nums w) (hl : Loc w) :
    Calls Tryz.prog 90 #[.string s] w fun e w' => e = .returned (.bool (locL s.data.toList)) ∧ Below w.heap.size w w' := by
  have HN := hide h
  have HL := hide hl
  clear h hl
  obtain ⟨R, hR⟩ : ∃ R, R = locL s.data.toList := ⟨_, rfl⟩
  have HRR : Hid (R = locT (hostsL.drop 0) s.data.toList) := hR
  rw [← hR]
  clear hR
  go_enter Tryz.func90, Tryz.ntmps90
  go_wp2_with (refine wpList_load_mid rfl 142 _ rfl 19 0 rfl cellsH _ HL.out Tryz.underlying142 rfl sizeH ?_)
  go_loopw [8] (fun i wr => ∃ k : Nat, k ≤ 3 ∧ i = .int .i64 k ∧ Hid (R = locT (hostsL.drop k) s.data.toList) ∧ wr = w) (fun i _ => 3 - (intOf i).toNat)
  case atStart => exact ⟨0, Nat.zero_le _, rfl, HRR, rfl⟩
  case round =>
    obtain ⟨k, hk, rfl, HR, rfl⟩ := hrel
    by_cases hlt : k < 3
    · have hki : (k : Int) < (3 : Int) := by omega
      have hix := index_hosts k hlt
      have HF := hide (loc_step k hlt s.data.toList)
      have HC := hide (cutPrefix_any s ⟨(tH k).toArray⟩ wr)
      unfold cutP at HC
      generalize cellsH.toArray = C at *
      cases hp : (⟨(tH k).toArray⟩ : ByteArray).data.toList.isPrefixOf s.data.toList with
      | true =>
        have HQ : Hid (R = behL (s.data.toList.drop (tH k).length)) := by
          show _ = _
          rw [HR.out, HF.out, if_pos (show (tH k).isPrefixOf s.data.toList = true from hp)]
        rw [hp, if_pos rfl, str_size] at HC
        have HB := hide (fun W h => beh_any (s.extract (tH k).length s.size) W (by rw [ByteArray.size_extract]; omega) h)
        rw [ext_from] at HB
        rw [← HQ.out] at HB
        clear hp HF HR HQ
        generalize tH k = T at *
        go_wp2_with (first
          | (go_at_call 71; refine HC.out.mono ?_; rintro x w1 ⟨rfl, hw⟩; obtain rfl := hw.symm)
          | (go_at_call 112; refine (HB.out _ HN.out).mono ?_; rintro x w4 ⟨rfl, hb⟩; have B1 := hide hb; clear hb))
        go_ret
        exact ⟨rfl, B1.out⟩
      | false =>
        have HQ : Hid (R = locT (hostsL.drop (k + 1)) s.data.toList) := by
          show _ = _
          rw [HR.out, HF.out, if_neg (by rw [show (tH k).isPrefixOf s.data.toList = false from hp]; decide)]
        rw [hp, if_neg (by decide)] at HC
        clear hp HF HR
        generalize tH k = T at *
        go_wp2_with (go_at_call 71; refine HC.out.mono ?_; rintro x w1 ⟨rfl, hw⟩; obtain rfl := hw.symm)
        go_roundw
        case rel => exact ⟨k + 1, by omega, by go_num, HQ, by trivial⟩
        case measure => simp [intOf]; omega
    · obtain rfl : k = 3 := by omega
      have HQ : Hid (R = false) := HR.out
      go_wp2_with fail
      go_ret
      exact ⟨by rw [HQ.out]; rfl, Below.refl _ _⟩

end Go.Proofs.YtilhfmhjgfmejaaGreatDoor.tm

namespace Go.Proofs.YtilhfmhjgfmejaaGreatDoor.tm
open Go.ChangeShapes Go.WideShapes Go.ChangeAt Go.RowKit Go.Proofs.YtilhfmhjgfmejaaGreatDoor.common Go.Proofs.YtilhfmhjgfmejaaGreatDoor.bk
attribute [local go_sem ↓] Go.wp_at_zero Go.wp_at_succ

def mHttps : List UInt8 := [104, 116, 116, 112, 115, 58, 47, 47]
def mHttp : List UInt8 := [104, 116, 116, 112, 58, 47, 47]
/-- a redirect address -/
def redL (l : List UInt8) : Bool := decide (l.length ≤ 512) && (if mHttps.isPrefixOf l then secL (l.drop 8) else if mHttp.isPrefixOf l then locL (l.drop 7) else privA l)

abbrev fnV (f : Nat) : Value := .func (.func f) #[] #[]
def formV : List Value := [S mHttps, fnV 89, S mHttp, fnV 90, S [], fnV 91]

set_option maxRecDepth 100000 in
set_option maxHeartbeats 3200000 in
theorem forms_any (w : World) :
    Calls Tryz.prog 70 #[] w fun e w' => e = .returned (.slice (some ⟨w.heap.size, 0, none⟩) 3 3) ∧ Below w.heap.size w w' ∧ w'.heap[w.heap.size]? = some (.cells formV.toArray 106 (0, 0)) := by
  go_enter Tryz.func70, Tryz.ntmps70
  go_wp2_with fail
  go_ret
  exact ⟨rfl, (Below.refl _ _).alloc (Nat.le_refl _) _, World.alloc_heap_new _ _⟩

theorem form_cell {w : World} {b : Nat} (h : w.heap[b]? = some (.cells formV.toArray 106 (0, 0))) (j : Nat) (v : Value) (hj : formV[j]? = some v) : w.cell? ⟨b, j, none⟩ = some v := by
  simp [World.cell?, h, hj]

/-- from the form of this number on -/
def redT (l : List UInt8) : Nat → Bool
  | 0 => if mHttps.isPrefixOf l then secL (l.drop 8) else if mHttp.isPrefixOf l then locL (l.drop 7) else privA l
  | 1 => if mHttp.isPrefixOf l then locL (l.drop 7) else privA l
  | 2 => privA l
  | _ => false
theorem pre_empty (l : List UInt8) : ([] : List UInt8).isPrefixOf l = true := by cases l <;> rfl

set_option maxRecDepth 100000 in
set_option maxHeartbeats 3200000 in
theorem red_any (s : ByteArray) (w : World) (h : Nums w) (hl : Loc w) :
    Calls Tryz.prog 54 #[.string s] w fun e w' => e = .returned (.bool (redL s.data.toList)) ∧ Below w.heap.size w w' := by
  have HN := hide h
  have HL := hide hl
  clear h hl
  by_cases hlong : 512 < s.size
  · have hi : (512 : Int) < (s.size : Int) := by omega
    have HR : Hid (redL s.data.toList = false) := by
      show _ = _
      unfold redL
      rw [decide_eq_false (by rw [len_list]; omega)]; rfl
    rw [HR.out]
    go_enter Tryz.func54, Tryz.ntmps54
    go_wp2_with fail
    go_ret
    exact ⟨rfl, Below.refl _ _⟩
  have hi : ¬ (512 : Int) < (s.size : Int) := by omega
  obtain ⟨R, hR⟩ : ∃ R, R = redL s.data.toList := ⟨_, rfl⟩
  have HRR : Hid (R = redT s.data.toList 0) := by
    show _ = _
    rw [hR]
    unfold redL
    rw [decide_eq_true (by rw [len_list]; omega)]; rfl
  rw [← hR]
  clear hR
  have HC0 := hide (fun W => cutPrefix_any s ⟨mHttps.toArray⟩ W)
  have HC1 := hide (fun W => cutPrefix_any s ⟨mHttp.toArray⟩ W)
  have HC2 := hide (fun W => cutPrefix_any s ⟨#[]⟩ W)
  go_enter Tryz.func54, Tryz.ntmps54
  go_wp2_with (go_at_call 70; refine (forms_any w).mono ?_; rintro x w1 ⟨rfl, hb1, hf1⟩; have HB1 := hide hb1; have HF1 := hide hf1; clear hb1 hf1)
  go_loopw [12] (fun i wr => ∃ k : Nat, k ≤ 2 ∧ i = .int .i64 k ∧ Hid (R = redT s.data.toList k) ∧ Hid (wr.heap[w.heap.size]? = some (.cells formV.toArray 106 (0, 0))) ∧ Hid (Below w.heap.size w wr)) (fun i _ => 3 - (intOf i).toNat)
  case atStart => exact ⟨0, Nat.zero_le _, rfl, HRR, HF1, HB1⟩
  case round =>
    obtain ⟨k, hk, rfl, HR, HF, HB⟩ := hrel
    have hsz : w.heap.size < wr.heap.size := (Array.getElem?_eq_some_iff.1 HF.out).1
    rcases (by omega : k = 0 ∨ k = 1 ∨ k = 2) with rfl | rfl | rfl
    · have HC := HC0
      unfold cutP at HC
      have c0 := form_cell HF.out 0 _ rfl
      have c1 : wr.cell? ⟨w.heap.size, 1, none⟩ = some (.func (.func 89) #[] #[]) := form_cell HF.out 1 _ rfl
      have HCB : Hid (∀ W, Below w.heap.size w W → Calls Tryz.prog 89 #[.string (s.extract 8 s.size)] W fun e w' => e = .returned (.bool (secL (s.data.toList.drop 8))) ∧ Below W.heap.size W w') := fun W hb => by
        have := sec_any (s.extract 8 s.size) W (by rw [ByteArray.size_extract]; omega) (HN.out.below hb)
        rw [ext_from] at this
        exact this
      cases hp : (⟨mHttps.toArray⟩ : ByteArray).data.toList.isPrefixOf s.data.toList with
      | true =>
        have HQ : Hid (R = secL (s.data.toList.drop 8)) := by
          show _ = _
          rw [HR.out]
          exact if_pos (show mHttps.isPrefixOf s.data.toList = true from hp)
        rw [hp] at HC
        have HD : Hid (∀ W, Calls Tryz.prog 71 #[.string s, .string ⟨mHttps.toArray⟩] W fun e w' => e = .returned (.tuple #[.string (s.extract 8 s.size), .bool true]) ∧ w' = W) := HC.out
        rw [← HQ.out] at HCB
        clear hp HR HQ HC
        go_wp2_with (first
          | (go_at_call 71; refine (HD.out _).mono ?_; rintro x w2 ⟨rfl, hw⟩; obtain rfl := hw.symm)
          | (go_at_call 89; refine (HCB.out _ (HB.out.alloc HB.out.size _)).mono ?_; rintro x w4 ⟨rfl, hb⟩; have B1 := hide (keepD (HB.out.alloc HB.out.size _) hb); clear hb))
        go_ret
        exact ⟨rfl, B1.out⟩
      | false =>
        have HQ : Hid (R = redT s.data.toList 1) := by
          show _ = _
          rw [HR.out]
          exact if_neg (by rw [show mHttps.isPrefixOf s.data.toList = false from hp]; decide)
        rw [hp] at HC
        have HD : Hid (∀ W, Calls Tryz.prog 71 #[.string s, .string ⟨mHttps.toArray⟩] W fun e w' => e = .returned (.tuple #[.string s, .bool false]) ∧ w' = W) := HC.out
        clear hp HR HC HCB
        go_wp2_with (go_at_call 71; refine (HD.out _).mono ?_; rintro x w2 ⟨rfl, hw⟩; obtain rfl := hw.symm)
        go_roundw
        case rel => exact ⟨1, by omega, by go_num, HQ, ((Below.refl wr.heap.size wr).alloc (Nat.le_refl _) _).block _ hsz |>.trans HF.out, HB.out.alloc HB.out.size _⟩
        case measure => simp [intOf]
    · have HC := HC1
      unfold cutP at HC
      have c0 := form_cell HF.out 2 _ rfl
      have c1 : wr.cell? ⟨w.heap.size, 3, none⟩ = some (.func (.func 90) #[] #[]) := form_cell HF.out 3 _ rfl
      have HCB : Hid (∀ W, Below w.heap.size w W → Calls Tryz.prog 90 #[.string (s.extract 7 s.size)] W fun e w' => e = .returned (.bool (locL (s.data.toList.drop 7))) ∧ Below W.heap.size W w') := fun W hb => by
        have := loc_any (s.extract 7 s.size) W (by rw [ByteArray.size_extract]; omega) (HN.out.below hb) (HL.out.below hb)
        rw [ext_from] at this
        exact this
      cases hp : (⟨mHttp.toArray⟩ : ByteArray).data.toList.isPrefixOf s.data.toList with
      | true =>
        have HQ : Hid (R = locL (s.data.toList.drop 7)) := by
          show _ = _
          rw [HR.out]
          exact if_pos (show mHttp.isPrefixOf s.data.toList = true from hp)
        rw [hp] at HC
        have HD : Hid (∀ W, Calls Tryz.prog 71 #[.string s, .string ⟨mHttp.toArray⟩] W fun e w' => e = .returned (.tuple #[.string (s.extract 7 s.size), .bool true]) ∧ w' = W) := HC.out
        rw [← HQ.out] at HCB
        clear hp HR HQ HC
        go_wp2_with (first
          | (go_at_call 71; refine (HD.out _).mono ?_; rintro x w2 ⟨rfl, hw⟩; obtain rfl := hw.symm)
          | (go_at_call 90; refine (HCB.out _ (HB.out.alloc HB.out.size _)).mono ?_; rintro x w4 ⟨rfl, hb⟩; have B1 := hide (keepD (HB.out.alloc HB.out.size _) hb); clear hb))
        go_ret
        exact ⟨rfl, B1.out⟩
      | false =>
        have HQ : Hid (R = redT s.data.toList 2) := by
          show _ = _
          rw [HR.out]
          exact if_neg (by rw [show mHttp.isPrefixOf s.data.toList = false from hp]; decide)
        rw [hp] at HC
        have HD : Hid (∀ W, Calls Tryz.prog 71 #[.string s, .string ⟨mHttp.toArray⟩] W fun e w' => e = .returned (.tuple #[.string s, .bool false]) ∧ w' = W) := HC.out
        clear hp HR HC HCB
        go_wp2_with (go_at_call 71; refine (HD.out _).mono ?_; rintro x w2 ⟨rfl, hw⟩; obtain rfl := hw.symm)
        go_roundw
        case rel => exact ⟨2, by omega, by go_num, HQ, ((Below.refl wr.heap.size wr).alloc (Nat.le_refl _) _).block _ hsz |>.trans HF.out, HB.out.alloc HB.out.size _⟩
        case measure => simp [intOf]
    · have HC := HC2
      unfold cutP at HC
      have c0 := form_cell HF.out 4 _ rfl
      have c1 : wr.cell? ⟨w.heap.size, 5, none⟩ = some (.func (.func 91) #[] #[]) := form_cell HF.out 5 _ rfl
      have HCB : Hid (∀ W, Below w.heap.size w W → Calls Tryz.prog 91 #[.string (s.extract 0 s.size)] W fun e w' => e = .returned (.bool (privA s.data.toList)) ∧ Below W.heap.size W w') := fun W hb => by
        have := privA_any (s.extract 0 s.size) W (by rw [ByteArray.size_extract]; omega)
        rw [ext_from] at this
        exact this
      cases hp : (⟨#[]⟩ : ByteArray).data.toList.isPrefixOf s.data.toList with
      | true =>
        have HQ : Hid (R = privA s.data.toList) := by
          show _ = _
          rw [HR.out]
          rfl
        rw [hp] at HC
        have HD : Hid (∀ W, Calls Tryz.prog 71 #[.string s, .string ⟨#[]⟩] W fun e w' => e = .returned (.tuple #[.string (s.extract 0 s.size), .bool true]) ∧ w' = W) := HC.out
        rw [← HQ.out] at HCB
        generalize s.extract 0 s.size = z at HD HCB
        clear hp HR HQ HC
        go_wp2_with (first
          | (go_at_call 71; refine (HD.out _).mono ?_; rintro x w2 ⟨rfl, hw⟩; obtain rfl := hw.symm)
          | (go_at_call 91; refine (HCB.out _ (HB.out.alloc HB.out.size _)).mono ?_; rintro x w4 ⟨rfl, hb⟩; have B1 := hide (keepD (HB.out.alloc HB.out.size _) hb); clear hb))
        go_ret
        exact ⟨rfl, B1.out⟩
      | false => exact absurd ((pre_empty _).symm.trans hp) (by decide)

end Go.Proofs.YtilhfmhjgfmejaaGreatDoor.tm
