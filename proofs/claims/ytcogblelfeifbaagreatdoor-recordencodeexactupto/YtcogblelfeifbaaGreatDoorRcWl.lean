import Derived.Test.YtcogblelfeifbaaGreatDoorRcWr
import Derived.Test.YtcogblelfeifbaaGreatDoorStrBase
namespace Go.Proofs.YtcogblelfeifbaaGreatDoor.rc
open Go.ChangeShapes Go.WideShapes Go.ChangeAt Go.RowKit Go.Proofs.YtcogblelfeifbaaGreatDoor.common Go.Proofs.YtcogblelfeifbaaGreatDoor.dk

/-- a text, a list, as bytes -/
def txL (s : ByteArray) : List UInt8 := numL s.size ++ s.data.toList
def lsL (l : List ByteArray) : List UInt8 := numL l.length ++ l.flatMap txL
theorem txL_len (s : ByteArray) : (txL s).length ≤ s.size + 10 := by
  unfold txL numL
  have := (numF_len 9 s.size).2
  rw [List.length_append]
  have : s.data.toList.length = s.size := by simp
  omega
theorem flat_len (l : List ByteArray) (B : Nat) (h : ∀ s ∈ l, s.size ≤ B) : (l.flatMap txL).length ≤ l.length * (B + 10) := by
  induction l with
  | nil => simp
  | cons x r ih =>
    have h1 := txL_len x
    have h2 := h x (List.mem_cons_self ..)
    have h3 := ih (fun s hs => h s (List.mem_cons_of_mem _ hs))
    rw [List.flatMap_cons, List.length_append, List.length_cons, Nat.add_mul, Nat.one_mul]
    omega
theorem Wr.keep {p : Nat} {w w' : World} {l : List UInt8} (h : Wr p w l) (hb : Below w.heap.size w w') : Wr p w' l := by
  obtain ⟨v, h1, h2⟩ := h
  exact ⟨v, (hb.block p (Array.getElem?_eq_some_iff.1 h1).1).trans h1, own_below h2 hb⟩

set_option maxRecDepth 100000 in
set_option maxHeartbeats 6400000 in
theorem wlist_any (p b j : Nat) (vs : Value) (ss : List ByteArray) (l : List UInt8) (w : World) (h : Wr p w l) (hc : w.cell? ⟨b, j, none⟩ = some vs) (hb : b < p) (hL : ∀ X, Below p w X → Go.Proofs.YtcogblelfeifbaaGreatDoor.ss.Lies X vs ss) (hn : ss.length ≤ 16) (hs : ∀ s ∈ ss, s.size ≤ 281474976) (hl : l.length ≤ 140730000000000) :
    Calls Tryz.prog 227 #[.pointer (some ⟨p, 0, none⟩), .pointer (some ⟨b, j, none⟩)] w fun e w' => e = .returned (.tuple #[]) ∧ Wr p w' (l ++ lsL ss) ∧ Below p w w' := by
  obtain ⟨ov, cs, rfl⟩ : ∃ ov cs, vs = .slice ov ss.length cs := by
    obtain ⟨oa, cap, hv, _⟩ := hL w (Below.refl _ _)
    exact ⟨oa, cap, hv⟩
  have HL := hide hL
  have HS := hide hs
  have HCB : Hid (∀ X, Below p w X → X.cell? ⟨b, j, none⟩ = some (.slice ov ss.length cs)) := fun X hX => (hX.cell (p := ⟨b, j, none⟩) hb).trans hc
  have hnl : (numL ss.length).length ≤ 10 := (numF_len 9 ss.length).2
  have HFL : Hid (∀ k, ((ss.take k).flatMap txL).length ≤ 16 * (281474976 + 10)) := fun k => by
    have h1 := flat_len (ss.take k) 281474976 (fun s hs' => hs s (List.mem_of_mem_take hs'))
    have h2 : (ss.take k).length ≤ 16 := by rw [List.length_take]; omega
    exact Nat.le_trans h1 (Nat.mul_le_mul_right _ h2)
  obtain ⟨v, hp, hv⟩ := h
  have hlt := (Array.getElem?_eq_some_iff.1 hp).1
  have cp := cell_of hp 0
  have HP := hide hp
  have HV := hide hv
  obtain ⟨ow, cv, rfl⟩ : ∃ ow cv, v = .slice ow l.length cv := by
    rcases hv.2 with ⟨h1, h0⟩ | ⟨g, cap, cur, h1, _⟩
    · exact ⟨none, 0, by rw [h1, h0]⟩
    · exact ⟨_, cap, h1⟩
  have HC := hide (appendNumber_any (.slice ow l.length cv) l ss.length (p + 1) w.drew hv hlt (by omega) (by omega))
  clear hp hv hL hs
  go_enter Tryz.func227, Tryz.ntmps227
  go_wp2_with fail
  go_region_law (refine step_callsX (by rfl) (by simp [go_sem]) HC.out ?_; rintro v1 w2 ⟨hown, hgr⟩; obtain ⟨q1, q2, hW, hB⟩ := wr_set (w := w.drew) HP.out HV.out hgr hown; obtain ⟨o1, n1, c1, rfl⟩ : ∃ o1 n1 c1, v1 = .slice o1 n1 c1 := (by rcases hown.2 with ⟨h1, h0⟩ | ⟨g, cap, cur, h1, _⟩; exact ⟨none, 0, 0, h1⟩; exact ⟨_, _, cap, h1⟩); have HWW := hide hW; have HBB : Hid (Below p w (w2.setCell ⟨p, 0, none⟩ (.slice o1 n1 c1))) := (Below.refl p w).drew.trans hB; clear hown hgr hW hB)
  all_goals
    obtain ⟨X, hX⟩ : ∃ X, X = w2.setCell ⟨p, 0, none⟩ (.slice o1 n1 c1) := ⟨_, rfl⟩
    rw [← hX] at HWW HBB ⊢
    have cb := HCB.out X HBB.out
    clear hX q1 q2 HC HP HV cp
    go_wp2
    go_loopw [22] (fun i wr => ∃ k : Nat, k ≤ ss.length ∧ i = .int .i64 k ∧ Wr p wr (l ++ numL ss.length ++ (ss.take k).flatMap txL) ∧ Below p w wr) (fun i _ => ss.length - (intOf i).toNat)
    case atStart => exact ⟨0, Nat.zero_le _, rfl, by simpa using HWW.out, HBB.out⟩
    case round =>
      obtain ⟨k, hk, rfl, hwr, hnx⟩ := hrel
      have HWR := hide hwr
      have HX := hide hnx
      by_cases hlk : k < ss.length
      · have k0 : (0 : Int) ≤ (k : Int) := Int.natCast_nonneg _
        have k1 : (k : Int) < (ss.length : Int) := by omega
        obtain ⟨_, _, hvv, hcc⟩ := HL.out wr hnx
        cases hvv
        obtain ⟨g, o, rfl, hg, c0⟩ := hcc k hlk
        have hb1 : Below wr.heap.size wr (wr.alloc (.cells #[.string ss[k]] 9)) := (Below.refl _ _).alloc (Nat.le_refl _) _
        have hpl := hwr.lt
        have HT := hide (wtext_any p wr.heap.size 0 ss[k] _ (wr.alloc (.cells #[.string ss[k]] 9)) (hwr.keep hb1) (cell_of (heap_alloc_new wr _) 0) (Or.inr ⟨_, _, heap_alloc_new wr _, by decide⟩) (HS.out _ (List.getElem_mem hlk)) (by have := HFL.out k; simp only [List.length_append]; omega))
        have HTK : Hid ((ss.take (k + 1)).flatMap txL = (ss.take k).flatMap txL ++ txL ss[k]) := by
          show _ = _
          rw [List.take_succ_eq_append_getElem hlk, List.flatMap_append]
          simp
        have HTX : Hid (txL ss[k] = numL (ss[k]).size ++ (ss[k]).data.toList) := rfl
        have HB1 : Hid (Below p w (wr.alloc (.cells #[.string ss[k]] 9))) := hnx.alloc (by omega) _
        generalize ss[k]'hlk = s at *
        clear hwr hnx hcc hb1
        go_wp2_with fail
        refine HT.out.mono ?_
        rintro x w3 ⟨rfl, hW3, b3⟩
        have HW3 : Hid (Wr p w3 (l ++ numL ss.length ++ (ss.take (k + 1)).flatMap txL)) := by
          show Wr _ _ _
          rw [HTK.out, HTX.out, ← List.append_assoc]; exact hW3
        have HB3 := hide (HB1.out.trans b3)
        clear hW3 b3
        go_wp2_with fail
        go_roundw
        case rel => exact ⟨k + 1, by omega, by go_num, HW3.out, HB3.out⟩
        case measure => simp [intOf]; omega
      · have k1 : ¬ (k : Int) < (ss.length : Int) := by omega
        have HF : Hid (Wr p wr (l ++ lsL ss)) := by
          show Wr _ _ _
          rw [List.take_of_length_le (by omega), List.append_assoc] at hwr
          exact hwr
        clear hwr hnx
        go_wp2_with fail
        first | go_end0 | refine bodyPost_end (results_none rfl _ _ _) rfl ?_
        exact ⟨rfl, HF.out, HX.out⟩
end Go.Proofs.YtcogblelfeifbaaGreatDoor.rc
