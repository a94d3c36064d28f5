import Derived.Test.YtkkgngmhdlmgnaaDoorRefRead6
namespace Go.Proofs.YtkkgngmhdlmgnaaDoor.jw
open Go.ChangeShapes Go.WideShapes Go.ChangeAt Go.RowKit Go.Proofs.YtkkgngmhdlmgnaaDoor.common
attribute [local go_sem ↓] Go.wp_at_zero Go.wp_at_succ

theorem ext_list (s : ByteArray) (a b : Nat) : (s.extract a b).data.toList = (s.data.toList.drop a).take (b - a) := by
  rw [ByteArray.data_extract, Array.toList_extract, List.extract_eq_take_drop]
theorem pre_take (p l : List UInt8) : p.isPrefixOf l = decide (l.take p.length = p) := by
  by_cases h : l.take p.length = p
  · rw [decide_eq_true h]
    exact List.isPrefixOf_iff_prefix.2 ⟨l.drop p.length, by conv => lhs; arg 1; rw [← h]
                                                            exact List.take_append_drop _ _⟩
  · rw [decide_eq_false h]
    apply Bool.eq_false_iff.2
    intro h2
    obtain ⟨t, ht⟩ := List.isPrefixOf_iff_prefix.1 h2
    apply h
    rw [← ht]; simp

set_option maxRecDepth 100000 in
set_option maxHeartbeats 1600000 in
theorem refWord_any (s p : ByteArray) (a : Nat) (w : World) (hs : s.size < 9223372036854775000) (hp : p.size < 100) (ha : a ≤ s.size) (I : Int) (hI : I = (a : Int)) :
    Calls Tryd.prog 67 #[.string s, .int .i64 I, .string p] w fun x w' => x = .returned (.bool (p.data.toList.isPrefixOf (s.data.toList.drop a))) ∧ w' = w := by
  subst hI
  by_cases hle : a + p.size ≤ s.size
  · have g1 : (a : Int) + (p.size : Int) ≤ (s.size : Int) := by omega
    have g2 : (0 : Int) ≤ (a : Int) := by omega
    have g3 : (a : Int) ≤ (a : Int) + (p.size : Int) := by omega
    have g4 : ((a : Int) + (p.size : Int)).toNat = a + p.size := by omega
    have hx := ext_list s a (a + p.size)
    rw [Nat.add_sub_cancel_left] at hx
    have HX := hide hx
    clear hx
    go_enter Tryd.func67, Tryd.ntmps67
    go_wp2
    go_ret
    refine ⟨?_, rfl⟩
    rw [pre_take, len_list, ← HX.out]
    by_cases he : s.extract a (a + p.size) = p
    · rw [decide_eq_true (by rw [he])]; simp [he]
    · rw [decide_eq_false (fun h => he (ByteArray.ext (Array.toList_inj.1 h)))]
      have hb : ((s.extract a (a + p.size)).toList == p.toList) = false := beq_false_of_ne (fun h => he (ByteArray.ext (Array.toList_inj.1 (by rw [← ByteArray.toList_eq, ← ByteArray.toList_eq]; exact h))))
      show Ending.returned (Value.bool ((s.extract a (a + p.size)).toList == p.toList)) = _
      rw [hb]
  · have g1 : ¬ (a : Int) + (p.size : Int) ≤ (s.size : Int) := by omega
    have g1d : decide ((a : Int) + (p.size : Int) ≤ (s.size : Int)) = false := decide_eq_false g1
    have HF : Hid (p.data.toList.isPrefixOf (s.data.toList.drop a) = false) := by
      show _ = _
      rw [pre_take]
      apply decide_eq_false
      intro h
      have := congrArg List.length h
      rw [List.length_take, List.length_drop, len_list, len_list] at this
      omega
    rw [HF.out]
    go_enter Tryd.func67, Tryd.ntmps67
    go_wp2
    go_ret
    exact ⟨rfl, rfl⟩
end Go.Proofs.YtkkgngmhdlmgnaaDoor.jw
