import Derived.Test.YtilhfmhjgfmejaaGreatDoorMTmPath
namespace Go.Proofs.YtilhfmhjgfmejaaGreatDoor.tm
open Go.ChangeShapes Go.WideShapes Go.ChangeAt Go.RowKit Go.Proofs.YtilhfmhjgfmejaaGreatDoor.common Go.Proofs.YtilhfmhjgfmejaaGreatDoor.bk Go.Proofs.YtilhfmhjgfmejaaGreatDoor.fd
attribute [local go_sem ↓] Go.wp_at_zero Go.wp_at_succ

set_option maxRecDepth 100000 in
set_option maxHeartbeats 1600000 in
theorem refSplit_any (s : ByteArray) (w : World) (hs : s.size ≤ 4611686018427387904) :
    Calls Tryz.prog 76 #[.string s] w fun e w' => e = .returned (.tuple #[S (before 63 s.data.toList), S (behind 63 s.data.toList), .bool (s.data.toList.contains 63)]) ∧ Below w.heap.size w w' := by
  have HT : Hid (∀ k (_ : k < s.size), s.data.toList.take (k + 1) = s.data.toList.take k ++ [s[k]]) := fun k h => take_snoc s k h
  have HE : Hid (s.data.toList.take s.size = s.data.toList) := take_all s
  have HN : Hid ((∀ x ∈ s.data.toList, x ≠ (63 : UInt8)) → before 63 s.data.toList = s.data.toList ∧ behind 63 s.data.toList = [] ∧ s.data.toList.contains 63 = false) := fun h => cut_no h
  have HY : Hid (∀ k (_ : k < s.size), s[k] = 63 → (∀ x ∈ s.data.toList.take k, x ≠ (63 : UInt8)) → before 63 s.data.toList = s.data.toList.take k ∧ behind 63 s.data.toList = s.data.toList.drop (k + 1) ∧ s.data.toList.contains 63 = true) := by
    intro k h e hx
    have e3 : s.data.toList = s.data.toList.take k ++ 63 :: s.data.toList.drop (k + 1) := by
      have h1 : s.data.toList.drop k = s.data.toList[k]'(by simpa using h) :: s.data.toList.drop (k + 1) := List.drop_eq_getElem_cons (by simpa using h)
      rw [at_list s k h, e] at h1
      rw [← h1, List.take_append_drop]
    obtain ⟨a1, a2, a3⟩ := cut_at (r := s.data.toList.drop (k + 1)) hx
    rw [← e3] at a1 a2 a3
    exact ⟨a1, a2, a3⟩
  generalize s.data.toList.contains 63 = f at *
  generalize before 63 s.data.toList = bf at *
  generalize behind 63 s.data.toList = bh at *
  go_enter Tryz.func76, Tryz.ntmps76
  go_wp2_with fail
  go_loopw [5] (fun i wr => ∃ k : Nat, k ≤ s.size ∧ i = .int .i64 k ∧ Hid (∀ x ∈ s.data.toList.take k, x ≠ (63 : UInt8)) ∧ wr = w) (fun i _ => s.size - (intOf i).toNat)
  case atStart => exact ⟨0, Nat.zero_le _, rfl, fun x h => by simp at h, rfl⟩
  case round =>
    obtain ⟨k, hk, rfl, HAK, rfl⟩ := hrel
    by_cases hlt : k < s.size
    · have hki : (k : Int) < (s.size : Int) := by omega
      by_cases hq : s[k].toNat = 63
      · have hqi : (s[k].toNat : Int) = 63 := by omega
        have hq8 : s[k] = 63 := UInt8.toNat_inj.1 hq
        obtain ⟨r1, r2, r3⟩ := HY.out k hlt hq8 HAK.out
        have HX1 : Hid (Value.string (s.extract 0 k) = S bf) := by show _ = _; rw [r1]; exact congrArg Value.string (ext_take s k)
        have HX2 : Hid (Value.string (s.extract (k + 1) s.size) = S bh) := by show _ = _; rw [r2]; exact congrArg Value.string (ext_drop s (k + 1))
        have HX3 := hide r3
        clear r1 r2 r3 hq8
        have k0 : (0 : Int) ≤ (k : Int) := Int.natCast_nonneg _
        have k1 : (k : Int) ≤ (s.size : Int) := by omega
        have k2 : (k : Int) + 1 ≤ (s.size : Int) := by omega
        have k3 : (0 : Int) ≤ (k : Int) + 1 := by omega
        have k4 : ((k : Int) + 1).toNat = k + 1 := by omega
        have ww : IntKind.i64.wrap ((k : Int) + 1) = (k : Int) + 1 := wrap_le _ (by omega) (by omega)
        go_wp2_with fail
        go_region
        all_goals
          go_wp2_with fail
          refine bodyPost_ret (results_tmp3 rfl _ _ _) rfl ⟨?_, (Below.refl _ _).drew⟩
          rw [← HX1.out, ← HX2.out, HX3.out]
          rfl
      · have hqi : ¬ (s[k].toNat : Int) = 63 := by omega
        have HR : Hid (∀ x ∈ s.data.toList.take (k + 1), x ≠ (63 : UInt8)) := by
          show ∀ x ∈ s.data.toList.take (k + 1), x ≠ (63 : UInt8)
          rw [HT.out k hlt]
          intro x hx
          rcases List.mem_append.1 hx with hx | hx
          · exact HAK.out x hx
          · simp at hx
            subst hx
            intro e; rw [e] at hq; exact hq rfl
        go_wp2_with fail
        go_roundw
        case rel => exact ⟨k + 1, by omega, by go_num, HR, by trivial⟩
        case measure => simp [intOf]; omega
    · obtain rfl : k = s.size := by omega
      rw [HE.out] at HAK
      obtain ⟨r1, r2, r3⟩ := HN.out HAK.out
      have HX1 : Hid (Value.string s = S bf) := by show _ = _; rw [r1]
      have HX2 : Hid (Value.string ⟨#[]⟩ = S bh) := by show _ = _; rw [r2]
      have HX3 := hide r3
      clear r1 r2 r3
      go_wp2_with fail
      refine bodyPost_ret (results_tmp3 rfl _ _ _) rfl ⟨?_, Below.refl _ _⟩
      rw [← HX1.out, ← HX2.out, HX3.out]
      rfl

end Go.Proofs.YtilhfmhjgfmejaaGreatDoor.tm
