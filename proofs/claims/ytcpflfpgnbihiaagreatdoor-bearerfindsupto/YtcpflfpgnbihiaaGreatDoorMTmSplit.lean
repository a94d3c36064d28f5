import Derived.Test.YtcpflfpgnbihiaaGreatDoorMBfMath
namespace Go.Proofs.YtcpflfpgnbihiaaGreatDoor.tm
open Go.ChangeShapes Go.WideShapes Go.ChangeAt Go.RowKit Go.Proofs.YtcpflfpgnbihiaaGreatDoor.common Go.Proofs.YtcpflfpgnbihiaaGreatDoor.bk Go.Proofs.YtcpflfpgnbihiaaGreatDoor.fd
attribute [local go_sem ↓] Go.wp_at_zero Go.wp_at_succ

set_option maxRecDepth 100000 in
theorem split_any (s : ByteArray) (w : World) (hs : s.size ≤ 4611686018427387904) :
    Calls Tryz.prog 23 #[.string s] w fun e w' => e = .returned (.tuple #[S (before 63 s.data.toList), S (behind 63 s.data.toList), .bool (s.data.toList.contains 63)]) ∧ Below w.heap.size w w' := by
  have HC := hide (cut_any s 63 w hs)
  generalize s.data.toList.contains 63 = f at *
  go_enter Tryz.func23, Tryz.ntmps23
  go_wp2_with fail
  refine HC.out.mono ?_
  rintro e w' ⟨rfl, hb⟩
  have HB := hide hb
  clear hb
  go_wp2_with fail
  refine bodyPost_ret (results_tmp3 rfl _ _ _) rfl ⟨rfl, HB.out⟩

theorem ba_parts (s : ByteArray) (h : s.data.toList.contains 63 = true) : before 63 s.data.toList ++ [63] ++ behind 63 s.data.toList = s.data.toList := by
  rcases index_cases 63 s.data.toList with ⟨h1, h2⟩ | ⟨i, h1, h2, h3, h4⟩
  · rw [(cut_no h2).2.2] at h; cases h
  · obtain ⟨a1, a2, _⟩ := cut_at (r := s.data.toList.drop (i + 1)) h4
    rw [← h3] at a1 a2
    rw [a1, a2, List.append_assoc, List.singleton_append]
    exact h3.symm
theorem ba_whole (s : ByteArray) (h : s.data.toList.contains 63 = false) : before 63 s.data.toList = s.data.toList ∧ behind 63 s.data.toList = [] := by
  rcases index_cases 63 s.data.toList with ⟨h1, h2⟩ | ⟨i, h1, h2, h3, h4⟩
  · exact ⟨(cut_no h2).1, (cut_no h2).2.1⟩
  · obtain ⟨_, _, a3⟩ := cut_at (r := s.data.toList.drop (i + 1)) h4
    rw [← h3] at a3
    rw [a3] at h; cases h
theorem ba_none (s : ByteArray) : ∀ x ∈ before 63 s.data.toList, x ≠ (63 : UInt8) := by
  rcases index_cases 63 s.data.toList with ⟨h1, h2⟩ | ⟨i, h1, h2, h3, h4⟩
  · rw [(cut_no h2).1]; exact h2
  · obtain ⟨a1, _, _⟩ := cut_at (r := s.data.toList.drop (i + 1)) h4
    rw [← h3] at a1
    rw [a1]; exact h4

end Go.Proofs.YtcpflfpgnbihiaaGreatDoor.tm

namespace Go.Proofs.YtcpflfpgnbihiaaGreatDoor.tm
open Go.ChangeShapes Go.WideShapes Go.ChangeAt Go.RowKit Go.Proofs.YtcpflfpgnbihiaaGreatDoor.common Go.Proofs.YtcpflfpgnbihiaaGreatDoor.bk Go.Proofs.YtcpflfpgnbihiaaGreatDoor.fd
attribute [local go_sem ↓] Go.wp_at_zero Go.wp_at_succ

set_option maxRecDepth 100000 in
set_option maxHeartbeats 1600000 in
theorem refSplit_any (s : ByteArray) (w : World) (hs : s.size ≤ 4611686018427387904) :
    Calls Tryz.prog 17 #[.string s] w fun e w' => e = .returned (.tuple #[S (before 63 s.data.toList), S (behind 63 s.data.toList), .bool (s.data.toList.contains 63)]) ∧ Below w.heap.size w w' := by
  have HT : Hid (∀ k (_ : k < s.size), s.data.toList.take (k + 1) = s.data.toList.take k ++ [s[k]]) := fun k h => take_snoc s k h
  have HE : Hid (s.data.toList.take s.size = s.data.toList) := take_all s
  have HN : Hid ((∀ x ∈ s.data.toList, x ≠ (63 : UInt8)) → before 63 s.data.toList = s.data.toList ∧ behind 63 s.data.toList = [] ∧ s.data.toList.contains 63 = false) := fun h => cut_no h
  have HY : Hid (∀ k (_ : k < s.size), s[k] = 63 → (∀ x ∈ s.data.toList.take k, x ≠ (63 : UInt8)) → before 63 s.data.toList = s.data.toList.take k ∧ behind 63 s.data.toList = s.data.toList.drop (k + 1) ∧ s.data.toList.contains 63 = true) := by
    intro k h e hx
    have e3 : s.data.toList = s.data.toList.take k ++ 63 :: s.data.toList.drop (k + 1) := by
      have h1 : s.data.toList.drop k = s.data.toList[k]'(by simpa using h) :: s.data.toList.drop (k + 1) := List.drop_eq_getElem_cons (by simpa using h)
      rw [at_list s k h, e] at h1
      rw [← h1, List.take_append_drop]
    obtain ⟨a1, a2, a3⟩ := cut_at (r := s.data.toList.drop (k + 1)) hx
    rw [← e3] at a1 a2 a3
    exact ⟨a1, a2, a3⟩
  generalize s.data.toList.contains 63 = f at *
  generalize before 63 s.data.toList = bf at *
  generalize behind 63 s.data.toList = bh at *
  go_enter Tryz.func17, Tryz.ntmps17
  go_wp2_with fail
  go_loopw [5] (fun i wr => ∃ k : Nat, k ≤ s.size ∧ i = .int .i64 k ∧ Hid (∀ x ∈ s.data.toList.take k, x ≠ (63 : UInt8)) ∧ wr = w) (fun i _ => s.size - (intOf i).toNat)
  case atStart => exact ⟨0, Nat.zero_le _, rfl, fun x h => by simp at h, rfl⟩
  case round =>
    obtain ⟨k, hk, rfl, HAK, rfl⟩ := hrel
    by_cases hlt : k < s.size
    · have hki : (k : Int) < (s.size : Int) := by omega
      by_cases hq : s[k].toNat = 63
      · have hqi : (s[k].toNat : Int) = 63 := by omega
        have hq8 : s[k] = 63 := UInt8.toNat_inj.1 hq
        obtain ⟨r1, r2, r3⟩ := HY.out k hlt hq8 HAK.out
        have HX1 : Hid (Value.string (s.extract 0 k) = S bf) := by show _ = _; rw [r1]; exact congrArg Value.string (ext_take s k)
        have HX2 : Hid (Value.string (s.extract (k + 1) s.size) = S bh) := by show _ = _; rw [r2]; exact congrArg Value.string (ext_drop s (k + 1))
        have HX3 := hide r3
        clear r1 r2 r3 hq8
        have k0 : (0 : Int) ≤ (k : Int) := Int.natCast_nonneg _
        have k1 : (k : Int) ≤ (s.size : Int) := by omega
        have k2 : (k : Int) + 1 ≤ (s.size : Int) := by omega
        have k3 : (0 : Int) ≤ (k : Int) + 1 := by omega
        have k4 : ((k : Int) + 1).toNat = k + 1 := by omega
        have ww : IntKind.i64.wrap ((k : Int) + 1) = (k : Int) + 1 := wrap_le _ (by omega) (by omega)
        go_wp2_with fail
        go_region
        all_goals
          go_wp2_with fail
          refine bodyPost_ret (results_tmp3 rfl _ _ _) rfl ⟨?_, (Below.refl _ _).drew⟩
          rw [← HX1.out, ← HX2.out, HX3.out]
          rfl
      · have hqi : ¬ (s[k].toNat : Int) = 63 := by omega
        have HR : Hid (∀ x ∈ s.data.toList.take (k + 1), x ≠ (63 : UInt8)) := by
          show ∀ x ∈ s.data.toList.take (k + 1), x ≠ (63 : UInt8)
          rw [HT.out k hlt]
          intro x hx
          rcases List.mem_append.1 hx with hx | hx
          · exact HAK.out x hx
          · simp at hx
            subst hx
            intro e; rw [e] at hq; exact hq rfl
        go_wp2_with fail
        go_roundw
        case rel => exact ⟨k + 1, by omega, by go_num, HR, by trivial⟩
        case measure => simp [intOf]; omega
    · obtain rfl : k = s.size := by omega
      rw [HE.out] at HAK
      obtain ⟨r1, r2, r3⟩ := HN.out HAK.out
      have HX1 : Hid (Value.string s = S bf) := by show _ = _; rw [r1]
      have HX2 : Hid (Value.string ⟨#[]⟩ = S bh) := by show _ = _; rw [r2]
      have HX3 := hide r3
      clear r1 r2 r3
      go_wp2_with fail
      refine bodyPost_ret (results_tmp3 rfl _ _ _) rfl ⟨?_, Below.refl _ _⟩
      rw [← HX1.out, ← HX2.out, HX3.out]
      rfl

end Go.Proofs.YtcpflfpgnbihiaaGreatDoor.tm
