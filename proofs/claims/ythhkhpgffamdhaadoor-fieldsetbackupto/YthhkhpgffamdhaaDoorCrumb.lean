import Derived.Test.YthhkhpgffamdhaaDoorFieldCk
namespace Go.Proofs.YthhkhpgffamdhaaDoor.fd
open Go.ChangeShapes Go.WideShapes Go.ChangeAt Go.RowKit Go.Proofs.YthhkhpgffamdhaaDoor.common Go.Proofs.YthhkhpgffamdhaaDoor.bk
attribute [local go_sem ↓] Go.wp_at_zero Go.wp_at_succ

set_option maxRecDepth 100000 in
set_option maxHeartbeats 3200000 in
theorem crumb_any (s : ByteArray) (w : World) (hs : s.size ≤ 4611686018427387904) :
    Calls Tryd.prog 18 #[.string s] w fun e w' => e = .returned (.bool (s.data.toList.all Fd.ck)) ∧ w' = w := by
  have HT : Hid (∀ k (_ : k < s.size), (s.data.toList.take (k + 1)).all Fd.ck = ((s.data.toList.take k).all Fd.ck && Fd.ck s[k])) := fun k h => all_take _ Fd.ck k (by simpa using h)
  have HE : Hid (s.data.toList.take s.size = s.data.toList) := take_all s
  have HA : Hid (∀ k, (s.data.toList.take k).all Fd.ck = false → s.data.toList.all Fd.ck = false) := by
    intro k h
    have e : s.data.toList.all Fd.ck = ((s.data.toList.take k).all Fd.ck && (s.data.toList.drop k).all Fd.ck) := by rw [← List.all_append, List.take_append_drop]
    rw [e, h]; rfl
  go_enter Tryd.func18, Tryd.ntmps18
  go_wp2_with fail
  go_loopw [3] (fun i wr => ∃ k : Nat, k ≤ s.size ∧ i = .int .i64 k ∧ (s.data.toList.take k).all Fd.ck = true ∧ wr = w) (fun i _ => s.size - (intOf i).toNat)
  case atStart => exact ⟨0, Nat.zero_le _, rfl, by simp, rfl⟩
  case round =>
    obtain ⟨k, hk, rfl, ha, rfl⟩ := hrel
    have HAK := hide ha
    clear ha
    by_cases hlt : k < s.size
    · have hki : (k : Int) < (s.size : Int) := by omega
      have HTK := hide (HT.out k hlt)
      rcases ck_cases s[k] with ⟨hp, hr⟩ | ⟨hp, hr⟩
      · have HP := hide hp
        clear hp
        obtain ⟨q1, q2, q3, q4, q5, q6⟩ := hr
        have p1 : ¬ (s[k].toNat : Int) ≤ 32 := by omega
        have p2 : ¬ (127 : Int) ≤ (s[k].toNat : Int) := by omega
        have p3 : ((s[k].toNat : Int) == 34) = false := beq_false_of_ne (by omega)
        have p4 : ((s[k].toNat : Int) == 44) = false := beq_false_of_ne (by omega)
        have p5 : ((s[k].toNat : Int) == 59) = false := beq_false_of_ne (by omega)
        have p6 : ((s[k].toNat : Int) == 92) = false := beq_false_of_ne (by omega)
        clear q1 q2 q3 q4 q5 q6
        go_wp2_with fail
        go_roundw
        case rel => exact ⟨k + 1, by omega, by go_num, by rw [HTK.out, HAK.out, HP.out]; rfl, by trivial⟩
        case measure => simp [intOf]; omega
      · have HP := hide hp
        clear hp
        have HR : Hid (s.data.toList.all Fd.ck = false) := HA.out (k + 1) (by rw [HTK.out, HP.out, Bool.and_false])
        have hr6 : (s[k].toNat : Int) ≤ 32 ∨ (127 : Int) ≤ (s[k].toNat : Int) ∨ (s[k].toNat : Int) = 34 ∨ (s[k].toNat : Int) = 44 ∨ (s[k].toNat : Int) = 59 ∨ (s[k].toNat : Int) = 92 := by omega
        clear hr
        rcases hr6 with h | h | h | h | h | h
        all_goals
          go_wp2_with fail
          go_ret
          exact ⟨by rw [HR.out]; rfl, rfl⟩
    · obtain rfl : k = s.size := by omega
      rw [HE.out] at HAK
      go_wp2_with fail
      go_ret
      exact ⟨by rw [HAK.out]; rfl, rfl⟩

end Go.Proofs.YthhkhpgffamdhaaDoor.fd
