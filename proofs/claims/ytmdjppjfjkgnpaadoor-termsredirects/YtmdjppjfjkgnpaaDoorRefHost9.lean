import Derived.Test.YtmdjppjfjkgnpaaDoorRefRun0
namespace Go.Proofs.YtmdjppjfjkgnpaaDoor.tm
open Go.ChangeShapes Go.WideShapes Go.ChangeAt Go.RowKit Go.Proofs.YtmdjppjfjkgnpaaDoor.common Go.Proofs.YtmdjppjfjkgnpaaDoor.bk
attribute [local go_sem ↓] Go.wp_at_zero Go.wp_at_succ

def ldB (b : UInt8) : Bool := letB b || Tm.btw 48 57 b
theorem ld_nat (c : UInt8) : ldB c = decide (65 ≤ c.toNat ∧ c.toNat ≤ 90 ∨ 97 ≤ c.toNat ∧ c.toNat ≤ 122 ∨ 48 ≤ c.toNat ∧ c.toNat ≤ 57) := byte_eq ldB (fun c => decide (65 ≤ c.toNat ∧ c.toNat ≤ 90 ∨ 97 ≤ c.toNat ∧ c.toNat ≤ 122 ∨ 48 ≤ c.toNat ∧ c.toNat ≤ 57)) (by decide +kernel) c
theorem lab_ld (c : UInt8) : labB c = (ldB c || decide (c.toNat = 45)) := rfl

set_option maxHeartbeats 1600000 in
theorem refLetter_any (c : UInt8) (w : World) :
    Calls Tryd.prog 87 #[B c] w fun e w' => e = .returned (.bool (ldB c)) ∧ w' = w := by
  have hc := c.toNat_lt
  have HU := hide (ld_nat c)
  generalize ldB c = u at *
  go_enter Tryd.func87, Tryd.ntmps87
  go_wp2
  all_goals (go_ret; refine ⟨?_, rfl⟩; rw [HU.out])
  all_goals
    simp only [Array.getD_eq_getD_getElem?]
    simp
    try (rw [Bool.eq_iff_iff])
    try (simp)
    try (omega)

set_option maxRecDepth 100000 in
set_option maxHeartbeats 6400000 in
theorem refLabel_any (s : ByteArray) (w : World) (hs : s.size ≤ 4611686018427387904) :
    Calls Tryd.prog 72 #[.string s] w fun e w' => e = .returned (.bool (isLab s)) ∧ w' = w := by
  obtain ⟨R, hR⟩ : ∃ R, R = isLab s := ⟨_, rfl⟩
  have HW : Hid (R = ((!s.data.toList.isEmpty && decide (s.size ≤ 63) && s.data.toList.all labB) && edge s.data.toList)) := by
    show _ = _
    rw [hR]
    unfold isLab Tm.word
    rw [len_list]
  rw [← hR]
  clear hR
  by_cases he : s = ⟨#[]⟩
  · subst he
    have HQ : Hid (R = false) := HW.out
    go_enter Tryd.func72, Tryd.ntmps72
    go_wp2_with fail
    go_ret
    exact ⟨by rw [HQ.out]; rfl, rfl⟩
  · obtain ⟨h1, h2, h3⟩ := word_ne he
    by_cases hm : 63 < s.size
    · have hmi : (63 : Int) < (s.size : Int) := by omega
      have HQ : Hid (R = false) := by show _ = _; rw [HW.out, decide_eq_false (by omega), Bool.and_false, Bool.false_and, Bool.false_and]
      go_enter Tryd.func72, Tryd.ntmps72
      go_wp2_with fail
      go_ret
      exact ⟨by rw [HQ.out]; rfl, rfl⟩
    · have hmi : ¬ (63 : Int) < (s.size : Int) := by omega
      have hp : 0 < s.size := by
        cases hz : s.size with
        | zero => exact absurd (str_nil s (List.eq_nil_of_length_eq_zero (by rw [len_list]; exact hz))) he
        | succ n => omega
      have hpi : (0 : Int) < (s.size : Int) := by omega
      obtain ⟨n, hn⟩ : ∃ n, s.size = n + 1 := ⟨s.size - 1, by omega⟩
      have hln : n < s.size := by omega
      have hlni : (n : Int) < (s.size : Int) := by omega
      have HHd := head_is s hp
      have HLs : s.data.toList.getLastD 0 = s[n] := by
        have := last_is s hp
        have e : s.size - 1 = n := by omega
        simp only [e] at this
        exact this
      have w1 : IntKind.i64.wrap ((s.size : Int) - 1) = (n : Int) := by rw [wrap_le _ (by omega) (by omega)]; omega
      have w64 : wrap64 ((s.size : Int) - 1) = (n : Int) := by rw [IntWalk.wrap64_in _ (by omega)]; omega
      have HE : Hid (edge s.data.toList = (decide (s[0].toNat ≠ 45) && decide (s[n].toNat ≠ 45))) := by
        show _ = _
        unfold edge
        rw [HHd, HLs]
      rw [h2, decide_eq_true (show s.size ≤ 63 by omega)] at HW
      have HT : Hid (∀ k (_ : k < s.size), (s.data.toList.take (k + 1)).all labB = ((s.data.toList.take k).all labB && labB s[k])) := fun k h => Tm.all_take _ _ k (by simpa using h)
      have HTE : Hid (s.data.toList.take s.size = s.data.toList) := take_all s
      have HA : Hid (∀ k, (s.data.toList.take k).all labB = false → s.data.toList.all labB = false) := fun k h => Tm.all_short _ _ k h
      have HN := hide hn
      clear HHd HLs hn he
      rcases is_cases 45 45 rfl s[0] with ⟨u1, a1, a2⟩ | ⟨u1, a1, a2⟩
      · have HQ : Hid (R = false) := by
          show _ = _
          rw [HW.out, HE.out, decide_eq_false (by have := of_decide_eq_true u1; omega), Bool.false_and, Bool.and_false]
        go_enter Tryd.func72, Tryd.ntmps72
        go_wp2_with fail
        go_ret
        exact ⟨by rw [HQ.out]; rfl, rfl⟩
      rcases is_cases 45 45 rfl s[n] with ⟨v1, b1, b2⟩ | ⟨v1, b1, b2⟩
      · have HQ : Hid (R = false) := by
          show _ = _
          rw [HW.out, HE.out, decide_eq_false (p := s[n].toNat ≠ 45) (by have := of_decide_eq_true v1; omega), Bool.and_false, Bool.and_false]
        go_enter Tryd.func72, Tryd.ntmps72
        go_wp2_with fail
        go_ret
        exact ⟨by rw [HQ.out]; rfl, rfl⟩
      have HQ : Hid (R = s.data.toList.all labB) := by
        show _ = _
        rw [HW.out, HE.out, decide_eq_true (by have := of_decide_eq_false u1; omega), decide_eq_true (by have := of_decide_eq_false v1; omega)]; simp
      clear HW HE
      go_enter Tryd.func72, Tryd.ntmps72
      go_wp2_with fail
      go_loopw [3] (fun i wr => ∃ k : Nat, k ≤ s.size ∧ i = .int .i64 k ∧ Hid ((s.data.toList.take k).all labB = true) ∧ wr = w) (fun i _ => s.size - (intOf i).toNat)
      case atStart => exact ⟨0, Nat.zero_le _, rfl, by show _ = _; simp, rfl⟩
      case round =>
        obtain ⟨k, hk, rfl, HAK, rfl⟩ := hrel
        by_cases hlt : k < s.size
        · have hki : (k : Int) < (s.size : Int) := by omega
          have HTK := hide (HT.out k hlt)
          have HL := hide (refLetter_any s[k] wr)
          have HB := hide (lab_ld s[k])
          rcases is_cases 45 45 rfl s[k] with ⟨c1, d1, d2⟩ | ⟨c1, d1, d2⟩
          · have HR : Hid ((s.data.toList.take (k + 1)).all labB = true) := by
              show _ = _
              rw [HTK.out, HB.out, HAK.out, c1, Bool.or_true]; rfl
            have d3 : ((s[k].toNat : Int) != 45) = false := by rw [bne, d2]; rfl
            unfold B at HL
            rw [d1] at HL
            generalize ldB s[k] = t at *
            cases t
            all_goals
              go_wp2_with (go_at_call 87; refine HL.out.mono ?_; rintro x w2 ⟨rfl, rfl⟩)
              go_roundw
              case rel => exact ⟨k + 1, by omega, by go_num, HR, by trivial⟩
              case measure => simp [intOf]; omega
          · have d3 : ((s[k].toNat : Int) != 45) = true := by rw [bne, d2]; rfl
            rw [c1, Bool.or_false] at HB
            rw [HB.out] at HTK
            generalize ldB s[k] = t at *
            cases t with
            | true =>
              have HR : Hid ((s.data.toList.take (k + 1)).all labB = true) := by
                show _ = _
                rw [HTK.out, HAK.out]; rfl
              go_wp2_with (go_at_call 87; refine HL.out.mono ?_; rintro x w2 ⟨rfl, rfl⟩)
              go_roundw
              case rel => exact ⟨k + 1, by omega, by go_num, HR, by trivial⟩
              case measure => simp [intOf]; omega
            | false =>
              have HR : Hid (R = false) := by
                show _ = _
                rw [HQ.out]
                exact HA.out (k + 1) (by rw [HTK.out, Bool.and_false])
              go_wp2_with (go_at_call 87; refine HL.out.mono ?_; rintro x w2 ⟨rfl, rfl⟩)
              go_ret
              exact ⟨by rw [HR.out]; rfl, rfl⟩
        · obtain rfl : k = s.size := by omega
          rw [HTE.out] at HAK
          have HR : Hid (R = true) := by show _ = _; rw [HQ.out, HAK.out]
          go_wp2_with fail
          go_ret
          exact ⟨by rw [HR.out]; rfl, rfl⟩

end Go.Proofs.YtmdjppjfjkgnpaaDoor.tm
