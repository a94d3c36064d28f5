import Derived.Test.YtmdjppjfjkgnpaaDoorRefHost9
namespace Go.Proofs.YtmdjppjfjkgnpaaDoor.tm
open Go.ChangeShapes Go.WideShapes Go.ChangeAt Go.RowKit Go.Proofs.YtmdjppjfjkgnpaaDoor.common Go.Proofs.YtmdjppjfjkgnpaaDoor.bk
attribute [local go_sem ↓] Go.wp_at_zero Go.wp_at_succ

theorem numOf_snoc (c : UInt8) : ∀ (l : List UInt8) (n : Nat), numOf n (l ++ [c]) = 10 * numOf n l + (c.toNat - 48)
  | [], _ => rfl
  | _ :: r, _ => numOf_snoc c r _
theorem numOf_le : ∀ (l : List UInt8) (n : Nat), l.all (Tm.btw 48 57) = true → numOf n l < (n + 1) * 10 ^ l.length
  | [], n, _ => by
    show n < (n + 1) * 1
    omega
  | c :: r, n, h => by
    rw [List.all_cons, Bool.and_eq_true] at h
    have hc := of_decide_eq_true h.1
    have := numOf_le r (10 * n + (c.toNat - 48)) h.2
    show numOf (10 * n + (c.toNat - 48)) r < (n + 1) * 10 ^ (r.length + 1)
    refine Nat.lt_of_lt_of_le this ?_
    rw [Nat.pow_succ, Nat.mul_comm (10 ^ r.length) 10, ← Nat.mul_assoc]
    exact Nat.mul_le_mul_right _ (by omega)
theorem numOf_few (l : List UInt8) (h : l.all (Tm.btw 48 57) = true) (hl : l.length ≤ 5) : numOf 0 l < 100000 := by
  have h1 := numOf_le l 0 h
  have h2 : 10 ^ l.length ≤ 10 ^ 5 := Nat.pow_le_pow_right (by decide) hl
  omega

set_option maxRecDepth 100000 in
set_option maxHeartbeats 1600000 in
theorem refPort_any (s : ByteArray) (w : World) :
    Calls Tryd.prog 53 #[.string s] w fun e w' => e = .returned (.bool (portL s.data.toList)) ∧ w' = w := by
  obtain ⟨R, hR⟩ : ∃ R, R = portL s.data.toList := ⟨_, rfl⟩
  have HW : Hid (R = (!s.data.toList.isEmpty && decide (s.size ≤ 5) && decide ((s.data.toList.headD 0).toNat ≠ 48) && s.data.toList.all (Tm.btw 48 57) && decide (numOf 0 s.data.toList ≤ 65535))) := by
    show _ = _
    rw [hR, port_eq]
    unfold portD
    rw [len_list]
  rw [← hR]
  clear hR
  by_cases he : s = ⟨#[]⟩
  · subst he
    have HQ : Hid (R = false) := HW.out
    go_enter Tryd.func53, Tryd.ntmps53
    go_wp2_with fail
    go_ret
    exact ⟨by rw [HQ.out]; rfl, rfl⟩
  · obtain ⟨h1, h2, h3⟩ := word_ne he
    by_cases hm : 5 < s.size
    · have hmi : (5 : Int) < (s.size : Int) := by omega
      have HQ : Hid (R = false) := by show _ = _; rw [HW.out, decide_eq_false (by omega), Bool.and_false, Bool.false_and, Bool.false_and, Bool.false_and]
      go_enter Tryd.func53, Tryd.ntmps53
      go_wp2_with fail
      go_ret
      exact ⟨by rw [HQ.out]; rfl, rfl⟩
    · have hmi : ¬ (5 : Int) < (s.size : Int) := by omega
      have hp : 0 < s.size := by
        cases hz : s.size with
        | zero => exact absurd (str_nil s (List.eq_nil_of_length_eq_zero (by rw [len_list]; exact hz))) he
        | succ n => omega
      have hpi : (0 : Int) < (s.size : Int) := by omega
      have HHd := head_is s hp
      rw [h2, decide_eq_true (show s.size ≤ 5 by omega), HHd] at HW
      have HT : Hid (∀ k (_ : k < s.size), (s.data.toList.take (k + 1)).all (Tm.btw 48 57) = ((s.data.toList.take k).all (Tm.btw 48 57) && Tm.btw 48 57 s[k])) := fun k h => Tm.all_take _ _ k (by simpa using h)
      have HT2 : Hid (∀ k (_ : k < s.size), s.data.toList.take (k + 1) = s.data.toList.take k ++ [s[k]]) := fun k h => take_snoc s k h
      have HTE : Hid (s.data.toList.take s.size = s.data.toList) := take_all s
      have HA : Hid (∀ k, (s.data.toList.take k).all (Tm.btw 48 57) = false → s.data.toList.all (Tm.btw 48 57) = false) := fun k h => Tm.all_short _ _ k h
      clear HHd he
      rcases is_cases 48 48 rfl s[0] with ⟨u1, a1, a2⟩ | ⟨u1, a1, a2⟩
      · have HQ : Hid (R = false) := by
          show _ = _
          rw [HW.out, decide_eq_false (by have := of_decide_eq_true u1; omega)]
          simp
        go_enter Tryd.func53, Tryd.ntmps53
        go_wp2_with fail
        go_ret
        exact ⟨by rw [HQ.out]; rfl, rfl⟩
      have HQ : Hid (R = (s.data.toList.all (Tm.btw 48 57) && decide (numOf 0 s.data.toList ≤ 65535))) := by
        show _ = _
        rw [HW.out, decide_eq_true (by have := of_decide_eq_false u1; omega)]; rfl
      clear HW
      go_enter Tryd.func53, Tryd.ntmps53
      go_wp2_with fail
      go_loopw [3, 4] (fun n i wr => ∃ k : Nat, k ≤ s.size ∧ i = .int .i64 k ∧ Hid ((s.data.toList.take k).all (Tm.btw 48 57) = true) ∧ (∃ v : Nat, v < 100000 ∧ n = .int .i64 v ∧ Hid (v = numOf 0 (s.data.toList.take k))) ∧ wr = w) (fun _ i _ => s.size - (intOf i).toNat)
      case atStart => exact ⟨0, Nat.zero_le _, rfl, by show _ = _; simp, ⟨0, by omega, rfl, rfl⟩, rfl⟩
      case round =>
        obtain ⟨k, hk, rfl, HAK, ⟨v, hv, rfl, HV⟩, rfl⟩ := hrel
        by_cases hlt : k < s.size
        · have hki : (k : Int) < (s.size : Int) := by omega
          have HTK := hide (HT.out k hlt)
          have hc := s[k].toNat_lt
          rcases btw_cases 48 57 48 57 rfl rfl s[k] with ⟨b1, b2, b3⟩ | ⟨b1, b2, b3⟩ | ⟨b1, b2⟩
          · have HR : Hid ((s.data.toList.take (k + 1)).all (Tm.btw 48 57) = true) := by
              show _ = _
              rw [HTK.out, b1, HAK.out]; rfl
            obtain ⟨v2, hv2⟩ : ∃ v2, v2 = 10 * v + (s[k].toNat - 48) := ⟨_, rfl⟩
            have HV2 : Hid (v2 = numOf 0 (s.data.toList.take (k + 1))) := by
              show _ = _
              rw [HT2.out k hlt, numOf_snoc, ← HV.out]
              exact hv2
            have hv3 : v2 < 100000 := by
              rw [HV2.out]
              exact numOf_few _ HR.out (by rw [List.length_take, len_list]; omega)
            have c1 : ¬ (s[k].toNat : Int) < 48 := by omega
            have c2 : ¬ (57 : Int) < (s[k].toNat : Int) := by omega
            obtain ⟨D, hD⟩ : ∃ D : Nat, s[k].toNat = 48 + D := ⟨s[k].toNat - 48, by omega⟩
            have hD9 : D ≤ 9 := by omega
            have e1 : (s[k].toNat : Int) - 48 = (D : Int) := by omega
            obtain rfl : v2 = 10 * v + D := by omega
            clear hv2 hD
            go_wp2_with fail
            go_roundw
            case rel => exact ⟨k + 1, by omega, by go_num, HR, ⟨10 * v + D, hv3, by first | go_num | (congr 1; omega), HV2⟩, by trivial⟩
            case measure => simp [intOf]; omega
          · have HR : Hid (R = false) := by
              show _ = _
              rw [HQ.out, HA.out (k + 1) (by rw [HTK.out, b1, Bool.and_false]), Bool.false_and]
            have c1 : ¬ (s[k].toNat : Int) < 48 := by omega
            have c2 : (57 : Int) < (s[k].toNat : Int) := by have := of_decide_eq_false b3; omega
            go_wp2_with fail
            go_ret
            exact ⟨by rw [HR.out]; rfl, rfl⟩
          · have HR : Hid (R = false) := by
              show _ = _
              rw [HQ.out, HA.out (k + 1) (by rw [HTK.out, b1, Bool.and_false]), Bool.false_and]
            have c1 : (s[k].toNat : Int) < 48 := by omega
            go_wp2_with fail
            go_ret
            exact ⟨by rw [HR.out]; rfl, rfl⟩
        · obtain rfl : k = s.size := by omega
          rw [HTE.out] at HAK HV
          have HR : Hid (R = decide ((v : Int) ≤ 65535)) := by
            show _ = _
            rw [HQ.out, HAK.out, ← HV.out, Bool.true_and]
            exact decide_eq_decide.2 (by omega)
          go_wp2_with fail
          go_ret
          exact ⟨by rw [HR.out]; rfl, rfl⟩

end Go.Proofs.YtmdjppjfjkgnpaaDoor.tm
