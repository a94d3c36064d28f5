import Derived.Test.YtgppnklildhmbaaDoorPkProof
namespace Go.Proofs.YtgppnklildhmbaaDoor.pk
open Go.ChangeShapes Go.WideShapes Go.ChangeAt Go.RowKit Go.Proofs.YtgppnklildhmbaaDoor.common

set_option maxHeartbeats 3200000 in
theorem refUnreserved_any (c : UInt8) (w : World) :
    Calls Tryd.prog 19 #[B c] w fun e w' => e = .returned (.bool (Pk.unb c)) ∧ w' = w := by
  have hc := c.toNat_lt
  have HR : Hid (Pk.unb c = decide ((65 ≤ c.toNat ∧ c.toNat ≤ 90) ∨ (97 ≤ c.toNat ∧ c.toNat ≤ 122) ∨ (48 ≤ c.toNat ∧ c.toNat ≤ 57) ∨ c.toNat = 45 ∨ c.toNat = 46 ∨ c.toNat = 95 ∨ c.toNat = 126)) := rfl
  generalize Pk.unb c = u at *
  unfold B
  generalize c.toNat = n at *
  by_cases e1 : n = 45
  · have := HR.out
    rw [decide_eq_true (by omega)] at this
    subst this e1
    clear HR
    go_enter Tryd.func19, Tryd.ntmps19
    go_wp2
    go_ret
    exact ⟨rfl, rfl⟩
  by_cases e2 : n = 46
  · have := HR.out
    rw [decide_eq_true (by omega)] at this
    subst this e2
    clear HR
    go_enter Tryd.func19, Tryd.ntmps19
    go_wp2
    go_ret
    exact ⟨rfl, rfl⟩
  by_cases e3 : n = 95
  · have := HR.out
    rw [decide_eq_true (by omega)] at this
    subst this e3
    clear HR
    go_enter Tryd.func19, Tryd.ntmps19
    go_wp2
    go_ret
    exact ⟨rfl, rfl⟩
  by_cases e4 : n = 126
  · have := HR.out
    rw [decide_eq_true (by omega)] at this
    subst this e4
    clear HR
    go_enter Tryd.func19, Tryd.ntmps19
    go_wp2
    go_ret
    exact ⟨rfl, rfl⟩
  have q1 : ((n : Int) == 45) = false := beq_false_of_ne (by omega)
  have q2 : ((n : Int) == 46) = false := beq_false_of_ne (by omega)
  have q3 : ((n : Int) == 95) = false := beq_false_of_ne (by omega)
  have q4 : ((n : Int) == 126) = false := beq_false_of_ne (by omega)
  have r1 : ¬ (n : Int) = 45 := by omega
  have r2 : ¬ (n : Int) = 46 := by omega
  have r3 : ¬ (n : Int) = 95 := by omega
  have r4 : ¬ (n : Int) = 126 := by omega
  have hu : u = decide ((65 ≤ n ∧ n ≤ 90) ∨ (97 ≤ n ∧ n ≤ 122) ∨ (48 ≤ n ∧ n ≤ 57)) := by
    rw [HR.out]
    exact decide_eq_decide.2 (by omega)
  clear HR
  by_cases h65 : (65 : Int) ≤ (n : Int) <;> by_cases h90 : (n : Int) ≤ 90 <;> (try (exfalso; omega)) <;>
  by_cases h97 : (97 : Int) ≤ (n : Int) <;> (try (exfalso; omega)) <;> by_cases h122 : (n : Int) ≤ 122 <;> (try (exfalso; omega)) <;>
  by_cases h48 : (48 : Int) ≤ (n : Int) <;> (try (exfalso; omega)) <;> by_cases h57 : (n : Int) ≤ 57 <;> (try (exfalso; omega))
  all_goals
    first
      | rw [decide_eq_true (by omega)] at hu
      | rw [decide_eq_false (by omega)] at hu
    subst hu
    clear e1 e2 e3 e4
    go_enter Tryd.func19, Tryd.ntmps19
    go_wp2
    go_ret
    first
      | exact ⟨rfl, rfl⟩
      | exact ⟨by simp_all, rfl⟩

set_option maxRecDepth 100000 in
set_option maxHeartbeats 1600000 in
theorem refVerifier_any (s : ByteArray) (w : World) :
    Calls Tryd.prog 8 #[.string s] w fun e w' => e = .returned (.bool (Pk.proof s.data.toList)) ∧ w' = w := by
  have HF := hide (fun c => refUnreserved_any c w)
  by_cases h1 : s.size < 43
  · have h1i : (s.size : Int) < 43 := by omega
    have HR : Hid (Pk.proof s.data.toList = false) := by
      show _ = _
      unfold Pk.proof
      rw [plen, decide_eq_false (by omega), Bool.false_and]
    go_enter Tryd.func8, Tryd.ntmps8
    go_wp2
    go_ret
    exact ⟨by rw [HR.out]; rfl, rfl⟩
  by_cases h2 : 128 < s.size
  · have h1i : ¬ (s.size : Int) < 43 := by omega
    have h2i : (128 : Int) < (s.size : Int) := by omega
    have HR : Hid (Pk.proof s.data.toList = false) := by
      show _ = _
      unfold Pk.proof
      rw [plen, decide_eq_false (by omega), Bool.false_and]
    go_enter Tryd.func8, Tryd.ntmps8
    go_wp2
    go_ret
    exact ⟨by rw [HR.out]; rfl, rfl⟩
  have h1i : ¬ (s.size : Int) < 43 := by omega
  have h2i : ¬ (128 : Int) < (s.size : Int) := by omega
  have HR : Hid (Pk.proof s.data.toList = s.data.toList.all Pk.unb) := by
    show _ = _
    unfold Pk.proof
    rw [plen, decide_eq_true (by omega), Bool.true_and]
  have HT : Hid (∀ k (_ : k < s.size), (s.data.toList.take (k + 1)).all Pk.unb = ((s.data.toList.take k).all Pk.unb && Pk.unb s[k])) := fun k h => Pk.all_take _ _ k (by simpa using h)
  have HE : Hid (s.data.toList.take s.size = s.data.toList) := ptake s
  have HA : Hid (∀ k, (s.data.toList.take k).all Pk.unb = false → s.data.toList.all Pk.unb = false) := fun k h => Pk.all_short _ _ k h
  go_enter Tryd.func8, Tryd.ntmps8
  go_wp2_with fail
  go_loopw [3] (fun i wr => ∃ k : Nat, k ≤ s.size ∧ i = .int .i64 k ∧ (s.data.toList.take k).all Pk.unb = true ∧ wr = w) (fun i _ => s.size - (intOf i).toNat)
  case atStart => exact ⟨0, Nat.zero_le _, rfl, by simp, rfl⟩
  case round =>
    obtain ⟨k, hk, rfl, ha, rfl⟩ := hrel
    have HAK := hide ha
    clear ha
    by_cases hlt : k < s.size
    · have hki : (k : Int) < (s.size : Int) := by omega
      have HTK := hide (HT.out k hlt)
      have HFK := hide (HF.out s[k])
      cases hp : Pk.unb s[k] with
      | true =>
        have HP := hide hp
        clear hp
        go_wp2_with fail
        refine HFK.out.mono ?_
        rintro x w2 ⟨rfl, rfl⟩
        rw [HP.out]
        go_wp2
        go_roundw
        case rel => exact ⟨k + 1, by omega, by go_num, by rw [HTK.out, HAK.out, HP.out]; rfl, by trivial⟩
        case measure => simp [intOf]; omega
      | false =>
        have HP := hide hp
        clear hp
        have HN : Hid (s.data.toList.all Pk.unb = false) := HA.out (k + 1) (by rw [HTK.out, HP.out, Bool.and_false])
        go_wp2_with fail
        refine HFK.out.mono ?_
        rintro x w2 ⟨rfl, rfl⟩
        rw [HP.out]
        go_wp2
        go_ret
        exact ⟨by rw [HR.out, HN.out]; rfl, rfl⟩
    · obtain rfl : k = s.size := by omega
      rw [HE.out] at HAK
      go_wp2
      go_ret
      exact ⟨by rw [HR.out, HAK.out]; rfl, rfl⟩

end Go.Proofs.YtgppnklildhmbaaDoor.pk
