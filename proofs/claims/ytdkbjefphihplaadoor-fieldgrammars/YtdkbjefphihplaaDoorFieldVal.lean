import Derived.Test.YtdkbjefphihplaaDoorFieldVal0
import Derived.Test.YtdkbjefphihplaaDoorFieldRefW
namespace Go.Proofs.YtdkbjefphihplaaDoor.fd
open Go.ChangeShapes Go.WideShapes Go.ChangeAt Go.RowKit Go.Proofs.YtdkbjefphihplaaDoor.common Go.Proofs.YtdkbjefphihplaaDoor.bk
attribute [local go_sem ↓] Go.wp_at_zero Go.wp_at_succ

set_option maxRecDepth 100000 in
set_option maxHeartbeats 800000 in
theorem refValue_any (s : ByteArray) (w : World) (hs : s.size ≤ 4611686018427387904) :
    Calls Tryd.prog 12 #[.string s] w fun e w' => e = .returned (.bool (Fd.value s.data.toList)) ∧ w' = w := by
  have HT : Hid (∀ k (_ : k < s.size), (s.data.toList.take (k + 1)).all Fd.val = ((s.data.toList.take k).all Fd.val && Fd.val s[k])) := fun k h => all_take _ Fd.val k (by simpa using h)
  have HE : Hid (s.data.toList.take s.size = s.data.toList) := take_all s
  have HA : Hid (∀ k, (s.data.toList.take k).all Fd.val = false → Fd.value s.data.toList = false) := by
    intro k h
    have e : s.data.toList.all Fd.val = ((s.data.toList.take k).all Fd.val && (s.data.toList.drop k).all Fd.val) := by rw [← List.all_append, List.take_append_drop]
    unfold Fd.value
    rw [e, h]; rfl
  go_enter Tryd.func12, Tryd.ntmps12
  go_wp2_with fail
  go_loopw [3] (fun i wr => ∃ k : Nat, k ≤ s.size ∧ i = .int .i64 k ∧ (s.data.toList.take k).all Fd.val = true ∧ wr = w) (fun i _ => s.size - (intOf i).toNat)
  case atStart => exact ⟨0, Nat.zero_le _, rfl, by simp, rfl⟩
  case round =>
    obtain ⟨k, hk, rfl, ha, rfl⟩ := hrel
    have HAK := hide ha
    clear ha
    by_cases hlt : k < s.size
    · have hki : (k : Int) < (s.size : Int) := by omega
      have HTK := hide (HT.out k hlt)
      cases hp : Fd.val s[k] with
      | true =>
        have HP := hide hp
        clear hp
        go_wp2_with (go_at_call 35; refine (valueByte_any _ _).mono ?_; rintro x w2 ⟨rfl, rfl⟩; rw [HP.out])
        go_roundw
        case rel => exact ⟨k + 1, by omega, by go_num, by rw [HTK.out, HAK.out, HP.out]; rfl, by trivial⟩
        case measure => simp [intOf]; omega
      | false =>
        have HP := hide hp
        clear hp
        have HR : Hid (Fd.value s.data.toList = false) := HA.out (k + 1) (by rw [HTK.out, HP.out, Bool.and_false])
        go_wp2_with (go_at_call 35; refine (valueByte_any _ _).mono ?_; rintro x w2 ⟨rfl, rfl⟩; rw [HP.out])
        go_ret
        exact ⟨by rw [HR.out]; rfl, rfl⟩
    · obtain rfl : k = s.size := by omega
      rw [HE.out] at HAK
      by_cases he : s = ⟨#[]⟩
      · subst he
        go_wp2_with fail
        go_ret
        exact ⟨rfl, rfl⟩
      · have hne : ¬ s.toList = [] := fun e => he (ba_ext (by rw [ByteArray.toList_eq] at e; rw [e]))
        have hne3 : (s.toList == []) = false := beq_false_of_ne hne
        have hne4 : s.toList.isEmpty = false := by cases hh : s.toList with
          | nil => exact absurd hh hne
          | cons _ _ => rfl
        have hpos : 0 < s.size := by
          rcases Nat.eq_zero_or_pos s.size with h | h
          · exact absurd (ba_ext (by rw [List.eq_nil_of_length_eq_zero ((len_list s).trans h)])) he
          · exact h
        have h1 : s.size - 1 < s.size := by omega
        have HR : Hid (Fd.value s.data.toList = (!Fd.white s[0] && !Fd.white s[s.size - 1])) := by
          show _ = _
          unfold Fd.value
          rw [HAK.out, Bool.true_and]
          have hid := Fd.trim_id s.data.toList
          have hll := len_list s
          have e0 : s.data.toList[0]'(by omega) = s[0] := rfl
          have e1 : s.data.toList[s.data.toList.length - 1]'(by omega) = s[s.size - 1] := by
            have : ∀ i (h : i < s.data.toList.length) (h2 : i = s.size - 1), s.data.toList[i] = s[s.size - 1] := by rintro i h rfl; rfl
            exact this _ _ (by omega)
          by_cases hc : Fd.white s[0] = false ∧ Fd.white s[s.size - 1] = false
          · rw [decide_eq_true (hid.2 (Or.inr ⟨by omega, by rw [e0]; exact hc.1, by rw [e1]; exact hc.2⟩)), hc.1, hc.2]; rfl
          · rw [decide_eq_false (fun e => by
              rcases hid.1 e with h | ⟨_, h2, h3⟩
              · exact hne (by rw [ByteArray.toList_eq]; exact h)
              · rw [e0] at h2; rw [e1] at h3; exact hc ⟨h2, h3⟩)]
            cases h0 : Fd.white s[0] <;> cases h9 : Fd.white s[s.size - 1] <;> simp_all
        have hpi : (0 : Int) < (s.size : Int) := by omega
        have e9 : (s.size : Int) - 1 = ((s.size - 1 : Nat) : Int) := by omega
        have h9 : ((s.size - 1 : Nat) : Int) < (s.size : Int) := by omega
        obtain ⟨a, hA⟩ : ∃ a, Fd.white s[0] = a := ⟨_, rfl⟩
        obtain ⟨b, hB⟩ : ∃ b, Fd.white s[s.size - 1] = b := ⟨_, rfl⟩
        have HW0 := hide hA
        have HW1 := hide hB
        clear hA hB
        cases a <;> cases b
        all_goals
          go_wp2_with (go_at_call 36; refine (refWhite_any _ _).mono ?_; rintro x w2 ⟨rfl, rfl⟩; first | rw [HW0.out] | rw [HW1.out])
          go_ret
          exact ⟨by rw [HR.out, HW0.out, HW1.out]; rfl, rfl⟩

set_option maxRecDepth 100000 in
set_option maxHeartbeats 1600000 in
theorem lawGrammars (s : ByteArray) (w : World) (hs : s.size ≤ 4611686018427387904) :
    Calls Tryd.prog 4 #[.string s] w fun e w' => e = .returned (.bool true) ∧ Below w.heap.size w w' := by
  have H1 := hide (token_any s w hs)
  have H2 : Hid (∀ W, Calls Tryd.prog 10 #[.string s] W fun e w' => e = .returned (.bool (Fd.token s.data.toList)) ∧ w' = W) := fun W => refToken_any s W hs
  have H3 : Hid (∀ W, Calls Tryd.prog 11 #[.string s] W fun e w' => e = .returned (.bool (Fd.value s.data.toList)) ∧ Below W.heap.size W w') := fun W => value_any s W hs
  have H4 : Hid (∀ W, Calls Tryd.prog 12 #[.string s] W fun e w' => e = .returned (.bool (Fd.value s.data.toList)) ∧ w' = W) := fun W => refValue_any s W hs
  have H5 : Hid (∀ W, Calls Tryd.prog 13 #[.string s] W fun e w' => e = .returned (S (Fd.trim s.data.toList)) ∧ Below W.heap.size W w') := fun W => trim_any s W (by omega)
  have H6 : Hid (∀ W, Calls Tryd.prog 14 #[.string s] W fun e w' => e = .returned (S (Fd.trim s.data.toList)) ∧ w' = W) := fun W => refTrim_any s W hs
  generalize Fd.token s.data.toList = t at *
  generalize Fd.value s.data.toList = v at *
  change Hid (∀ W, Calls Tryd.prog 13 #[.string s] W fun e w' => e = .returned (.string ⟨(Fd.trim s.data.toList).toArray⟩) ∧ Below W.heap.size W w') at H5
  change Hid (∀ W, Calls Tryd.prog 14 #[.string s] W fun e w' => e = .returned (.string ⟨(Fd.trim s.data.toList).toArray⟩) ∧ w' = W) at H6
  generalize (⟨(Fd.trim s.data.toList).toArray⟩ : ByteArray) = r at *
  go_enter Tryd.func4, Tryd.ntmps4
  cases t <;> cases v
  all_goals
    go_wp2_with (first
      | (go_at_call 9; refine H1.out.mono ?_; rintro x w1 ⟨rfl, hb1⟩)
      | (go_at_call 10; refine (H2.out _).mono ?_; rintro x w2 ⟨rfl, rfl⟩)
      | (go_at_call 11; refine (H3.out _).mono ?_; rintro x w3 ⟨rfl, hb3⟩)
      | (go_at_call 12; refine (H4.out _).mono ?_; rintro x w4 ⟨rfl, rfl⟩)
      | (go_at_call 13; refine (H5.out _).mono ?_; rintro x w5 ⟨rfl, hb5⟩)
      | (go_at_call 14; refine (H6.out _).mono ?_; rintro x w6 ⟨rfl, rfl⟩))
    go_ret
    exact ⟨by simp, keepD (keepD hb1 hb3) hb5⟩

end Go.Proofs.YtdkbjefphihplaaDoor.fd
