import Derived.Test.YtkkkgpcdnjijbaaTmAll
namespace Go.Proofs.Ytkkkgpcdnjijbaa.tm
open Go.ChangeShapes Go.WideShapes Go.ChangeAt Go.RowKit Go.Proofs.Ytkkkgpcdnjijbaa.common Go.Proofs.Ytkkkgpcdnjijbaa.bk
attribute [local go_sem ↓] Go.wp_at_zero Go.wp_at_succ

set_option maxHeartbeats 800000 in
theorem prt_tests : Tests 28 (Tm.btw 32 126) := by
  intro w c
  have HV := hide (vis_tests w c)
  by_cases h1 : c.toNat = 32
  · have h1i : (c.toNat : Int) = 32 := by omega
    have HR : Hid (Tm.btw 32 126 c = true) := decide_eq_true ⟨by omega, by omega⟩
    rw [HR.out]
    go_enter Try.func28, Try.ntmps28
    go_wp2_with fail
    go_ret
    exact ⟨rfl, rfl⟩
  · have h1i : ¬ (c.toNat : Int) = 32 := by omega
    have h1b : ((c.toNat : Int) == 32) = false := beq_false_of_ne h1i
    have HR : Hid (Tm.btw 32 126 c = Tm.btw 33 126 c) := by
      show decide _ = decide _
      exact decide_eq_decide.2 ⟨fun h => ⟨by omega, h.2⟩, fun h => ⟨by omega, h.2⟩⟩
    rw [HR.out]
    generalize Tm.btw 33 126 c = t at *
    go_enter Try.func28, Try.ntmps28
    go_wp2_with (go_at_call 26; refine HV.out.mono ?_; rintro x w2 ⟨rfl, rfl⟩)
    go_ret
    exact ⟨rfl, rfl⟩
theorem prt_enters : Enters 28 := enters_of Try.func28 (by kernel_rfl) rfl

set_option maxRecDepth 100000 in
set_option maxHeartbeats 1600000 in
theorem refWithin_any (s : ByteArray) (most lo hi : Nat) (w : World) (hs : s.size ≤ 4611686018427387904) :
    Calls Try.prog 27 #[.string s, .int .i64 most, .int .u8 lo, .int .u8 hi] w fun e w' => e = .returned (.bool (Tm.word most (Tm.btw lo hi) s.data.toList)) ∧ w' = w := by
  have HT : Hid (∀ k (_ : k < s.size), (s.data.toList.take (k + 1)).all (Tm.btw lo hi) = ((s.data.toList.take k).all (Tm.btw lo hi) && Tm.btw lo hi s[k])) := fun k h => Tm.all_take _ _ k (by simpa using h)
  have HE : Hid (s.data.toList.take s.size = s.data.toList) := take_all s
  have HA : Hid (∀ k, (s.data.toList.take k).all (Tm.btw lo hi) = false → s.data.toList.all (Tm.btw lo hi) = false) := fun k h => Tm.all_short _ _ k h
  have HW : Hid (Tm.word most (Tm.btw lo hi) s.data.toList = (!s.data.toList.isEmpty && decide (s.size ≤ most) && s.data.toList.all (Tm.btw lo hi))) := by
    show _ = _
    unfold Tm.word
    rw [len_list]
  go_enter Try.func27, Try.ntmps27
  go_wp2_with fail
  go_loopw [9] (fun i wr => ∃ k : Nat, k ≤ s.size ∧ i = .int .i64 k ∧ (s.data.toList.take k).all (Tm.btw lo hi) = true ∧ wr = w) (fun i _ => s.size - (intOf i).toNat)
  case atStart => exact ⟨0, Nat.zero_le _, rfl, by simp, rfl⟩
  case round =>
    obtain ⟨k, hk, rfl, ha, rfl⟩ := hrel
    have HAK := hide ha
    clear ha
    by_cases hlt : k < s.size
    · have hki : (k : Int) < (s.size : Int) := by omega
      have HTK := hide (HT.out k hlt)
      have eb : ∀ c : UInt8, Tm.btw lo hi c = decide (lo ≤ c.toNat ∧ c.toNat ≤ hi) := fun _ => rfl
      have HB := hide (eb s[k])
      clear eb
      by_cases h1 : s[k].toNat < lo
      · have h1i : (s[k].toNat : Int) < (lo : Int) := by omega
        have HR : Hid (s.data.toList.all (Tm.btw lo hi) = false) := HA.out (k + 1) (by rw [HTK.out, HB.out, decide_eq_false (fun h => absurd h.1 (by omega)), Bool.and_false])
        go_wp2_with fail
        go_ret
        exact ⟨by rw [HW.out, HR.out, Bool.and_false]; rfl, rfl⟩
      · have h1i : ¬ (s[k].toNat : Int) < (lo : Int) := by omega
        by_cases h2 : hi < s[k].toNat
        · have h2i : (hi : Int) < (s[k].toNat : Int) := by omega
          have HR : Hid (s.data.toList.all (Tm.btw lo hi) = false) := HA.out (k + 1) (by rw [HTK.out, HB.out, decide_eq_false (fun h => absurd h.2 (by omega)), Bool.and_false])
          go_wp2_with fail
          go_ret
          exact ⟨by rw [HW.out, HR.out, Bool.and_false]; rfl, rfl⟩
        · have h2i : ¬ (hi : Int) < (s[k].toNat : Int) := by omega
          have HR : Hid ((s.data.toList.take (k + 1)).all (Tm.btw lo hi) = true) := by
            show _ = _
            rw [HTK.out, HB.out, HAK.out, decide_eq_true ⟨by omega, by omega⟩]; rfl
          go_wp2_with fail
          go_roundw
          case rel => exact ⟨k + 1, by omega, by go_num, HR.out, by trivial⟩
          case measure => simp [intOf]; omega
    · obtain rfl : k = s.size := by omega
      rw [HE.out] at HAK
      by_cases he : s = ⟨#[]⟩
      · subst he
        go_wp2_with fail
        go_ret
        exact ⟨rfl, rfl⟩
      · obtain ⟨h1, h2, h3⟩ := word_ne he
        by_cases hm : s.size ≤ most
        · have hmi : (s.size : Int) ≤ (most : Int) := by omega
          have HR : Hid (Tm.word most (Tm.btw lo hi) s.data.toList = true) := by
            show _ = _
            rw [HW.out, HAK.out, h2, decide_eq_true hm]; rfl
          go_wp2_with fail
          go_ret
          exact ⟨by rw [HR.out]; rfl, rfl⟩
        · have hmi : ¬ (s.size : Int) ≤ (most : Int) := by omega
          have HR : Hid (Tm.word most (Tm.btw lo hi) s.data.toList = false) := by
            show _ = _
            rw [HW.out, decide_eq_false hm]; simp
          go_wp2_with fail
          go_ret
          exact ⟨by rw [HR.out]; rfl, rfl⟩

set_option maxHeartbeats 800000 in
theorem name_any (s : ByteArray) (w : World) (hs : s.size ≤ 4611686018427387904) :
    Calls Try.prog 11 #[.string s] w fun e w' => e = .returned (.bool (Tm.word 64 (Tm.btw 33 126) s.data.toList)) ∧ w' = w := by
  have HA := hide (fun W => isWord_any s 64 _ _ W hs vis_enters vis_tests)
  generalize Tm.word 64 (Tm.btw 33 126) s.data.toList = t at *
  go_enter Try.func11, Try.ntmps11
  go_wp2_with (go_at_call 25; refine (HA.out _).mono ?_; rintro x w2 ⟨rfl, rfl⟩)
  go_ret
  exact ⟨rfl, rfl⟩
set_option maxHeartbeats 800000 in
theorem state_any (s : ByteArray) (w : World) (hs : s.size ≤ 4611686018427387904) :
    Calls Try.prog 13 #[.string s] w fun e w' => e = .returned (.bool (Tm.word 512 (Tm.btw 32 126) s.data.toList)) ∧ w' = w := by
  have HA := hide (fun W => isWord_any s 512 _ _ W hs prt_enters prt_tests)
  generalize Tm.word 512 (Tm.btw 32 126) s.data.toList = t at *
  go_enter Try.func13, Try.ntmps13
  go_wp2_with (go_at_call 25; refine (HA.out _).mono ?_; rintro x w2 ⟨rfl, rfl⟩)
  go_ret
  exact ⟨rfl, rfl⟩
set_option maxHeartbeats 800000 in
theorem refName_any (s : ByteArray) (w : World) (hs : s.size ≤ 4611686018427387904) :
    Calls Try.prog 12 #[.string s] w fun e w' => e = .returned (.bool (Tm.word 64 (Tm.btw 33 126) s.data.toList)) ∧ w' = w := by
  have HA := hide (fun W => refWithin_any s 64 33 126 W hs)
  generalize Tm.word 64 (Tm.btw 33 126) s.data.toList = t at *
  go_enter Try.func12, Try.ntmps12
  go_wp2_with (go_at_call 27; refine (HA.out _).mono ?_; rintro x w2 ⟨rfl, rfl⟩)
  go_ret
  exact ⟨rfl, rfl⟩
set_option maxHeartbeats 800000 in
theorem refState_any (s : ByteArray) (w : World) (hs : s.size ≤ 4611686018427387904) :
    Calls Try.prog 14 #[.string s] w fun e w' => e = .returned (.bool (Tm.word 512 (Tm.btw 32 126) s.data.toList)) ∧ w' = w := by
  have HA := hide (fun W => refWithin_any s 512 32 126 W hs)
  generalize Tm.word 512 (Tm.btw 32 126) s.data.toList = t at *
  go_enter Try.func14, Try.ntmps14
  go_wp2_with (go_at_call 27; refine (HA.out _).mono ?_; rintro x w2 ⟨rfl, rfl⟩)
  go_ret
  exact ⟨rfl, rfl⟩

set_option maxRecDepth 100000 in
set_option maxHeartbeats 800000 in
theorem lawNames (s : ByteArray) (w : World) (hs : s.size ≤ 4611686018427387904) :
    Calls Try.prog 4 #[.string s] w fun e w' => e = .returned (.bool true) ∧ Below w.heap.size w w' := by
  have H1 := hide (fun W => name_any s W hs)
  have H2 := hide (fun W => refName_any s W hs)
  have H3 := hide (fun W => state_any s W hs)
  have H4 := hide (fun W => refState_any s W hs)
  generalize Tm.word 64 (Tm.btw 33 126) s.data.toList = t at *
  generalize Tm.word 512 (Tm.btw 32 126) s.data.toList = u at *
  go_enter Try.func4, Try.ntmps4
  go_wp2_with (first
    | (go_at_call 11; refine (H1.out _).mono ?_; rintro x w2 ⟨rfl, rfl⟩)
    | (go_at_call 12; refine (H2.out _).mono ?_; rintro x w2 ⟨rfl, rfl⟩)
    | (go_at_call 13; refine (H3.out _).mono ?_; rintro x w2 ⟨rfl, rfl⟩)
    | (go_at_call 14; refine (H4.out _).mono ?_; rintro x w2 ⟨rfl, rfl⟩))
  go_ret
  exact ⟨rfl, Below.refl _ _⟩

end Go.Proofs.Ytkkkgpcdnjijbaa.tm
