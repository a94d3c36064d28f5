import Derived.Test.YtkkgngmhdlmgnaaDoorReadKit
namespace Go.Proofs.YtkkgngmhdlmgnaaDoor.jw
open Go.ChangeShapes Go.WideShapes Go.ChangeAt Go.RowKit Go.Proofs.YtkkgngmhdlmgnaaDoor.common
attribute [local go_sem ↓] Go.wp_at_zero Go.wp_at_succ

set_option maxRecDepth 100000 in
set_option maxHeartbeats 800000 in
theorem next_some (rb : Nat) (s : ByteArray) (a : Nat) (mv : Value) (n : Nat) (w : World) (h : a < s.size) (hs : s.size < 9223372036854775800) (hr : Rd w rb s a mv n) :
    Calls Tryd.prog 96 #[ptr rb] w fun e w' => Ok rb s mv n w (a + 1) (B s[a]) e w' := by
  have HC := hide (peek_some rb s a mv n w h hr)
  clear hr
  have k1 : (a : Int) < 9223372036854775800 := by omega
  go_enter Tryd.func96, Tryd.ntmps96
  go_wp2_with fail
  refine HC.out.mono ?_
  rintro e w' ⟨rfl, hk, hr⟩
  have c1 := hr.c1
  have f1 := hr.nf 1
  have HK := hide hk
  have HR := hide hr
  clear hk hr
  go_wp2
  go_ret
  exact ⟨rfl, HK.out.trans (Kp.set _ _ _ _), HR.out.set1 _ _ (by omega)⟩
set_option maxRecDepth 100000 in
theorem next_none (rb : Nat) (s : ByteArray) (mv : Value) (n : Nat) (ea : Addr) (w : World) (hr : Rd w rb s s.size mv n) (he : Env w rb ea) :
    Calls Tryd.prog 96 #[ptr rb] w fun e w' => No rb ea w e w' := by
  have HC := hide (peek_none rb s mv n ea w hr he)
  clear hr he
  go_enter Tryd.func96, Tryd.ntmps96
  go_wp2_with fail
  refine HC.out.mono ?_
  rintro e w' ⟨rfl, hk⟩
  go_wp2
  exact ⟨rfl, rfl, hk⟩

set_option maxRecDepth 100000 in
set_option maxHeartbeats 800000 in
theorem takeIf_yes (rb : Nat) (s : ByteArray) (a : Nat) (mv : Value) (n : Nat) (w : World) (c : UInt8) (I : Int) (hI : I = (c.toNat : Int)) (h : a < s.size) (hc : s[a] = c) (hs : s.size < 9223372036854775800) (hr : Rd w rb s a mv n) :
    Calls Tryd.prog 48 #[ptr rb, .int .u8 I] w fun e w' => Ok rb s mv n w (a + 1) (.bool true) e w' := by
  have HC := hide (peek_some rb s a mv n w h hr)
  rw [hc] at HC
  subst hI
  clear hr
  have k1 : (a : Int) < 9223372036854775800 := by omega
  go_enter Tryd.func48, Tryd.ntmps48
  go_wp2_with fail
  refine HC.out.mono ?_
  rintro e w' ⟨rfl, hk, hr⟩
  have c1 := hr.c1
  have f1 := hr.nf 1
  have HK := hide hk
  have HR := hide hr
  clear hk hr
  go_wp2
  go_ret
  exact ⟨rfl, HK.out.trans (Kp.set _ _ _ _), HR.out.set1 _ _ (by omega)⟩
set_option maxRecDepth 100000 in
set_option maxHeartbeats 800000 in
theorem takeIf_no (rb : Nat) (s : ByteArray) (a : Nat) (mv : Value) (n : Nat) (w : World) (c : UInt8) (I : Int) (hI : I = (c.toNat : Int)) (h : a < s.size) (hc : s[a] ≠ c) (hr : Rd w rb s a mv n) :
    Calls Tryd.prog 48 #[ptr rb, .int .u8 I] w fun e w' => Ok rb s mv n w a (.bool false) e w' := by
  have HC := hide (peek_some rb s a mv n w h hr)
  subst hI
  clear hr
  have k1 : ((s[a].toNat : Int) != (c.toNat : Int)) = true := bne_iff_ne.2 (fun e => hc (UInt8.toNat_inj.1 (by omega)))
  go_enter Tryd.func48, Tryd.ntmps48
  go_wp2_with fail
  refine HC.out.mono ?_
  rintro e w' ⟨rfl, hk, hr⟩
  have HK := hide hk
  have HR := hide hr
  clear hk hr
  go_wp2
  go_ret
  exact ⟨rfl, HK.out, HR.out⟩
set_option maxRecDepth 100000 in
theorem takeIf_none (rb : Nat) (s : ByteArray) (mv : Value) (n : Nat) (ea : Addr) (w : World) (I : Int) (hr : Rd w rb s s.size mv n) (he : Env w rb ea) :
    Calls Tryd.prog 48 #[ptr rb, .int .u8 I] w fun e w' => No rb ea w e w' := by
  have HC := hide (peek_none rb s mv n ea w hr he)
  clear hr he
  go_enter Tryd.func48, Tryd.ntmps48
  go_wp2_with fail
  refine HC.out.mono ?_
  rintro e w' ⟨rfl, hk⟩
  go_wp2
  exact ⟨rfl, rfl, hk⟩

set_option maxRecDepth 100000 in
theorem isBlank_any (c : UInt8) (w : World) : Calls Tryd.prog 47 #[B c] w fun e w' => e = .returned (.bool (Json.bl c)) ∧ w' = w := by
  have hne : ∀ k : UInt8, c ≠ k → ((c.toNat : Int) == (k.toNat : Int)) = false := fun k h => beq_false_of_ne (fun e => h (UInt8.toNat_inj.1 (by omega)))
  by_cases h1 : c = 32
  · subst h1
    go_enter Tryd.func47, Tryd.ntmps47
    go_wp2
    go_ret
    exact ⟨rfl, rfl⟩
  by_cases h2 : c = 9
  · subst h2
    go_enter Tryd.func47, Tryd.ntmps47
    go_wp2
    go_ret
    exact ⟨rfl, rfl⟩
  by_cases h3 : c = 10
  · subst h3
    go_enter Tryd.func47, Tryd.ntmps47
    go_wp2
    go_ret
    exact ⟨rfl, rfl⟩
  by_cases h4 : c = 13
  · subst h4
    go_enter Tryd.func47, Tryd.ntmps47
    go_wp2
    go_ret
    exact ⟨rfl, rfl⟩
  have k1 : ((c.toNat : Int) == 32) = false := hne 32 h1
  have k2 : ((c.toNat : Int) == 9) = false := hne 9 h2
  have k3 : ((c.toNat : Int) == 10) = false := hne 10 h3
  have k4 : ((c.toNat : Int) == 13) = false := hne 13 h4
  have hb : Json.bl c = false := by simp [Json.bl, h1, h2, h3, h4]
  rw [hb]
  clear hne
  go_enter Tryd.func47, Tryd.ntmps47
  go_wp2
  go_ret
  exact ⟨rfl, rfl⟩
set_option maxRecDepth 100000 in
theorem isDigit_any (c : UInt8) (w : World) : Calls Tryd.prog 84 #[B c] w fun e w' => e = .returned (.bool (Json.isDig c)) ∧ w' = w := by
  by_cases h1 : 48 ≤ c.toNat
  · have k1 : (48 : Int) ≤ (c.toNat : Int) := by omega
    by_cases h2 : c.toNat ≤ 57
    · have k2 : (c.toNat : Int) ≤ 57 := by omega
      have hb : Json.isDig c = true := by simp [Json.isDig, h1, h2]
      rw [hb]
      go_enter Tryd.func84, Tryd.ntmps84
      go_wp2
      go_ret
      exact ⟨rfl, rfl⟩
    · have k2 : ¬ (c.toNat : Int) ≤ 57 := by omega
      have hb : Json.isDig c = false := by simp [Json.isDig]; omega
      rw [hb]
      go_enter Tryd.func84, Tryd.ntmps84
      go_wp2
      go_ret
      exact ⟨rfl, rfl⟩
  · have k1 : ¬ (48 : Int) ≤ (c.toNat : Int) := by omega
    have hb : Json.isDig c = false := by simp [Json.isDig]; omega
    rw [hb]
    go_enter Tryd.func84, Tryd.ntmps84
    go_wp2
    go_ret
    exact ⟨rfl, rfl⟩

/-- where the reader stands -/
def place (w : World) (rb : Nat) : Nat := match w.cell? ⟨rb, 1, none⟩ with
  | some v => (intOf v).toNat
  | none => 0
theorem Rd.place {w : World} {rb : Nat} {s : ByteArray} {a : Nat} {mv : Value} {n : Nat} (h : Rd w rb s a mv n) : place w rb = a := by
  unfold jw.place; rw [h.c1]; simp [intOf]
theorem blanks_step (s : ByteArray) (a : Nat) (h : a < s.size) (hb : Json.bl s[a] = true) : Json.blanks (s.data.toList.drop a) = Json.blanks (s.data.toList.drop (a + 1)) := by
  rw [drop_cons s a h]; unfold Json.blanks; rw [List.dropWhile_cons, if_pos hb]
theorem blanks_stop (s : ByteArray) (a : Nat) (h : a < s.size) (hb : Json.bl s[a] = false) : Json.blanks (s.data.toList.drop a) = s.data.toList.drop a := by
  rw [drop_cons s a h]; unfold Json.blanks; rw [List.dropWhile_cons, if_neg (by rw [hb]; decide)]

set_option maxRecDepth 100000 in
set_option maxHeartbeats 1600000 in
theorem skipBlanks_any (rb : Nat) (s : ByteArray) (a : Nat) (mv : Value) (n : Nat) (w : World) (ha : a ≤ s.size) (hs : s.size < 9223372036854775800) (hr : Rd w rb s a mv n) :
    Calls Tryd.prog 34 #[ptr rb] w fun e w' => ∃ a', a' ≤ s.size ∧ s.data.toList.drop a' = Json.blanks (s.data.toList.drop a) ∧ Ok rb s mv n w a' (.tuple #[]) e w' := by
  have HR := hide hr
  clear hr
  go_enter Tryd.func34, Tryd.ntmps34
  go_wp2_with fail
  go_loopw [] (fun wr => ∃ k : Nat, k ≤ s.size ∧ Json.blanks (s.data.toList.drop k) = Json.blanks (s.data.toList.drop a) ∧ Kp rb w wr ∧ Rd wr rb s k mv n) (fun wr => s.size - place wr rb)
  case atStart => exact ⟨a, ha, rfl, Kp.refl _ _, HR.out⟩
  case round =>
    obtain ⟨k, hk, hbl, hkp, hr⟩ := hrel
    have c0 := hr.c0
    have c1 := hr.c1
    have f1 := hr.nf 1
    have HB := hide hbl
    have HK := hide hkp
    have HRR := hide hr
    clear hbl hkp hr
    have k0 : (0 : Int) ≤ (k : Int) := by omega
    have kn : (k : Int).toNat = k := by omega
    by_cases hlt : k < s.size
    · have hki : (k : Int) < (s.size : Int) := by omega
      by_cases hb : Json.bl s[k] = true
      · have HBS := hide (blanks_step s k hlt hb)
        go_wp2_with fail
        go_region_held3 (fun W => W.cell? ⟨rb, 0, none⟩ = some (.string s) ∧ W.cell? ⟨rb, 1, none⟩ = some (.int .i64 k) ∧ W.frozen? ⟨rb, 1, none⟩ = false) (go_keep)
          ((go_at_call 47; refine (isBlank_any s[k] _).mono ?_; rintro x w2 ⟨rfl, rfl⟩))
        all_goals
          go_wp2
          go_roundw
          case rel => exact ⟨k + 1, by omega, by rw [← HBS.out]; exact HB.out, (HK.out.drew).trans (Kp.set _ _ _ _), HRR.out.drew.set1 _ _ (by omega)⟩
          case measure =>
            have h1 := HRR.out.place
            have h2 := (HRR.out.set1 ((k : Int) + 1) (k + 1) (by omega)).drew.place
            omega
      · have hb : Json.bl s[k] = false := by simpa using hb
        have HBS := hide (blanks_stop s k hlt hb)
        go_wp2_with fail
        go_region_held3 (fun W => W.cell? ⟨rb, 0, none⟩ = some (.string s) ∧ W.cell? ⟨rb, 1, none⟩ = some (.int .i64 k)) (go_keep)
          ((go_at_call 47; refine (isBlank_any s[k] _).mono ?_; rintro x w2 ⟨rfl, rfl⟩))
        all_goals
          go_wp2
          first | go_end0 | refine bodyPost_ret (results_none rfl _ _ _) rfl ?_
          exact ⟨k, hk, by rw [← HB.out, HBS.out], rfl, HK.out.drew, HRR.out.drew⟩
    · have HBS : Hid (Json.blanks (s.data.toList.drop k) = s.data.toList.drop k) := by show _ = _; rw [drop_end s k hlt]; rfl
      have hki : ¬ (k : Int) < (s.size : Int) := by omega
      have hkd : decide ((k : Int) < (s.size : Int)) = false := decide_eq_false hki
      go_wp2_with fail
      first | go_region | go_region_with (fail)
      all_goals
        go_wp2
        first | go_end0 | refine bodyPost_ret (results_none rfl _ _ _) rfl ?_
        exact ⟨k, hk, by rw [← HB.out, HBS.out], rfl, HK.out.drew, HRR.out.drew⟩
end Go.Proofs.YtkkgngmhdlmgnaaDoor.jw
