import Derived.Test.YtkkgngmhdlmgnaaDoorReadWalk1
import Derived.Deep.QuietTactic
import Derived.BigQuiet
import Derived.Lib.RuneBytes
namespace Go.Proofs.YtkkgngmhdlmgnaaDoor.jw
open Go.ChangeShapes Go.WideShapes Go.ChangeAt Go.RowKit Go.Proofs.YtkkgngmhdlmgnaaDoor.common
attribute [local go_sem ↓] Go.wp_at_zero Go.wp_at_succ

/-! ### the document's reader: blanks and marks -/
set_option maxRecDepth 100000 in
set_option maxHeartbeats 3200000 in
theorem refBlanks_any (s : ByteArray) (a : Nat) (w : World) (ha : a ≤ s.size) (hs : s.size < 9223372036854775800) (I : Int) (hI : I = (a : Int)) :
    Calls Tryd.prog 38 #[.string s, .int .i64 I] w fun x w' => ∃ b : Nat, x = .returned (.int .i64 b) ∧ a ≤ b ∧ b ≤ s.size ∧ s.data.toList.drop b = Json.blanks (s.data.toList.drop a) ∧ w' = w := by
  subst hI
  go_enter Tryd.func38, Tryd.ntmps38
  go_wp2_with fail
  go_loopw [1] (fun i wr => ∃ k : Nat, a ≤ k ∧ k ≤ s.size ∧ i = .int .i64 k ∧ wr = w ∧ Hid (Json.blanks (s.data.toList.drop k) = Json.blanks (s.data.toList.drop a))) (fun i _ => s.size - (intOf i).toNat)
  case atStart => exact ⟨a, Nat.le_refl _, ha, rfl, rfl, rfl⟩
  case round =>
    obtain ⟨k, hak, hk, rfl, hwr, HBL⟩ := hrel
    obtain rfl : w = wr := hwr.symm
    have k0 : (0 : Int) ≤ (k : Int) := Int.natCast_nonneg _
    by_cases hlt : k < s.size
    · have hki : (k : Int) < (s.size : Int) := by omega
      have hne : ∀ q : UInt8, s[k] ≠ q → ((s[k].toNat : Int) == (q.toNat : Int)) = false := fun q h => beq_false_of_ne (fun e => h (UInt8.toNat_inj.1 (by omega)))
      by_cases n32 : s[k] = 32
      · have p32 : (s[k].toNat : Int) = 32 := by rw [n32]; rfl
        have HBS := hide (blanks_step s k hlt (by rw [n32]; rfl))
        clear hne
        go_wp2
        go_roundw
        case rel => exact ⟨k + 1, by omega, by omega, by go_num, by first | rfl | trivial, by show _ = _; rw [← HBS.out]; exact HBL.out⟩
        case measure => simp [intOf]; omega
      by_cases n9 : s[k] = 9
      · have p9 : (s[k].toNat : Int) = 9 := by rw [n9]; rfl
        have HBS := hide (blanks_step s k hlt (by rw [n9]; rfl))
        have q32 : ((s[k].toNat : Int) == 32) = false := hne 32 n32
        clear hne
        go_wp2
        go_roundw
        case rel => exact ⟨k + 1, by omega, by omega, by go_num, by first | rfl | trivial, by show _ = _; rw [← HBS.out]; exact HBL.out⟩
        case measure => simp [intOf]; omega
      by_cases n10 : s[k] = 10
      · have p10 : (s[k].toNat : Int) = 10 := by rw [n10]; rfl
        have HBS := hide (blanks_step s k hlt (by rw [n10]; rfl))
        have q32 : ((s[k].toNat : Int) == 32) = false := hne 32 n32
        have q9 : ((s[k].toNat : Int) == 9) = false := hne 9 n9
        clear hne
        go_wp2
        go_roundw
        case rel => exact ⟨k + 1, by omega, by omega, by go_num, by first | rfl | trivial, by show _ = _; rw [← HBS.out]; exact HBL.out⟩
        case measure => simp [intOf]; omega
      by_cases n13 : s[k] = 13
      · have p13 : (s[k].toNat : Int) = 13 := by rw [n13]; rfl
        have HBS := hide (blanks_step s k hlt (by rw [n13]; rfl))
        have q32 : ((s[k].toNat : Int) == 32) = false := hne 32 n32
        have q9 : ((s[k].toNat : Int) == 9) = false := hne 9 n9
        have q10 : ((s[k].toNat : Int) == 10) = false := hne 10 n10
        clear hne
        go_wp2
        go_roundw
        case rel => exact ⟨k + 1, by omega, by omega, by go_num, by first | rfl | trivial, by show _ = _; rw [← HBS.out]; exact HBL.out⟩
        case measure => simp [intOf]; omega
      have q32 : ((s[k].toNat : Int) == 32) = false := hne 32 n32
      have q9 : ((s[k].toNat : Int) == 9) = false := hne 9 n9
      have q10 : ((s[k].toNat : Int) == 10) = false := hne 10 n10
      have q13 : ((s[k].toNat : Int) == 13) = false := hne 13 n13
      have HBS := hide (blanks_stop s k hlt (by simp [Json.bl, n32, n9, n10, n13]))
      clear hne n32 n9 n10 n13
      go_wp2
      go_ret
      exact ⟨k, rfl, hak, hk, by rw [← HBL.out, HBS.out], rfl⟩
    · have HBS : Hid (Json.blanks (s.data.toList.drop k) = s.data.toList.drop k) := by show _ = _; rw [drop_end s k hlt]; rfl
      have hki : ¬ (k : Int) < (s.size : Int) := by omega
      have hkd : decide ((k : Int) < (s.size : Int)) = false := decide_eq_false hki
      have hkd2 : decide (k < s.size) = false := decide_eq_false hlt
      go_wp2
      go_ret
      exact ⟨k, rfl, hak, hk, by rw [← HBL.out, HBS.out], rfl⟩
end Go.Proofs.YtkkgngmhdlmgnaaDoor.jw

namespace Go.Proofs.YtkkgngmhdlmgnaaDoor.jw
open Go.ChangeShapes Go.WideShapes Go.ChangeAt Go.RowKit Go.Proofs.YtkkgngmhdlmgnaaDoor.common
attribute [local go_sem ↓] Go.wp_at_zero Go.wp_at_succ

/-- a place in s where r is left, or -1 -/
def Pl (s : ByteArray) (o : Option (List UInt8)) (x : Value) : Prop :=
  (o = none ∧ x = .int .i64 (-1)) ∨ ∃ (r : List UInt8) (b : Nat), o = some r ∧ b ≤ s.size ∧ x = .int .i64 (b : Int) ∧ s.data.toList.drop b = r

theorem refMark_none (s : ByteArray) (c : Value) (w : World) :
    Calls Tryd.prog 20 #[.string s, .int .i64 (-1), c] w fun x w' => x = .returned (.int .i64 (-1)) ∧ w' = w := by
  go_enter Tryd.func20, Tryd.ntmps20
  go_wp2
  go_ret
  exact ⟨rfl, rfl⟩

set_option maxRecDepth 100000 in
set_option maxHeartbeats 1600000 in
theorem refMark_any (s : ByteArray) (a : Nat) (c : UInt8) (w : World) (ha : a ≤ s.size) (hs : s.size < 9223372036854775800) (I J : Int) (hI : I = (a : Int)) (hJ : J = (c.toNat : Int)) :
    Calls Tryd.prog 20 #[.string s, .int .i64 I, .int .u8 J] w fun x w' => (∃ v, x = .returned v ∧ Pl s (Json.part c (Json.blanks (s.data.toList.drop a))) v) ∧ w' = w := by
  have hI0 : ¬ I < 0 := by omega
  have HI := hide hI
  have HJ := hide hJ
  clear hI hJ
  go_enter Tryd.func20, Tryd.ntmps20
  go_wp2_with fail
  refine (refBlanks_any s a w ha hs I HI.out).mono ?_
  rintro x w1 ⟨b, rfl, hab, hbs, hd, hww⟩
  obtain rfl : w = w1 := hww.symm
  have HD := hide hd
  clear hd
  by_cases hlt : b < s.size
  · have hbi : ¬ (s.size : Int) ≤ (b : Int) := by omega
    have hbd : decide ((s.size : Int) ≤ (b : Int)) = false := decide_eq_false hbi
    have hbn : ¬ s.size ≤ b := by omega
    have hbd2 : decide (s.size ≤ b) = false := decide_eq_false hbn
    have b0 : (0 : Int) ≤ (b : Int) := by omega
    have hbl : (b : Int) < (s.size : Int) := by omega
    by_cases hc : s[b] = c
    · have HP : Hid (Json.part c (s.data.toList.drop b) = some (Json.blanks (s.data.toList.drop (b + 1)))) := by
        show _ = _
        rw [drop_cons s b hlt]
        exact if_pos hc
      have hcJ : (s[b].toNat : Int) = J := by rw [hc, HJ.out]
      clear hc
      go_wp2_with fail
      refine (refBlanks_any s (b + 1) w (by omega) hs _ (by omega)).mono ?_
      rintro x w1 ⟨b2, rfl, hab2, hbs2, hd2, hww⟩
      obtain rfl : w = w1 := hww.symm
      have HD2 := hide hd2
      clear hd2
      go_wp2
      go_ret
      exact ⟨⟨_, rfl, Or.inr ⟨_, b2, by rw [← HD.out]; exact HP.out, hbs2, rfl, HD2.out⟩⟩, rfl⟩
    · have HP : Hid (Json.part c (s.data.toList.drop b) = none) := by
        show _ = _
        rw [drop_cons s b hlt]
        exact if_neg hc
      have hcJ : ¬ (s[b].toNat : Int) = J := by rw [HJ.out]; exact fun h => hc (UInt8.toNat_inj.1 (by omega))
      have hcB : ((s[b].toNat : Int) == J) = false := beq_false_of_ne hcJ
      clear hc
      go_wp2
      go_ret
      exact ⟨⟨_, rfl, Or.inl ⟨by rw [← HD.out]; exact HP.out, rfl⟩⟩, rfl⟩
  · have HP : Hid (Json.part c (s.data.toList.drop b) = none) := by
      show _ = _
      rw [drop_end s b hlt]; rfl
    have hbi : (s.size : Int) ≤ (b : Int) := by omega
    have hbn : s.size ≤ b := by omega
    go_wp2
    go_ret
    exact ⟨⟨_, rfl, Or.inl ⟨by rw [← HD.out]; exact HP.out, rfl⟩⟩, rfl⟩

/-- a number or -1 -/
def orNo : Option Nat → Int
  | none => -1
  | some n => n

set_option maxRecDepth 100000 in
set_option maxHeartbeats 1600000 in
theorem refHexa_any (c : UInt8) (w : World) :
    Calls Tryd.prog 102 #[.int .u8 (c.toNat : Int)] w fun x w' => x = .returned (.int .i64 (orNo (Json.hexa c))) ∧ w' = w := by
  have hlt := c.toNat_lt
  obtain ⟨n, hn⟩ : ∃ n : Nat, c.toNat = n := ⟨_, rfl⟩
  have HX : Hid (Json.hexa c = if 48 ≤ n ∧ n ≤ 57 then some (n - 48) else if 97 ≤ n ∧ n ≤ 102 then some (n - 87) else if 65 ≤ n ∧ n ≤ 70 then some (n - 55) else none) := by
    show _ = _
    unfold Json.hexa; rw [hn]
  rw [hn] at hlt
  rw [hn]
  clear hn
  by_cases h1 : 48 ≤ n ∧ n ≤ 57
  · have HR : Hid (orNo (Json.hexa c) = (n : Int) - 48) := by show _ = _; rw [HX.out, if_pos h1]; show ((n - 48 : Nat) : Int) = _; omega
    rw [HR.out]
    have a1 : (48 : Int) ≤ (n : Int) := by omega
    have a2 : (n : Int) ≤ 57 := by omega
    go_enter Tryd.func102, Tryd.ntmps102
    go_wp2
    go_ret
    exact ⟨by go_num, rfl⟩
  · by_cases h2 : 97 ≤ n ∧ n ≤ 102
    · have HR : Hid (orNo (Json.hexa c) = (n : Int) - 97 + 10) := by show _ = _; rw [HX.out, if_neg h1, if_pos h2]; show ((n - 87 : Nat) : Int) = _; omega
      rw [HR.out]
      have a1 : (97 : Int) ≤ (n : Int) := by omega
      have a2 : (n : Int) ≤ 102 := by omega
      have a3 : ¬ (n : Int) ≤ 57 := by omega
      have a4 : decide ((n : Int) ≤ 57) = false := decide_eq_false a3
      go_enter Tryd.func102, Tryd.ntmps102
      go_wp2
      go_ret
      exact ⟨by go_num, rfl⟩
    · by_cases h3 : 65 ≤ n ∧ n ≤ 70
      · have HR : Hid (orNo (Json.hexa c) = (n : Int) - 65 + 10) := by show _ = _; rw [HX.out, if_neg h1, if_neg h2, if_pos h3]; show ((n - 55 : Nat) : Int) = _; omega
        rw [HR.out]
        have a1 : (65 : Int) ≤ (n : Int) := by omega
        have a2 : (n : Int) ≤ 70 := by omega
        go_enter Tryd.func102, Tryd.ntmps102
        go_wp2
        go_ret
        exact ⟨by go_num, rfl⟩
      · have HR : Hid (orNo (Json.hexa c) = -1) := by show _ = _; rw [HX.out, if_neg h1, if_neg h2, if_neg h3]; rfl
        rw [HR.out]
        by_cases k1 : (48 : Int) ≤ (n : Int)
        all_goals
          by_cases k2 : (97 : Int) ≤ (n : Int)
          all_goals
            by_cases k3 : (65 : Int) ≤ (n : Int)
            all_goals
              first
              | (exfalso; omega)
              | (go_enter Tryd.func102, Tryd.ntmps102
                 go_wp2
                 go_ret
                 exact ⟨rfl, rfl⟩)
end Go.Proofs.YtkkgngmhdlmgnaaDoor.jw

namespace Go.Proofs.YtkkgngmhdlmgnaaDoor.jw
open Go.ChangeShapes Go.WideShapes Go.ChangeAt Go.RowKit Go.Proofs.YtkkgngmhdlmgnaaDoor.common
attribute [local go_sem ↓] Go.wp_at_zero Go.wp_at_succ

set_option maxRecDepth 100000 in
set_option maxHeartbeats 1600000 in
theorem refShort_any (c : UInt8) (w : World) :
    Calls Tryd.prog 86 #[.int .u8 (c.toNat : Int)] w fun x w' => x = .returned (.int .i64 (orNo (Json.short c))) ∧ w' = w := by
  have hne : ∀ k : UInt8, c ≠ k → ((c.toNat : Int) == (k.toNat : Int)) = false := fun k h => beq_false_of_ne (fun e => h (UInt8.toNat_inj.1 (by omega)))
  by_cases n34 : c = 34
  · subst n34
    go_enter Tryd.func86, Tryd.ntmps86
    go_wp2
    go_ret
    exact ⟨rfl, rfl⟩
  by_cases n92 : c = 92
  · subst n92
    go_enter Tryd.func86, Tryd.ntmps86
    go_wp2
    go_ret
    exact ⟨rfl, rfl⟩
  by_cases n47 : c = 47
  · subst n47
    go_enter Tryd.func86, Tryd.ntmps86
    go_wp2
    go_ret
    exact ⟨rfl, rfl⟩
  by_cases n98 : c = 98
  · subst n98
    go_enter Tryd.func86, Tryd.ntmps86
    go_wp2
    go_ret
    exact ⟨rfl, rfl⟩
  by_cases n102 : c = 102
  · subst n102
    go_enter Tryd.func86, Tryd.ntmps86
    go_wp2
    go_ret
    exact ⟨rfl, rfl⟩
  by_cases n110 : c = 110
  · subst n110
    go_enter Tryd.func86, Tryd.ntmps86
    go_wp2
    go_ret
    exact ⟨rfl, rfl⟩
  by_cases n114 : c = 114
  · subst n114
    go_enter Tryd.func86, Tryd.ntmps86
    go_wp2
    go_ret
    exact ⟨rfl, rfl⟩
  by_cases n116 : c = 116
  · subst n116
    go_enter Tryd.func86, Tryd.ntmps86
    go_wp2
    go_ret
    exact ⟨rfl, rfl⟩
  have HR : Hid (orNo (Json.short c) = -1) := by
    show _ = _
    unfold Json.short
    simp [n34, n92, n47, n98, n102, n110, n114, n116, orNo]
  rw [HR.out]
  have q34 : ((c.toNat : Int) == 34) = false := hne 34 n34
  have q92 : ((c.toNat : Int) == 92) = false := hne 92 n92
  have q47 : ((c.toNat : Int) == 47) = false := hne 47 n47
  have q98 : ((c.toNat : Int) == 98) = false := hne 98 n98
  have q102 : ((c.toNat : Int) == 102) = false := hne 102 n102
  have q110 : ((c.toNat : Int) == 110) = false := hne 110 n110
  have q114 : ((c.toNat : Int) == 114) = false := hne 114 n114
  have q116 : ((c.toNat : Int) == 116) = false := hne 116 n116
  clear hne n34 n92 n47 n98 n102 n110 n114 n116
  go_enter Tryd.func86, Tryd.ntmps86
  go_wp2
  go_ret
  exact ⟨rfl, rfl⟩

/-- the four digits behind a backslash and a u at a, as a number, or -1 -/
def unitAt (s : ByteArray) (a : Nat) : Int :=
  match Json.word [92, 117] (s.data.toList.drop a) with
  | none => -1
  | some r => match Json.unit r with
    | none => -1
    | some (n, _) => n
theorem hexa_lt {c : UInt8} {d : Nat} (h : Json.hexa c = some d) : d < 16 := by
  unfold Json.hexa at h
  split at h
  · injection h; omega
  · split at h
    · injection h; omega
    · split at h
      · injection h; omega
      · cases h
end Go.Proofs.YtkkgngmhdlmgnaaDoor.jw

namespace Go.Proofs.YtkkgngmhdlmgnaaDoor.jw
open Go.ChangeShapes Go.WideShapes Go.ChangeAt Go.RowKit Go.Proofs.YtkkgngmhdlmgnaaDoor.common
attribute [local go_sem ↓] Go.wp_at_zero Go.wp_at_succ

theorem hexs_len : ∀ (k n : Nat) (l : List UInt8) {x : Nat × List UInt8}, Json.hexs k n l = some x → k ≤ l.length
  | 0, _, _, _, _ => Nat.zero_le _
  | _ + 1, _, [], _, h => by cases h
  | k + 1, n, c :: r, x, h => by
    simp only [Json.hexs] at h
    split at h
    · cases h
    · have := hexs_len k _ r h
      rw [List.length_cons]; omega
theorem word2 (s : ByteArray) (a : Nat) : Json.word [92, 117] (s.data.toList.drop a) = if h : a + 1 < s.size then (if s[a] = 92 ∧ s[a + 1] = 117 then some (s.data.toList.drop (a + 2)) else none) else none := by
  unfold Json.word
  by_cases h : a + 1 < s.size
  · rw [dif_pos h, drop_cons s a (by omega), drop_cons s (a + 1) h]
    by_cases h1 : s[a] = 92 ∧ s[a + 1] = 117
    · rw [if_pos h1, h1.1, h1.2]
      rfl
    · rw [if_neg h1, if_neg]
      intro h2
      apply h1
      simp [List.isPrefixOf] at h2
      exact ⟨h2.1.symm, h2.2.symm⟩
  · rw [dif_neg h, if_neg]
    intro h2
    have h3 := List.isPrefixOf_iff_prefix.1 h2
    have h4 := h3.length_le
    rw [List.length_drop, len_list] at h4
    simp at h4
    omega
theorem unit_short (s : ByteArray) (a : Nat) (h : ¬ a + 6 ≤ s.size) : unitAt s a = -1 := by
  unfold unitAt
  rw [word2]
  by_cases h1 : a + 1 < s.size
  · rw [dif_pos h1]
    by_cases h2 : s[a] = 92 ∧ s[a + 1] = 117
    · rw [if_pos h2]
      show (match Json.unit (s.data.toList.drop (a + 2)) with | none => (-1 : Int) | some (n, _) => (n : Int)) = -1
      cases h3 : Json.unit (s.data.toList.drop (a + 2)) with
      | none => rfl
      | some x =>
        have := hexs_len 4 0 _ h3
        rw [List.length_drop, len_list] at this
        omega
    · rw [if_neg h2]
  · rw [dif_neg h1]
theorem unit_none (s : ByteArray) (a : Nat) (h : a + 1 < s.size) (h1 : ¬ (s[a] = 92 ∧ s[a + 1] = 117)) : unitAt s a = -1 := by
  unfold unitAt
  rw [word2, dif_pos h, if_neg h1]
/-- the number that was read, or -1 -/
def fstNo : Option (Nat × List UInt8) → Int
  | none => -1
  | some x => (x.1 : Int)
theorem unit_some (s : ByteArray) (a : Nat) (h : a + 1 < s.size) (h1 : s[a] = 92 ∧ s[a + 1] = 117) : unitAt s a = fstNo (Json.hexs 4 0 (s.data.toList.drop (a + 2))) := by
  unfold unitAt
  rw [word2, dif_pos h, if_pos h1]
  show (match Json.hexs 4 0 (s.data.toList.drop (a + 2)) with | none => (-1 : Int) | some (n, _) => (n : Int)) = _
  cases Json.hexs 4 0 (s.data.toList.drop (a + 2)) <;> rfl

set_option maxRecDepth 100000 in
set_option maxHeartbeats 3200000 in
theorem refUnit_any (s : ByteArray) (a : Nat) (w : World) (hs : s.size < 9223372036854775000) (ha : a ≤ s.size + 20) (I : Int) (hI : I = (a : Int)) :
    Calls Tryd.prog 87 #[.string s, .int .i64 I] w fun x w' => x = .returned (.int .i64 (unitAt s a)) ∧ w' = w := by
  subst hI
  by_cases h6 : a + 6 ≤ s.size
  · have g6 : ¬ (s.size : Int) < (a : Int) + 6 := by omega
    have g6d : decide ((s.size : Int) < (a : Int) + 6) = false := decide_eq_false g6
    have a0 : (0 : Int) ≤ (a : Int) := by omega
    have a1 : (a : Int) < (s.size : Int) := by omega
    have a2 : (a : Int) + 1 < (s.size : Int) := by omega
    have a3 : ((a : Int) + 1).toNat = a + 1 := by omega
    have a4 : (0 : Int) ≤ (a : Int) + 1 := by omega
    by_cases h1 : s[a] = 92
    · by_cases h2 : s[a + 1] = 117
      · have HU := hide (unit_some s a (by omega) ⟨h1, h2⟩)
        obtain ⟨A, hA⟩ : ∃ A, unitAt s a = A := ⟨_, rfl⟩
        have HA := hide hA
        rw [hA]
        clear hA
        have p1 : (s[a].toNat : Int) = 92 := by rw [h1]; rfl
        have p2 : (s[a + 1].toNat : Int) = 117 := by rw [h2]; rfl
        clear h1 h2
        go_enter Tryd.func87, Tryd.ntmps87
        go_wp2_with fail
        clear p1 p2 g6 g6d a2 a3 a4
        obtain ⟨R, hR⟩ : ∃ R, Json.hexs 4 0 (s.data.toList.drop (a + 2)) = R := ⟨_, rfl⟩
        have HR := hide hR
        have HAR : Hid (A = fstNo R) := by show _ = _; rw [← HA.out, HU.out, hR]
        clear hR HU HA
        go_loopw [4, 5, 6] (fun r nv kv wr => ∃ K n : Nat, 2 ≤ K ∧ K ≤ 6 ∧ r = .int .i64 0 ∧ nv = .int .i64 n ∧ kv = .int .i64 K ∧ wr = w ∧ n < 16 ^ (K - 2) ∧ Hid (Json.hexs (6 - K) n (s.data.toList.drop (a + K)) = R)) (fun _ _ kv _ => 6 - (intOf kv).toNat)
        case atStart => exact ⟨2, 0, by omega, by omega, rfl, rfl, rfl, rfl, by decide, HR.out⟩
        case round =>
          obtain ⟨K, n, h2, hK6, rfl, rfl, rfl, hwr, hn, HX⟩ := hrel
          obtain rfl : w = wr := hwr.symm
          have hp : 16 ^ (K - 2) ≤ 16 ^ 4 := Nat.pow_le_pow_right (by decide) (by omega)
          have hp4 : (16 : Nat) ^ 4 = 65536 := by decide
          have hn6 : n < 65536 := by omega
          have HN := hide hn
          clear hn hp hp4
          by_cases hlt : K < 6
          · have k1 : (K : Int) < 6 := by omega
            have k2 : (a : Int) + (K : Int) < (s.size : Int) := by omega
            have k3 : (0 : Int) ≤ (a : Int) + (K : Int) := by omega
            have k4 : ((a : Int) + (K : Int)).toNat = a + K := by omega
            have k5 : a + K < s.size := by omega
            have HDC := hide (drop_cons s (a + K) k5)
            go_wp2_with fail
            refine (refHexa_any s[a + K] w).mono ?_
            rintro x w1 ⟨rfl, hww⟩
            obtain rfl : w = w1 := hww.symm
            obtain ⟨m, hm⟩ : ∃ m, 6 - K = m + 1 := ⟨6 - K - 1, by omega⟩
            cases hd : Json.hexa s[a + K] with
            | none =>
              have HRN : Hid (R = none) := by
                show _ = _
                rw [← HX.out, hm, HDC.out]
                simp only [Json.hexs, hd]
              have hod : orNo none = -1 := rfl
              rw [hod]
              clear hod hd hm
              go_wp2
              go_ret
              exact ⟨by rw [HAR.out, HRN.out]; rfl, rfl⟩
            | some d =>
              have hd16 := hexa_lt hd
              have HRS : Hid (Json.hexs (6 - (K + 1)) (16 * n + d) (s.data.toList.drop (a + (K + 1))) = R) := by
                show _ = _
                rw [← HX.out, hm, HDC.out]
                simp only [Json.hexs, hd]
                congr 1
                omega
              have hod : orNo (some d) = (d : Int) := rfl
              rw [hod]
              have HPW : Hid (16 * n + d < 16 ^ (K + 1 - 2)) := by
                show _ < _
                have h1 := HN.out
                rw [show K + 1 - 2 = (K - 2) + 1 by omega, Nat.pow_succ]
                omega
              have d0 : (0 : Int) ≤ (d : Int) := by omega
              have d1 : ¬ (d : Int) < 0 := by omega
              clear hod hd hm
              go_wp2
              go_roundw
              case rel => exact ⟨K + 1, 16 * n + d, by omega, by omega, by first | rfl | trivial, by go_num, by go_num, by first | rfl | trivial, HPW.out, HRS.out⟩
              case measure => simp [intOf]; omega
          · obtain rfl : K = 6 := by omega
            have HRR : Hid (R = some (n, s.data.toList.drop (a + 6))) := HX.out.symm
            go_wp2
            go_ret
            exact ⟨by rw [HAR.out, HRR.out]; rfl, rfl⟩
      · have HU := hide (unit_none s a (by omega) (fun h => h2 h.2))
        rw [HU.out]
        have p1 : (s[a].toNat : Int) = 92 := by rw [h1]; rfl
        have p2 : ((s[a + 1].toNat : Int) == 117) = false := beq_false_of_ne (fun e => h2 (UInt8.toNat_inj.1 (by show _ = 117; omega)))
        clear h1 h2
        go_enter Tryd.func87, Tryd.ntmps87
        go_wp2
        go_ret
        exact ⟨rfl, rfl⟩
    · have HU := hide (unit_none s a (by omega) (fun h => h1 h.1))
      rw [HU.out]
      have p1 : ((s[a].toNat : Int) == 92) = false := beq_false_of_ne (fun e => h1 (UInt8.toNat_inj.1 (by show _ = 92; omega)))
      clear h1
      go_enter Tryd.func87, Tryd.ntmps87
      go_wp2
      go_ret
      exact ⟨rfl, rfl⟩
  · have HU := hide (unit_short s a h6)
    rw [HU.out]
    have g6 : (s.size : Int) < (a : Int) + 6 := by omega
    go_enter Tryd.func87, Tryd.ntmps87
    go_wp2
    go_ret
    exact ⟨rfl, rfl⟩
end Go.Proofs.YtkkgngmhdlmgnaaDoor.jw

namespace Go.Proofs.YtkkgngmhdlmgnaaDoor.jw
open Go.ChangeShapes Go.WideShapes Go.ChangeAt Go.RowKit Go.Proofs.YtkkgngmhdlmgnaaDoor.common
attribute [local go_sem ↓] Go.wp_at_zero Go.wp_at_succ

theorem hexs_drop : ∀ (k n : Nat) (l : List UInt8) {m : Nat} {r : List UInt8}, Json.hexs k n l = some (m, r) → r = l.drop k
  | 0, _, _, _, _, h => by injection h with h; injection h with _ h; subst h; rfl
  | _ + 1, _, [], _, _, h => by cases h
  | k + 1, n, c :: l, m, r, h => by
    simp only [Json.hexs] at h
    split at h
    · cases h
    · exact hexs_drop k _ l h
theorem hexs_lt : ∀ (k n : Nat) (l : List UInt8) {m : Nat} {r : List UInt8}, Json.hexs k n l = some (m, r) → m < (n + 1) * 16 ^ k
  | 0, n, _, _, _, h => by injection h with h; injection h with h _; subst h; omega
  | _ + 1, _, [], _, _, h => by cases h
  | k + 1, n, c :: l, m, r, h => by
    simp only [Json.hexs] at h
    split at h
    · cases h
    · rename_i d hd
      have h1 := hexs_lt k _ l h
      have h2 := hexa_lt hd
      rw [Nat.pow_succ]
      have h3 : (16 * n + d + 1) * 16 ^ k ≤ (16 * (n + 1)) * 16 ^ k := Nat.mul_le_mul_right _ (by omega)
      have h4 : (16 * (n + 1)) * 16 ^ k = (n + 1) * (16 ^ k * 16) := by rw [Nat.mul_comm 16 (n + 1), Nat.mul_assoc, Nat.mul_comm 16 (16 ^ k)]
      omega
/-- what unit reads at a place where it reads something -/
theorem unitAt_some {s : ByteArray} {a : Nat} {m : Nat} (h : unitAt s a = (m : Int)) : Json.word [92, 117] (s.data.toList.drop a) = some (s.data.toList.drop (a + 2)) ∧ Json.unit (s.data.toList.drop (a + 2)) = some (m, s.data.toList.drop (a + 6)) ∧ m < 65536 ∧ a + 6 ≤ s.size := by
  have h6 : a + 6 ≤ s.size := by
    by_cases h6 : a + 6 ≤ s.size
    · exact h6
    · have := unit_short s a h6; omega
  by_cases h1 : s[a] = 92 ∧ s[a + 1] = 117
  · have hw : Json.word [92, 117] (s.data.toList.drop a) = some (s.data.toList.drop (a + 2)) := by rw [word2, dif_pos (by omega), if_pos h1]
    rw [unit_some s a (by omega) h1] at h
    cases hx : Json.hexs 4 0 (s.data.toList.drop (a + 2)) with
    | none => rw [hx] at h; have : (-1 : Int) = (m : Int) := h; omega
    | some x =>
      rw [hx] at h
      have h2 : (x.1 : Int) = (m : Int) := h
      obtain ⟨m', r⟩ := x
      obtain rfl : m' = m := by have : (m' : Int) = (m : Int) := h2; omega
      have h3 := hexs_drop 4 0 _ hx
      rw [List.drop_drop] at h3
      have h4 := hexs_lt 4 0 _ hx
      refine ⟨hw, ?_, by omega, h6⟩
      unfold Json.unit
      rw [hx, h3]
  · have := unit_none s a (by omega) h1; omega
theorem unitAt_no {s : ByteArray} {a : Nat} (h : unitAt s a = -1) (hw : Json.word [92, 117] (s.data.toList.drop a) = some (s.data.toList.drop (a + 2))) : Json.unit (s.data.toList.drop (a + 2)) = none := by
  rw [word2] at hw
  split at hw
  · rename_i h0
    split at hw
    · rename_i h1
      rw [unit_some s a h0 h1] at h
      unfold Json.unit
      cases hx : Json.hexs 4 0 (s.data.toList.drop (a + 2)) with
      | none => rfl
      | some x => rw [hx] at h; have : (x.1 : Int) = -1 := h; omega
    · cases hw
  · cases hw
theorem unitAt_cases (s : ByteArray) (a : Nat) : unitAt s a = -1 ∨ ∃ m : Nat, unitAt s a = (m : Int) := by
  unfold unitAt
  split
  · exact Or.inl rfl
  · split
    · exact Or.inl rfl
    · exact Or.inr ⟨_, rfl⟩
end Go.Proofs.YtkkgngmhdlmgnaaDoor.jw

namespace Go.Proofs.YtkkgngmhdlmgnaaDoor.jw
open Go.ChangeShapes Go.WideShapes Go.ChangeAt Go.RowKit Go.Proofs.YtkkgngmhdlmgnaaDoor.common
attribute [local go_sem ↓] Go.wp_at_zero Go.wp_at_succ

theorem word_u {s : ByteArray} {a : Nat} (h : a + 1 < s.size) (h1 : s[a] = 92) (h2 : s[a + 1] = 117) : Json.word [92, 117] (s.data.toList.drop a) = some (s.data.toList.drop (a + 2)) := by
  rw [word2, dif_pos h, if_pos ⟨h1, h2⟩]
theorem numbered_no {s : ByteArray} {a : Nat} (h : a + 1 < s.size) (h1 : s[a] = 92) (h2 : s[a + 1] = 117) (hu : unitAt s a = -1) : Json.numbered (s.data.toList.drop (a + 2)) = none := by
  unfold Json.numbered
  rw [unitAt_no hu (word_u h h1 h2)]
theorem numbered_one {s : ByteArray} {a m : Nat} (hu : unitAt s a = (m : Int)) (hm : m < 55296 ∨ 57344 ≤ m) : Json.numbered (s.data.toList.drop (a + 2)) = some (m, s.data.toList.drop (a + 6)) := by
  unfold Json.numbered
  rw [(unitAt_some hu).2.1]
  exact if_pos hm
theorem numbered_low {s : ByteArray} {a m : Nat} (hu : unitAt s a = (m : Int)) (h1 : 56320 ≤ m) (h2 : m < 57344) : Json.numbered (s.data.toList.drop (a + 2)) = none := by
  unfold Json.numbered
  rw [(unitAt_some hu).2.1]
  show (if m < 55296 ∨ 57344 ≤ m then _ else _) = _
  rw [if_neg (by omega)]
  split
  · rfl
  · split
    · rfl
    · rw [if_neg (by omega)]
theorem numbered_half {s : ByteArray} {a m : Nat} (hu : unitAt s a = (m : Int)) (h1 : 55296 ≤ m) (h2 : m < 57344) (hk : unitAt s (a + 6) = -1) : Json.numbered (s.data.toList.drop (a + 2)) = none := by
  unfold Json.numbered
  rw [(unitAt_some hu).2.1]
  show (if m < 55296 ∨ 57344 ≤ m then _ else _) = _
  rw [if_neg (by omega)]
  cases hw : Json.word [92, 117] (s.data.toList.drop (a + 6)) with
  | none => rfl
  | some r =>
    have hw2 := hw
    rw [word2] at hw2
    have hr : r = s.data.toList.drop (a + 6 + 2) := by
      split at hw2
      · split at hw2
        · injection hw2 with h; exact h.symm
        · cases hw2
      · cases hw2
    subst hr
    show (match Json.unit (s.data.toList.drop (a + 6 + 2)) with | none => none | some (k, r2) => _) = _
    rw [unitAt_no hk hw]
theorem numbered_two {s : ByteArray} {a m k : Nat} (hu : unitAt s a = (m : Int)) (h1 : 55296 ≤ m) (h2 : m < 57344) (hk : unitAt s (a + 6) = (k : Int)) : Json.numbered (s.data.toList.drop (a + 2)) = if m < 56320 ∧ 56320 ≤ k ∧ k < 57344 then some (65536 + (m - 55296) * 1024 + (k - 56320), s.data.toList.drop (a + 12)) else none := by
  unfold Json.numbered
  rw [(unitAt_some hu).2.1]
  show (if m < 55296 ∨ 57344 ≤ m then _ else _) = _
  rw [if_neg (by omega), (unitAt_some hk).1]
  show (match Json.unit (s.data.toList.drop (a + 6 + 2)) with | none => none | some (k, r2) => _) = _
  rw [(unitAt_some hk).2.1]

/-- a number and a place, or 0 and -1 -/
def NPl (s : ByteArray) (o : Option (Nat × List UInt8)) (x : Value) : Prop :=
  (o = none ∧ x = .tuple #[.int .i64 0, .int .i64 (-1)]) ∨ ∃ (n : Nat) (r : List UInt8) (b : Nat), o = some (n, r) ∧ b ≤ s.size ∧ x = .tuple #[.int .i64 (n : Int), .int .i64 (b : Int)] ∧ s.data.toList.drop b = r
theorem esc_u {s : ByteArray} {a : Nat} (h : a + 1 < s.size) (h2 : s[a + 1] = 117) : Json.escaped (s.data.toList.drop (a + 1)) = Json.numbered (s.data.toList.drop (a + 2)) := by
  rw [drop_cons s (a + 1) h]
  exact if_pos h2
theorem esc_s {s : ByteArray} {a : Nat} (h : a + 1 < s.size) (h2 : s[a + 1] ≠ 117) : Json.escaped (s.data.toList.drop (a + 1)) = match Json.short s[a + 1] with | none => none | some n => some (n, s.data.toList.drop (a + 2)) := by
  rw [drop_cons s (a + 1) h]
  exact if_neg h2

set_option maxRecDepth 100000 in
set_option maxHeartbeats 3200000 in
theorem refEscape_any (s : ByteArray) (a : Nat) (w : World) (hs : s.size < 9223372036854775000) (h0 : a < s.size) (h1 : s[a] = 92) (I : Int) (hI : I = (a : Int)) :
    Calls Tryd.prog 65 #[.string s, .int .i64 I] w fun x w' => (∃ v, x = .returned v ∧ NPl s (Json.escaped (s.data.toList.drop (a + 1))) v) ∧ w' = w := by
  subst hI
  by_cases hlt : a + 1 < s.size
  · have g1 : ¬ (s.size : Int) ≤ (a : Int) + 1 := by omega
    have g2 : (a : Int) + 1 < (s.size : Int) := by omega
    have g3 : ((a : Int) + 1).toNat = a + 1 := by omega
    have g4 : (0 : Int) ≤ (a : Int) + 1 := by omega
    by_cases h2 : s[a + 1] = 117
    · have HE := hide (esc_u hlt h2)
      have HW := hide (word_u hlt h1 h2)
      have p2 : (s[a + 1].toNat : Int) = 117 := by rw [h2]; rfl
      have H12 := hide (And.intro h1 h2)
      clear h1 h2
      go_enter Tryd.func65, Tryd.ntmps65
      go_wp2_with fail
      refine (refUnit_any s a w hs (by omega) _ rfl).mono ?_
      rintro x w1 ⟨rfl, hww⟩
      obtain rfl : w = w1 := hww.symm
      clear p2
      rcases unitAt_cases s a with hu | ⟨m, hu⟩
      · have HN := hide (numbered_no hlt H12.out.1 H12.out.2 hu)
        rw [hu]
        clear hu
        go_wp2
        go_ret2
        exact ⟨⟨_, rfl, Or.inl ⟨by rw [HE.out]; exact HN.out, rfl⟩⟩, rfl⟩
      · have HU := hide hu
        obtain ⟨_, _, hm, h6⟩ := unitAt_some hu
        obtain ⟨M, hM⟩ : ∃ M : Int, (m : Int) = M := ⟨_, rfl⟩
        rw [hu, hM]
        have HM := hide hM
        clear hu
        have m0 : ¬ M < 0 := by omega
        by_cases c1 : 56320 ≤ m ∧ m < 57344
        · have HN := hide (numbered_low HU.out c1.1 c1.2)
          have e1 : (56320 : Int) ≤ M := by omega
          have e2 : M ≤ 57343 := by omega
          clear c1 hM
          go_wp2
          go_ret2
          exact ⟨⟨_, rfl, Or.inl ⟨by rw [HE.out]; exact HN.out, rfl⟩⟩, rfl⟩
        · by_cases c2 : m < 55296 ∨ 57344 ≤ m
          · have HN := hide (numbered_one HU.out c2)
            rcases c2 with c2 | c2
            · have e1 : ¬ (56320 : Int) ≤ M := by omega
              have e2 : M < 55296 := by omega
              clear c1 c2 hM
              go_wp2
              go_ret2
              exact ⟨⟨_, rfl, Or.inr ⟨m, _, a + 6, by rw [HE.out]; exact HN.out, h6, by rw [HM.out]; go_num, rfl⟩⟩, rfl⟩
            · have e1 : (56320 : Int) ≤ M := by omega
              have e2 : ¬ M ≤ 57343 := by omega
              have e3 : ¬ M < 55296 := by omega
              have e4 : (56319 : Int) < M := by omega
              clear c1 c2 hM
              go_wp2
              go_ret2
              exact ⟨⟨_, rfl, Or.inr ⟨m, _, a + 6, by rw [HE.out]; exact HN.out, h6, by rw [HM.out]; go_num, rfl⟩⟩, rfl⟩
          · have e1 : ¬ (56320 : Int) ≤ M := by omega
            have e3 : ¬ M < 55296 := by omega
            have e4 : ¬ (56319 : Int) < M := by omega
            have hm1 : 55296 ≤ m := by omega
            have hm2 : m < 57344 := by omega
            have hm3 : m < 56320 := by omega
            clear c1 c2 hM
            go_wp2_with fail
            refine (refUnit_any s (a + 6) w hs (by omega) _ (by omega)).mono ?_
            rintro x w1 ⟨rfl, hww⟩
            obtain rfl : w = w1 := hww.symm
            rcases unitAt_cases s (a + 6) with hk | ⟨k, hk⟩
            · have HN := hide (numbered_half HU.out hm1 hm2 hk)
              rw [hk]
              clear hk
              go_wp2
              go_ret2
              exact ⟨⟨_, rfl, Or.inl ⟨by rw [HE.out]; exact HN.out, rfl⟩⟩, rfl⟩
            · have HN := hide (numbered_two HU.out hm1 hm2 hk)
              obtain ⟨_, _, hkm, h12⟩ := unitAt_some hk
              obtain ⟨K, hKK⟩ : ∃ K : Int, (k : Int) = K := ⟨_, rfl⟩
              rw [hk, hKK]
              have HKK := hide hKK
              clear hk
              by_cases c3 : 56320 ≤ k ∧ k < 57344
              · have f1 : ¬ K < 56320 := by omega
                have f2 : ¬ (57343 : Int) < K := by omega
                have HN2 : Hid (Json.numbered (s.data.toList.drop (a + 2)) = some (65536 + (m - 55296) * 1024 + (k - 56320), s.data.toList.drop (a + 12))) := by
                  show _ = _; rw [HN.out, if_pos ⟨hm3, c3⟩]
                have HC3 := hide c3
                clear c3 hKK
                go_wp2
                go_ret2
                exact ⟨⟨_, rfl, Or.inr ⟨_, _, a + 12, by rw [HE.out]; exact HN2.out, by omega, by have := HC3.out; have := HM.out; have := HKK.out; go_num, rfl⟩⟩, rfl⟩
              · have HN2 : Hid (Json.numbered (s.data.toList.drop (a + 2)) = none) := by
                  show _ = _; rw [HN.out, if_neg (by omega)]
                by_cases c4 : 56320 ≤ k
                · have f1 : ¬ K < 56320 := by omega
                  have f2 : (57343 : Int) < K := by omega
                  clear c3 c4 hKK
                  go_wp2
                  go_ret2
                  exact ⟨⟨_, rfl, Or.inl ⟨by rw [HE.out]; exact HN2.out, rfl⟩⟩, rfl⟩
                · have f1 : K < 56320 := by omega
                  clear c3 c4 hKK
                  go_wp2
                  go_ret2
                  exact ⟨⟨_, rfl, Or.inl ⟨by rw [HE.out]; exact HN2.out, rfl⟩⟩, rfl⟩
    · have HE := hide (esc_s hlt h2)
      have p2 : ((s[a + 1].toNat : Int) == 117) = false := beq_false_of_ne (fun e => h2 (UInt8.toNat_inj.1 (by show _ = 117; omega)))
      clear h1 h2
      go_enter Tryd.func65, Tryd.ntmps65
      go_wp2_with fail
      refine (refShort_any s[a + 1] w).mono ?_
      rintro x w1 ⟨rfl, hww⟩
      obtain rfl : w = w1 := hww.symm
      cases hsh : Json.short s[a + 1] with
      | none =>
        have HN : Hid (Json.escaped (s.data.toList.drop (a + 1)) = none) := by show _ = _; rw [HE.out, hsh]
        have hod : orNo none = -1 := rfl
        rw [hod]
        clear hod hsh
        go_wp2
        go_ret2
        exact ⟨⟨_, rfl, Or.inl ⟨HN.out, rfl⟩⟩, rfl⟩
      | some n =>
        have HN : Hid (Json.escaped (s.data.toList.drop (a + 1)) = some (n, s.data.toList.drop (a + 2))) := by show _ = _; rw [HE.out, hsh]
        have hod : orNo (some n) = (n : Int) := rfl
        rw [hod]
        have n0 : ¬ (n : Int) < 0 := by omega
        clear hod hsh
        go_wp2
        go_ret2
        exact ⟨⟨_, rfl, Or.inr ⟨n, _, a + 2, HN.out, by omega, by go_num, rfl⟩⟩, rfl⟩
  · have g1 : (s.size : Int) ≤ (a : Int) + 1 := by omega
    have HN : Hid (Json.escaped (s.data.toList.drop (a + 1)) = none) := by show _ = _; rw [drop_end s (a + 1) hlt]; rfl
    clear h1
    go_enter Tryd.func65, Tryd.ntmps65
    go_wp2
    go_ret2
    exact ⟨⟨_, rfl, Or.inl ⟨HN.out, rfl⟩⟩, rfl⟩
end Go.Proofs.YtkkgngmhdlmgnaaDoor.jw

namespace Go.Proofs.YtkkgngmhdlmgnaaDoor.jw
open Go.ChangeShapes Go.WideShapes Go.ChangeAt Go.RowKit Go.Proofs.YtkkgngmhdlmgnaaDoor.common
attribute [local go_sem ↓] Go.wp_at_zero Go.wp_at_succ

theorem ext_list (s : ByteArray) (a b : Nat) : (s.extract a b).data.toList = (s.data.toList.drop a).take (b - a) := by
  rw [ByteArray.data_extract, Array.toList_extract, List.extract_eq_take_drop]
theorem pre_take (p l : List UInt8) : p.isPrefixOf l = decide (l.take p.length = p) := by
  by_cases h : l.take p.length = p
  · rw [decide_eq_true h]
    exact List.isPrefixOf_iff_prefix.2 ⟨l.drop p.length, by conv => lhs; arg 1; rw [← h]
                                                            exact List.take_append_drop _ _⟩
  · rw [decide_eq_false h]
    apply Bool.eq_false_iff.2
    intro h2
    obtain ⟨t, ht⟩ := List.isPrefixOf_iff_prefix.1 h2
    apply h
    rw [← ht]; simp

set_option maxRecDepth 100000 in
set_option maxHeartbeats 1600000 in
theorem refWord_any (s p : ByteArray) (a : Nat) (w : World) (hs : s.size < 9223372036854775000) (hp : p.size < 100) (ha : a ≤ s.size) (I : Int) (hI : I = (a : Int)) :
    Calls Tryd.prog 67 #[.string s, .int .i64 I, .string p] w fun x w' => x = .returned (.bool (p.data.toList.isPrefixOf (s.data.toList.drop a))) ∧ w' = w := by
  subst hI
  by_cases hle : a + p.size ≤ s.size
  · have g1 : (a : Int) + (p.size : Int) ≤ (s.size : Int) := by omega
    have g2 : (0 : Int) ≤ (a : Int) := by omega
    have g3 : (a : Int) ≤ (a : Int) + (p.size : Int) := by omega
    have g4 : ((a : Int) + (p.size : Int)).toNat = a + p.size := by omega
    have hx := ext_list s a (a + p.size)
    rw [Nat.add_sub_cancel_left] at hx
    have HX := hide hx
    clear hx
    go_enter Tryd.func67, Tryd.ntmps67
    go_wp2
    go_ret
    refine ⟨?_, rfl⟩
    rw [pre_take, len_list, ← HX.out]
    by_cases he : s.extract a (a + p.size) = p
    · rw [decide_eq_true (by rw [he])]; simp [he]
    · rw [decide_eq_false (fun h => he (ByteArray.ext (Array.toList_inj.1 h)))]
      have hb : ((s.extract a (a + p.size)).toList == p.toList) = false := beq_false_of_ne (fun h => he (ByteArray.ext (Array.toList_inj.1 (by rw [← ByteArray.toList_eq, ← ByteArray.toList_eq]; exact h))))
      show Ending.returned (Value.bool ((s.extract a (a + p.size)).toList == p.toList)) = _
      rw [hb]
  · have g1 : ¬ (a : Int) + (p.size : Int) ≤ (s.size : Int) := by omega
    have g1d : decide ((a : Int) + (p.size : Int) ≤ (s.size : Int)) = false := decide_eq_false g1
    have HF : Hid (p.data.toList.isPrefixOf (s.data.toList.drop a) = false) := by
      show _ = _
      rw [pre_take]
      apply decide_eq_false
      intro h
      have := congrArg List.length h
      rw [List.length_take, List.length_drop, len_list, len_list] at this
      omega
    rw [HF.out]
    go_enter Tryd.func67, Tryd.ntmps67
    go_wp2
    go_ret
    exact ⟨rfl, rfl⟩
end Go.Proofs.YtkkgngmhdlmgnaaDoor.jw

namespace Go.Proofs.YtkkgngmhdlmgnaaDoor.jw
open Go.ChangeShapes Go.WideShapes Go.ChangeAt Go.RowKit Go.Proofs.YtkkgngmhdlmgnaaDoor.common
attribute [local go_sem ↓] Go.wp_at_zero Go.wp_at_succ

theorem own_geS {w : World} {base : Nat} {e : TypeId} {size : Nat} {v : Value} {n : Nat} {xs : List Value} (h : w.ownsRow base e size v n xs) : ∀ b, v.ownBlock = some b → base ≤ b := by
  intro b hb
  exact (h.lt b hb).1
theorem enc_cells (r : Int) (h : ∀ x ∈ Lib.encodeRuneZ r, 0 ≤ x ∧ x < 256) : (Lib.encodeRune r).map B = (Lib.encodeRuneZ r).map fun x => Value.int .u8 x := by
  unfold Lib.encodeRune
  rw [List.map_map]
  apply List.map_congr_left
  intro x hx
  obtain ⟨h0, h1⟩ := h x hx
  show Value.int .u8 ((x.toNat.toUInt8).toNat : Int) = _
  have e : (x.toNat.toUInt8).toNat = x.toNat := by
    rw [Nat.toUInt8_eq, UInt8.toNat_ofNat']
    omega
  rw [e]
  congr 1
  omega

set_option maxRecDepth 100000 in
set_option maxHeartbeats 3200000 in
theorem refSpelt_any (b : Nat) (v : Value) (l : List UInt8) (r : Int) (w : World) (h0 : 0 ≤ r) (h1 : r ≤ 1114111) (h2 : r < 55296 ∨ 57343 < r) (hown : w.ownsRow b 5 1 v l.length (l.map B)) (hlen : l.length + 8 ≤ 140737488355328) (hb : b ≤ w.heap.size) :
    Calls Tryd.prog 66 #[v, .int .i64 r] w fun x w' => ∃ v', x = .returned v' ∧ w'.ownsRow b 5 1 v' (l ++ Lib.encodeRune r).length ((l ++ Lib.encodeRune r).map B) ∧ Below b w w' := by
  obtain ⟨i0, hi, hz0, hz1, hz2⟩ := info_parts info8
  have HO := hide hown
  clear hown
  by_cases c1 : r < 128
  · skip
    have HM : Hid ((Lib.encodeRune r).map B = [.int .u8 (r)]) := by
      show _ = _
      rw [enc_cells r (by rw [Lib.encodeRuneZ_one h0 (by omega)]; intro x hx; simp only [List.mem_cons, List.not_mem_nil, or_false] at hx; omega), Lib.encodeRuneZ_one h0 (by omega)]
      rfl
    have HLn : Hid ((Lib.encodeRune r).length = 1) := by
      show _ = _
      unfold Lib.encodeRune
      rw [List.length_map, Lib.encodeRuneZ_one h0 (by omega)]; rfl
    go_enter Tryd.func66, Tryd.ntmps66
    go_wp2_with (at_builtin; refine wpList_append_own _ rfl _ _ 60 rfl b 5 i0 (.int .u8 0) 1 1 Tryd.underlying60 hi hz0 hz1 hz2 rfl (by decide) _ _ _ rfl (HO.out.alloc _) ⟨w.heap.size, 0, none⟩ 1 1 [.int .u8 (r)] rfl rfl (cells_new w [.int .u8 (r)] 5) ?c12 ?c13 ?c14 ?c15 ?_)
    case c12 => first | exact ⟨rfl⟩ | rfl | (intro u hu; simp only [List.mem_cons, List.not_mem_nil, or_false] at hu; rcases hu with rfl <;> rfl)
    case c13 => unfold maxLen; omega
    case c14 => omega
    case c15 => first | omega | (simp; omega)
    intro v' w1 hown' hgrow _
    have R1 : Hid (w1.ownsRow b 5 1 v' (l ++ Lib.encodeRune r).length ((l ++ Lib.encodeRune r).map B)) := by
      show w1.ownsRow _ _ _ _ _ _
      rw [List.map_append, List.length_append, HM.out, HLn.out]; exact hown'
    have R2 : Hid (Below b w w1) := ((Below.refl b w).alloc hb _).grown hgrow (by simp; omega) (own_geS HO.out)
    clear hown' hgrow
    go_wp2
    go_ret
    exact ⟨_, rfl, R1.out, R2.out⟩
  · by_cases c2 : r < 2048
    · skip
      have HM : Hid ((Lib.encodeRune r).map B = [.int .u8 (192 + r / 64), .int .u8 (128 + r % 64)]) := by
        show _ = _
        rw [enc_cells r (by rw [Lib.encodeRuneZ_two (by omega) (by omega)]; intro x hx; simp only [List.mem_cons, List.not_mem_nil, or_false] at hx; omega), Lib.encodeRuneZ_two (by omega) (by omega)]
        rfl
      have HLn : Hid ((Lib.encodeRune r).length = 2) := by
        show _ = _
        unfold Lib.encodeRune
        rw [List.length_map, Lib.encodeRuneZ_two (by omega) (by omega)]; rfl
      go_enter Tryd.func66, Tryd.ntmps66
      go_wp2_with (at_builtin; refine wpList_append_own _ rfl _ _ 60 rfl b 5 i0 (.int .u8 0) 1 1 Tryd.underlying60 hi hz0 hz1 hz2 rfl (by decide) _ _ _ rfl (HO.out.alloc _) ⟨w.heap.size, 0, none⟩ 2 2 [.int .u8 (192 + r / 64), .int .u8 (128 + r % 64)] rfl rfl (cells_new w [.int .u8 (192 + r / 64), .int .u8 (128 + r % 64)] 5) ?c22 ?c23 ?c24 ?c25 ?_)
      case c22 => first | exact ⟨rfl, rfl⟩ | rfl | (intro u hu; simp only [List.mem_cons, List.not_mem_nil, or_false] at hu; rcases hu with rfl | rfl <;> rfl)
      case c23 => unfold maxLen; omega
      case c24 => omega
      case c25 => first | omega | (simp; omega)
      intro v' w1 hown' hgrow _
      have R1 : Hid (w1.ownsRow b 5 1 v' (l ++ Lib.encodeRune r).length ((l ++ Lib.encodeRune r).map B)) := by
        show w1.ownsRow _ _ _ _ _ _
        rw [List.map_append, List.length_append, HM.out, HLn.out]; exact hown'
      have R2 : Hid (Below b w w1) := ((Below.refl b w).alloc hb _).grown hgrow (by simp; omega) (own_geS HO.out)
      clear hown' hgrow
      go_wp2
      go_ret
      exact ⟨_, rfl, R1.out, R2.out⟩
    · by_cases c3 : r < 65536
      · skip
        have HM : Hid ((Lib.encodeRune r).map B = [.int .u8 (224 + r / 4096), .int .u8 (128 + r / 64 % 64), .int .u8 (128 + r % 64)]) := by
          show _ = _
          rw [enc_cells r (by rw [Lib.encodeRuneZ_three (by omega)]; intro x hx; simp only [List.mem_cons, List.not_mem_nil, or_false] at hx; omega), Lib.encodeRuneZ_three (by omega)]
          rfl
        have HLn : Hid ((Lib.encodeRune r).length = 3) := by
          show _ = _
          unfold Lib.encodeRune
          rw [List.length_map, Lib.encodeRuneZ_three (by omega)]; rfl
        go_enter Tryd.func66, Tryd.ntmps66
        go_wp2_with (at_builtin; refine wpList_append_own _ rfl _ _ 60 rfl b 5 i0 (.int .u8 0) 1 1 Tryd.underlying60 hi hz0 hz1 hz2 rfl (by decide) _ _ _ rfl (HO.out.alloc _) ⟨w.heap.size, 0, none⟩ 3 3 [.int .u8 (224 + r / 4096), .int .u8 (128 + r / 64 % 64), .int .u8 (128 + r % 64)] rfl rfl (cells_new w [.int .u8 (224 + r / 4096), .int .u8 (128 + r / 64 % 64), .int .u8 (128 + r % 64)] 5) ?c32 ?c33 ?c34 ?c35 ?_)
        case c32 => first | exact ⟨rfl, rfl, rfl⟩ | rfl | (intro u hu; simp only [List.mem_cons, List.not_mem_nil, or_false] at hu; rcases hu with rfl | rfl | rfl <;> rfl)
        case c33 => unfold maxLen; omega
        case c34 => omega
        case c35 => first | omega | (simp; omega)
        intro v' w1 hown' hgrow _
        have R1 : Hid (w1.ownsRow b 5 1 v' (l ++ Lib.encodeRune r).length ((l ++ Lib.encodeRune r).map B)) := by
          show w1.ownsRow _ _ _ _ _ _
          rw [List.map_append, List.length_append, HM.out, HLn.out]; exact hown'
        have R2 : Hid (Below b w w1) := ((Below.refl b w).alloc hb _).grown hgrow (by simp; omega) (own_geS HO.out)
        clear hown' hgrow
        go_wp2
        go_ret
        exact ⟨_, rfl, R1.out, R2.out⟩
      · skip
        have HM : Hid ((Lib.encodeRune r).map B = [.int .u8 (240 + r / 262144), .int .u8 (128 + r / 4096 % 64), .int .u8 (128 + r / 64 % 64), .int .u8 (128 + r % 64)]) := by
          show _ = _
          rw [enc_cells r (by rw [Lib.encodeRuneZ_four (by omega) h1]; intro x hx; simp only [List.mem_cons, List.not_mem_nil, or_false] at hx; omega), Lib.encodeRuneZ_four (by omega) h1]
          rfl
        have HLn : Hid ((Lib.encodeRune r).length = 4) := by
          show _ = _
          unfold Lib.encodeRune
          rw [List.length_map, Lib.encodeRuneZ_four (by omega) h1]; rfl
        go_enter Tryd.func66, Tryd.ntmps66
        go_wp2_with (at_builtin; refine wpList_append_own _ rfl _ _ 60 rfl b 5 i0 (.int .u8 0) 1 1 Tryd.underlying60 hi hz0 hz1 hz2 rfl (by decide) _ _ _ rfl (HO.out.alloc _) ⟨w.heap.size, 0, none⟩ 4 4 [.int .u8 (240 + r / 262144), .int .u8 (128 + r / 4096 % 64), .int .u8 (128 + r / 64 % 64), .int .u8 (128 + r % 64)] rfl rfl (cells_new w [.int .u8 (240 + r / 262144), .int .u8 (128 + r / 4096 % 64), .int .u8 (128 + r / 64 % 64), .int .u8 (128 + r % 64)] 5) ?c42 ?c43 ?c44 ?c45 ?_)
        case c42 => first | exact ⟨rfl, rfl, rfl, rfl⟩ | rfl | (intro u hu; simp only [List.mem_cons, List.not_mem_nil, or_false] at hu; rcases hu with rfl | rfl | rfl | rfl <;> rfl)
        case c43 => unfold maxLen; omega
        case c44 => omega
        case c45 => first | omega | (simp; omega)
        intro v' w1 hown' hgrow _
        have R1 : Hid (w1.ownsRow b 5 1 v' (l ++ Lib.encodeRune r).length ((l ++ Lib.encodeRune r).map B)) := by
          show w1.ownsRow _ _ _ _ _ _
          rw [List.map_append, List.length_append, HM.out, HLn.out]; exact hown'
        have R2 : Hid (Below b w w1) := ((Below.refl b w).alloc hb _).grown hgrow (by simp; omega) (own_geS HO.out)
        clear hown' hgrow
        go_wp2
        go_ret
        exact ⟨_, rfl, R1.out, R2.out⟩
end Go.Proofs.YtkkgngmhdlmgnaaDoor.jw
