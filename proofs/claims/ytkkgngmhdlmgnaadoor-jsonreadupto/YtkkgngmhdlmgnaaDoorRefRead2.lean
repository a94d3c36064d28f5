import Derived.Test.YtkkgngmhdlmgnaaDoorRefRead1
namespace Go.Proofs.YtkkgngmhdlmgnaaDoor.jw
open Go.ChangeShapes Go.WideShapes Go.ChangeAt Go.RowKit Go.Proofs.YtkkgngmhdlmgnaaDoor.common
attribute [local go_sem ↓] Go.wp_at_zero Go.wp_at_succ

/-- a place in s where r is left, or -1 -/
def Pl (s : ByteArray) (o : Option (List UInt8)) (x : Value) : Prop :=
  (o = none ∧ x = .int .i64 (-1)) ∨ ∃ (r : List UInt8) (b : Nat), o = some r ∧ b ≤ s.size ∧ x = .int .i64 (b : Int) ∧ s.data.toList.drop b = r

theorem refMark_none (s : ByteArray) (c : Value) (w : World) :
    Calls Tryd.prog 20 #[.string s, .int .i64 (-1), c] w fun x w' => x = .returned (.int .i64 (-1)) ∧ w' = w := by
  go_enter Tryd.func20, Tryd.ntmps20
  go_wp2
  go_ret
  exact ⟨rfl, rfl⟩

set_option maxRecDepth 100000 in
set_option maxHeartbeats 1600000 in
theorem refMark_any (s : ByteArray) (a : Nat) (c : UInt8) (w : World) (ha : a ≤ s.size) (hs : s.size < 9223372036854775800) (I J : Int) (hI : I = (a : Int)) (hJ : J = (c.toNat : Int)) :
    Calls Tryd.prog 20 #[.string s, .int .i64 I, .int .u8 J] w fun x w' => (∃ v, x = .returned v ∧ Pl s (Json.part c (Json.blanks (s.data.toList.drop a))) v) ∧ w' = w := by
  have hI0 : ¬ I < 0 := by omega
  have HI := hide hI
  have HJ := hide hJ
  clear hI hJ
  go_enter Tryd.func20, Tryd.ntmps20
  go_wp2_with fail
  refine (refBlanks_any s a w ha hs I HI.out).mono ?_
  rintro x w1 ⟨b, rfl, hab, hbs, hd, hww⟩
  obtain rfl : w = w1 := hww.symm
  have HD := hide hd
  clear hd
  by_cases hlt : b < s.size
  · have hbi : ¬ (s.size : Int) ≤ (b : Int) := by omega
    have hbd : decide ((s.size : Int) ≤ (b : Int)) = false := decide_eq_false hbi
    have hbn : ¬ s.size ≤ b := by omega
    have hbd2 : decide (s.size ≤ b) = false := decide_eq_false hbn
    have b0 : (0 : Int) ≤ (b : Int) := by omega
    have hbl : (b : Int) < (s.size : Int) := by omega
    by_cases hc : s[b] = c
    · have HP : Hid (Json.part c (s.data.toList.drop b) = some (Json.blanks (s.data.toList.drop (b + 1)))) := by
        show _ = _
        rw [drop_cons s b hlt]
        exact if_pos hc
      have hcJ : (s[b].toNat : Int) = J := by rw [hc, HJ.out]
      clear hc
      go_wp2_with fail
      refine (refBlanks_any s (b + 1) w (by omega) hs _ (by omega)).mono ?_
      rintro x w1 ⟨b2, rfl, hab2, hbs2, hd2, hww⟩
      obtain rfl : w = w1 := hww.symm
      have HD2 := hide hd2
      clear hd2
      go_wp2
      go_ret
      exact ⟨⟨_, rfl, Or.inr ⟨_, b2, by rw [← HD.out]; exact HP.out, hbs2, rfl, HD2.out⟩⟩, rfl⟩
    · have HP : Hid (Json.part c (s.data.toList.drop b) = none) := by
        show _ = _
        rw [drop_cons s b hlt]
        exact if_neg hc
      have hcJ : ¬ (s[b].toNat : Int) = J := by rw [HJ.out]; exact fun h => hc (UInt8.toNat_inj.1 (by omega))
      have hcB : ((s[b].toNat : Int) == J) = false := beq_false_of_ne hcJ
      clear hc
      go_wp2
      go_ret
      exact ⟨⟨_, rfl, Or.inl ⟨by rw [← HD.out]; exact HP.out, rfl⟩⟩, rfl⟩
  · have HP : Hid (Json.part c (s.data.toList.drop b) = none) := by
      show _ = _
      rw [drop_end s b hlt]; rfl
    have hbi : (s.size : Int) ≤ (b : Int) := by omega
    have hbn : s.size ≤ b := by omega
    go_wp2
    go_ret
    exact ⟨⟨_, rfl, Or.inl ⟨by rw [← HD.out]; exact HP.out, rfl⟩⟩, rfl⟩

/-- a number or -1 -/
def orNo : Option Nat → Int
  | none => -1
  | some n => n

set_option maxRecDepth 100000 in
set_option maxHeartbeats 1600000 in
theorem refHexa_any (c : UInt8) (w : World) :
    Calls Tryd.prog 102 #[.int .u8 (c.toNat : Int)] w fun x w' => x = .returned (.int .i64 (orNo (Json.hexa c))) ∧ w' = w := by
  have hlt := c.toNat_lt
  obtain ⟨n, hn⟩ : ∃ n : Nat, c.toNat = n := ⟨_, rfl⟩
  have HX : Hid (Json.hexa c = if 48 ≤ n ∧ n ≤ 57 then some (n - 48) else if 97 ≤ n ∧ n ≤ 102 then some (n - 87) else if 65 ≤ n ∧ n ≤ 70 then some (n - 55) else none) := by
    show _ = _
    unfold Json.hexa; rw [hn]
  rw [hn] at hlt
  rw [hn]
  clear hn
  by_cases h1 : 48 ≤ n ∧ n ≤ 57
  · have HR : Hid (orNo (Json.hexa c) = (n : Int) - 48) := by show _ = _; rw [HX.out, if_pos h1]; show ((n - 48 : Nat) : Int) = _; omega
    rw [HR.out]
    have a1 : (48 : Int) ≤ (n : Int) := by omega
    have a2 : (n : Int) ≤ 57 := by omega
    go_enter Tryd.func102, Tryd.ntmps102
    go_wp2
    go_ret
    exact ⟨by go_num, rfl⟩
  · by_cases h2 : 97 ≤ n ∧ n ≤ 102
    · have HR : Hid (orNo (Json.hexa c) = (n : Int) - 97 + 10) := by show _ = _; rw [HX.out, if_neg h1, if_pos h2]; show ((n - 87 : Nat) : Int) = _; omega
      rw [HR.out]
      have a1 : (97 : Int) ≤ (n : Int) := by omega
      have a2 : (n : Int) ≤ 102 := by omega
      have a3 : ¬ (n : Int) ≤ 57 := by omega
      have a4 : decide ((n : Int) ≤ 57) = false := decide_eq_false a3
      go_enter Tryd.func102, Tryd.ntmps102
      go_wp2
      go_ret
      exact ⟨by go_num, rfl⟩
    · by_cases h3 : 65 ≤ n ∧ n ≤ 70
      · have HR : Hid (orNo (Json.hexa c) = (n : Int) - 65 + 10) := by show _ = _; rw [HX.out, if_neg h1, if_neg h2, if_pos h3]; show ((n - 55 : Nat) : Int) = _; omega
        rw [HR.out]
        have a1 : (65 : Int) ≤ (n : Int) := by omega
        have a2 : (n : Int) ≤ 70 := by omega
        go_enter Tryd.func102, Tryd.ntmps102
        go_wp2
        go_ret
        exact ⟨by go_num, rfl⟩
      · have HR : Hid (orNo (Json.hexa c) = -1) := by show _ = _; rw [HX.out, if_neg h1, if_neg h2, if_neg h3]; rfl
        rw [HR.out]
        by_cases k1 : (48 : Int) ≤ (n : Int)
        all_goals
          by_cases k2 : (97 : Int) ≤ (n : Int)
          all_goals
            by_cases k3 : (65 : Int) ≤ (n : Int)
            all_goals
              first
              | (exfalso; omega)
              | (go_enter Tryd.func102, Tryd.ntmps102
                 go_wp2
                 go_ret
                 exact ⟨rfl, rfl⟩)
end Go.Proofs.YtkkgngmhdlmgnaaDoor.jw
