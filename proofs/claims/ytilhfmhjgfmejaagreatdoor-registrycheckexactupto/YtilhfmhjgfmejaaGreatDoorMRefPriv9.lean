import Derived.Test.YtilhfmhjgfmejaaGreatDoorMRefHost9
namespace Go.Proofs.YtilhfmhjgfmejaaGreatDoor.tm
open Go.ChangeShapes Go.WideShapes Go.ChangeAt Go.RowKit Go.Proofs.YtilhfmhjgfmejaaGreatDoor.common Go.Proofs.YtilhfmhjgfmejaaGreatDoor.bk
open Go.Proofs.YtilhfmhjgfmejaaGreatDoor.fd (before behind cut_no cut_at)
attribute [local go_sem ↓] Go.wp_at_zero Go.wp_at_succ

/-- the other bytes of a scheme -/
def othB (b : UInt8) : Bool := Tm.btw 48 57 b || [43, 45, 46].contains b
theorem sch_oth (b : UInt8) : schB b = (Tm.btw 97 122 b || othB b) := by unfold schB othB; rw [Bool.or_assoc]
/-- what has been read of a scheme -/
def schP (l : List UInt8) : Bool := l.isEmpty || (Tm.btw 97 122 (l.headD 0) && l.all schB)
theorem schP_snoc0 (c : UInt8) : schP [c] = Tm.btw 97 122 c := by
  unfold schP
  show (false || (Tm.btw 97 122 c && (schB c && true))) = _
  rw [sch_oth]
  cases Tm.btw 97 122 c <;> rfl
theorem schP_snoc {l : List UInt8} (h : l ≠ []) (c : UInt8) : schP (l ++ [c]) = (schP l && schB c) := by
  unfold schP
  cases l with
  | nil => exact absurd rfl h
  | cons b r =>
    show (false || (Tm.btw 97 122 b && ((b :: r) ++ [c]).all schB)) = ((false || (Tm.btw 97 122 b && (b :: r).all schB)) && schB c)
    rw [List.all_append, Bool.false_or, Bool.false_or, Bool.and_assoc]
    congr 2
    show (schB c && true) = schB c
    rw [Bool.and_true]
theorem schP_short {l : List UInt8} {k : Nat} (hk : k ≠ 0) (hl : k ≤ l.length) (h : schP (l.take k) = false) : privS l = false := by
  unfold schP at h
  unfold privS
  cases l with
  | nil => rfl
  | cons b r =>
    cases k with
    | zero => exact absurd rfl hk
    | succ k =>
      rw [List.take_succ_cons] at h
      have h2 : (Tm.btw 97 122 b && (b :: r.take k).all schB) = false := h
      show (true && Tm.btw 97 122 b && (b :: r).all schB && (b :: r).contains 46) = false
      cases hb : Tm.btw 97 122 b with
      | false => rfl
      | true =>
        rw [hb, Bool.true_and] at h2
        have h3 : (b :: r).all schB = false := Tm.all_short (b :: r) schB (k + 1) (by rw [List.take_succ_cons]; exact h2)
        rw [h3]; rfl
theorem priv_end {l : List UInt8} (h : schP l = true) : privS l = l.contains 46 := by
  unfold schP at h
  unfold privS
  cases l with
  | nil => rfl
  | cons b r =>
    have h2 : (Tm.btw 97 122 b && (b :: r).all schB) = true := h
    rw [Bool.and_eq_true] at h2
    show (true && Tm.btw 97 122 b && (b :: r).all schB && (b :: r).contains 46) = _
    rw [h2.1, h2.2]; rfl
theorem con_snoc (l : List UInt8) (c : UInt8) : (l ++ [c]).contains 46 = (l.contains 46 || decide (c.toNat = 46)) := by
  rw [List.contains_append]
  congr 1
  rw [Bool.eq_iff_iff, decide_eq_true_iff]
  constructor
  · intro h
    have : 46 = c := by simpa using h
    rw [← this]; rfl
  · intro h
    have : c = 46 := UInt8.toNat_inj.1 h
    rw [this]; rfl
theorem oth_nat (c : UInt8) : othB c = decide (48 ≤ c.toNat ∧ c.toNat ≤ 57 ∨ c.toNat = 43 ∨ c.toNat = 45 ∨ c.toNat = 46) := byte_eq othB (fun c => decide (48 ≤ c.toNat ∧ c.toNat ≤ 57 ∨ c.toNat = 43 ∨ c.toNat = 45 ∨ c.toNat = 46)) (by decide +kernel) c
/-- which of the scheme's bytes it is -/
theorem byte9 (c : UInt8) : (97 ≤ c.toNat ∧ c.toNat ≤ 122) ∨ (48 ≤ c.toNat ∧ c.toNat ≤ 57) ∨ c.toNat = 43 ∨ c.toNat = 45 ∨ c.toNat = 46 ∨ (c.toNat < 48 ∧ c.toNat ≠ 43 ∧ c.toNat ≠ 45 ∧ c.toNat ≠ 46) ∨ (57 < c.toNat ∧ c.toNat < 97) ∨ 122 < c.toNat := by omega

set_option maxRecDepth 100000 in
set_option maxHeartbeats 6400000 in
theorem refPriv_any (s : ByteArray) (w : World) (hs : s.size ≤ 4611686018427387900) :
    Calls Tryz.prog 80 #[.string s] w fun e w' => e = .returned (.bool (privS s.data.toList)) ∧ w' = w := by
  obtain ⟨R, hR⟩ : ∃ R, R = privS s.data.toList := ⟨_, rfl⟩
  have HR := hide hR
  rw [← hR]
  clear hR
  have HT : Hid (∀ k (_ : k < s.size), s.data.toList.take (k + 1) = s.data.toList.take k ++ [s[k]]) := fun k h => take_snoc s k h
  have HE : Hid (s.data.toList.take s.size = s.data.toList) := take_all s
  go_enter Tryz.func80, Tryz.ntmps80
  go_wp2_with fail
  go_loopw [3, 4] (fun d i wr => ∃ (k : Nat) (b : Bool), k ≤ s.size ∧ d = .bool b ∧ i = .int .i64 (k : Int) ∧ Hid (schP (s.data.toList.take k) = true) ∧ Hid (b = (s.data.toList.take k).contains 46) ∧ wr = w) (fun _ i _ => s.size - (intOf i).toNat)
  case atStart => exact ⟨0, false, Nat.zero_le _, rfl, rfl, rfl, rfl, rfl⟩
  case round =>
    obtain ⟨k, b, hk, rfl, rfl, HP, HB, rfl⟩ := hrel
    by_cases hlt : k < s.size
    · have hki : (k : Int) < (s.size : Int) := by omega
      have HB2 : Hid ((s.data.toList.take (k + 1)).contains 46 = (b || decide (s[k].toNat = 46))) := by
        show _ = _
        rw [HT.out k hlt, con_snoc, ← HB.out]
      have HYes : Hid ((Tm.btw 97 122 s[k] || (decide (k ≠ 0) && othB s[k])) = true → schP (s.data.toList.take (k + 1)) = true) := fun h => by
        rw [HT.out k hlt]
        by_cases h0 : k = 0
        · subst h0
          rw [decide_eq_false (by omega), Bool.false_and, Bool.or_false] at h
          rw [List.take_zero, List.nil_append, schP_snoc0]; exact h
        · rw [decide_eq_true h0, Bool.true_and, ← sch_oth] at h
          rw [schP_snoc (fun e => by have := congrArg List.length e; rw [List.length_take, len_list, List.length_nil] at this; omega), HP.out, h]; rfl
      have HNo : Hid ((Tm.btw 97 122 s[k] || (decide (k ≠ 0) && othB s[k])) = false → R = false) := fun h => by
        rw [HR.out]
        refine schP_short (k := k + 1) (by omega) (by rw [len_list]; omega) ?_
        rw [HT.out k hlt]
        by_cases h0 : k = 0
        · subst h0
          rw [decide_eq_false (by omega), Bool.false_and, Bool.or_false] at h
          rw [List.take_zero, List.nil_append, schP_snoc0]; exact h
        · rw [decide_eq_true h0, Bool.true_and, ← sch_oth] at h
          rw [schP_snoc (fun e => by have := congrArg List.length e; rw [List.length_take, len_list, List.length_nil] at this; omega), h, Bool.and_false]
      have hsm : Tm.btw 97 122 s[k] = decide (97 ≤ s[k].toNat ∧ s[k].toNat ≤ 122) := rfl
      rw [hsm, oth_nat] at HYes HNo
      clear hsm HP HB HR
      have hz : ((k : Int) == 0) = true ∧ k = 0 ∨ (((k : Int) == 0) = false ∧ ¬ (k : Int) = 0 ∧ k ≠ 0) := by
        by_cases h : k = 0
        · exact Or.inl ⟨beq_iff_eq.2 (by omega), h⟩
        · exact Or.inr ⟨beq_false_of_ne (by omega), by omega, h⟩
      have hc := s[k].toNat_lt
      rcases byte9 s[k] with ⟨c1, c2⟩ | ⟨c1, c2⟩ | c1 | c1 | c1 | ⟨c1, c2, c3, c4⟩ | ⟨c1, c2⟩ | c1
      · have f0 : (97 : Int) ≤ (s[k].toNat : Int) := by omega
        have f1 : (s[k].toNat : Int) ≤ 122 := by omega
        have f2 : (48 : Int) ≤ (s[k].toNat : Int) := by omega
        have f3 : ¬ (s[k].toNat : Int) ≤ 57 := by omega
        have g3 : decide ((s[k].toNat : Int) ≤ 57) = false := decide_eq_false f3
        have f4 : ¬ (s[k].toNat : Int) = 43 := by omega
        have g4 : ((s[k].toNat : Int) == 43) = false := beq_false_of_ne f4
        have f5 : ¬ (s[k].toNat : Int) = 45 := by omega
        have g5 : ((s[k].toNat : Int) == 45) = false := beq_false_of_ne f5
        have f6 : ¬ (s[k].toNat : Int) = 46 := by omega
        have g6 : ((s[k].toNat : Int) == 46) = false := beq_false_of_ne f6
        have HB3 : Hid ((b || false) = (s.data.toList.take (k + 1)).contains 46) := by show _ = _; rw [HB2.out, decide_eq_false (by omega)]
        rcases hz with ⟨z1, z2⟩ | ⟨z1, z2, z3⟩
        · have HP2 := hide (HYes.out (by rw [decide_eq_true (p := 97 ≤ s[k].toNat ∧ s[k].toNat ≤ 122) (by omega), decide_eq_false (p := k ≠ 0) (by omega), decide_eq_false (p := 48 ≤ s[k].toNat ∧ s[k].toNat ≤ 57 ∨ s[k].toNat = 43 ∨ s[k].toNat = 45 ∨ s[k].toNat = 46) (by omega)]; rfl))
          clear HYes HNo HB2 c1 c2 z2
          cases b
          all_goals
            go_wp2_with fail
            go_roundw
            case rel => exact ⟨k + 1, _, by omega, by rw [← HB3.out]; rfl, by go_num, HP2, rfl, by trivial⟩
            case measure => simp [intOf]; omega
        · have HP2 := hide (HYes.out (by rw [decide_eq_true (p := 97 ≤ s[k].toNat ∧ s[k].toNat ≤ 122) (by omega), decide_eq_true (p := k ≠ 0) z3, decide_eq_false (p := 48 ≤ s[k].toNat ∧ s[k].toNat ≤ 57 ∨ s[k].toNat = 43 ∨ s[k].toNat = 45 ∨ s[k].toNat = 46) (by omega)]; rfl))
          clear HYes HNo HB2 c1 c2 z3
          cases b
          all_goals
            go_wp2_with fail
            go_roundw
            case rel => exact ⟨k + 1, _, by omega, by rw [← HB3.out]; rfl, by go_num, HP2, rfl, by trivial⟩
            case measure => simp [intOf]; omega
      · have f0 : ¬ (97 : Int) ≤ (s[k].toNat : Int) := by omega
        have g0 : decide ((97 : Int) ≤ (s[k].toNat : Int)) = false := decide_eq_false f0
        have f1 : (48 : Int) ≤ (s[k].toNat : Int) := by omega
        have f2 : (s[k].toNat : Int) ≤ 57 := by omega
        have f3 : ¬ (s[k].toNat : Int) = 43 := by omega
        have g3 : ((s[k].toNat : Int) == 43) = false := beq_false_of_ne f3
        have f4 : ¬ (s[k].toNat : Int) = 45 := by omega
        have g4 : ((s[k].toNat : Int) == 45) = false := beq_false_of_ne f4
        have f5 : ¬ (s[k].toNat : Int) = 46 := by omega
        have g5 : ((s[k].toNat : Int) == 46) = false := beq_false_of_ne f5
        have HB3 : Hid ((b || false) = (s.data.toList.take (k + 1)).contains 46) := by show _ = _; rw [HB2.out, decide_eq_false (by omega)]
        rcases hz with ⟨z1, z2⟩ | ⟨z1, z2, z3⟩
        · have HF := hide (HNo.out (by rw [decide_eq_false (p := 97 ≤ s[k].toNat ∧ s[k].toNat ≤ 122) (by omega), decide_eq_false (p := k ≠ 0) (by omega), decide_eq_true (p := 48 ≤ s[k].toNat ∧ s[k].toNat ≤ 57 ∨ s[k].toNat = 43 ∨ s[k].toNat = 45 ∨ s[k].toNat = 46) (by omega)]; rfl))
          clear HYes HNo HB2 HB3 c1 c2 z2
          go_wp2_with fail
          go_ret
          exact ⟨by rw [HF.out]; rfl, rfl⟩
        · have HP2 := hide (HYes.out (by rw [decide_eq_false (p := 97 ≤ s[k].toNat ∧ s[k].toNat ≤ 122) (by omega), decide_eq_true (p := k ≠ 0) z3, decide_eq_true (p := 48 ≤ s[k].toNat ∧ s[k].toNat ≤ 57 ∨ s[k].toNat = 43 ∨ s[k].toNat = 45 ∨ s[k].toNat = 46) (by omega)]; rfl))
          clear HYes HNo HB2 c1 c2 z3
          cases b
          all_goals
            go_wp2_with fail
            go_roundw
            case rel => exact ⟨k + 1, _, by omega, by rw [← HB3.out]; rfl, by go_num, HP2, rfl, by trivial⟩
            case measure => simp [intOf]; omega
      · have f0 : (s[k].toNat : Int) = 43 := by omega
        have HB3 : Hid ((b || false) = (s.data.toList.take (k + 1)).contains 46) := by show _ = _; rw [HB2.out, decide_eq_false (by omega)]
        rcases hz with ⟨z1, z2⟩ | ⟨z1, z2, z3⟩
        · have HF := hide (HNo.out (by rw [decide_eq_false (p := 97 ≤ s[k].toNat ∧ s[k].toNat ≤ 122) (by omega), decide_eq_false (p := k ≠ 0) (by omega), decide_eq_true (p := 48 ≤ s[k].toNat ∧ s[k].toNat ≤ 57 ∨ s[k].toNat = 43 ∨ s[k].toNat = 45 ∨ s[k].toNat = 46) (by omega)]; rfl))
          clear HYes HNo HB2 HB3 c1 z2
          go_wp2_with fail
          go_ret
          exact ⟨by rw [HF.out]; rfl, rfl⟩
        · have HP2 := hide (HYes.out (by rw [decide_eq_false (p := 97 ≤ s[k].toNat ∧ s[k].toNat ≤ 122) (by omega), decide_eq_true (p := k ≠ 0) z3, decide_eq_true (p := 48 ≤ s[k].toNat ∧ s[k].toNat ≤ 57 ∨ s[k].toNat = 43 ∨ s[k].toNat = 45 ∨ s[k].toNat = 46) (by omega)]; rfl))
          clear HYes HNo HB2 c1 z3
          cases b
          all_goals
            go_wp2_with fail
            go_roundw
            case rel => exact ⟨k + 1, _, by omega, by rw [← HB3.out]; rfl, by go_num, HP2, rfl, by trivial⟩
            case measure => simp [intOf]; omega
      · have f0 : (s[k].toNat : Int) = 45 := by omega
        have HB3 : Hid ((b || false) = (s.data.toList.take (k + 1)).contains 46) := by show _ = _; rw [HB2.out, decide_eq_false (by omega)]
        rcases hz with ⟨z1, z2⟩ | ⟨z1, z2, z3⟩
        · have HF := hide (HNo.out (by rw [decide_eq_false (p := 97 ≤ s[k].toNat ∧ s[k].toNat ≤ 122) (by omega), decide_eq_false (p := k ≠ 0) (by omega), decide_eq_true (p := 48 ≤ s[k].toNat ∧ s[k].toNat ≤ 57 ∨ s[k].toNat = 43 ∨ s[k].toNat = 45 ∨ s[k].toNat = 46) (by omega)]; rfl))
          clear HYes HNo HB2 HB3 c1 z2
          go_wp2_with fail
          go_ret
          exact ⟨by rw [HF.out]; rfl, rfl⟩
        · have HP2 := hide (HYes.out (by rw [decide_eq_false (p := 97 ≤ s[k].toNat ∧ s[k].toNat ≤ 122) (by omega), decide_eq_true (p := k ≠ 0) z3, decide_eq_true (p := 48 ≤ s[k].toNat ∧ s[k].toNat ≤ 57 ∨ s[k].toNat = 43 ∨ s[k].toNat = 45 ∨ s[k].toNat = 46) (by omega)]; rfl))
          clear HYes HNo HB2 c1 z3
          cases b
          all_goals
            go_wp2_with fail
            go_roundw
            case rel => exact ⟨k + 1, _, by omega, by rw [← HB3.out]; rfl, by go_num, HP2, rfl, by trivial⟩
            case measure => simp [intOf]; omega
      · have f0 : (s[k].toNat : Int) = 46 := by omega
        have HB3 : Hid ((b || true) = (s.data.toList.take (k + 1)).contains 46) := by show _ = _; rw [HB2.out, decide_eq_true (by omega)]
        rcases hz with ⟨z1, z2⟩ | ⟨z1, z2, z3⟩
        · have HF := hide (HNo.out (by rw [decide_eq_false (p := 97 ≤ s[k].toNat ∧ s[k].toNat ≤ 122) (by omega), decide_eq_false (p := k ≠ 0) (by omega), decide_eq_true (p := 48 ≤ s[k].toNat ∧ s[k].toNat ≤ 57 ∨ s[k].toNat = 43 ∨ s[k].toNat = 45 ∨ s[k].toNat = 46) (by omega)]; rfl))
          clear HYes HNo HB2 HB3 c1 z2
          go_wp2_with fail
          go_ret
          exact ⟨by rw [HF.out]; rfl, rfl⟩
        · have HP2 := hide (HYes.out (by rw [decide_eq_false (p := 97 ≤ s[k].toNat ∧ s[k].toNat ≤ 122) (by omega), decide_eq_true (p := k ≠ 0) z3, decide_eq_true (p := 48 ≤ s[k].toNat ∧ s[k].toNat ≤ 57 ∨ s[k].toNat = 43 ∨ s[k].toNat = 45 ∨ s[k].toNat = 46) (by omega)]; rfl))
          clear HYes HNo HB2 c1 z3
          cases b
          all_goals
            go_wp2_with fail
            go_roundw
            case rel => exact ⟨k + 1, _, by omega, by rw [← HB3.out]; rfl, by go_num, HP2, rfl, by trivial⟩
            case measure => simp [intOf]; omega
      · have f0 : ¬ (97 : Int) ≤ (s[k].toNat : Int) := by omega
        have g0 : decide ((97 : Int) ≤ (s[k].toNat : Int)) = false := decide_eq_false f0
        have f1 : ¬ (48 : Int) ≤ (s[k].toNat : Int) := by omega
        have g1 : decide ((48 : Int) ≤ (s[k].toNat : Int)) = false := decide_eq_false f1
        have f2 : ¬ (s[k].toNat : Int) = 43 := by omega
        have g2 : ((s[k].toNat : Int) == 43) = false := beq_false_of_ne f2
        have f3 : ¬ (s[k].toNat : Int) = 45 := by omega
        have g3 : ((s[k].toNat : Int) == 45) = false := beq_false_of_ne f3
        have f4 : ¬ (s[k].toNat : Int) = 46 := by omega
        have g4 : ((s[k].toNat : Int) == 46) = false := beq_false_of_ne f4
        have HB3 : Hid ((b || false) = (s.data.toList.take (k + 1)).contains 46) := by show _ = _; rw [HB2.out, decide_eq_false (by omega)]
        rcases hz with ⟨z1, z2⟩ | ⟨z1, z2, z3⟩
        · have HF := hide (HNo.out (by rw [decide_eq_false (p := 97 ≤ s[k].toNat ∧ s[k].toNat ≤ 122) (by omega), decide_eq_false (p := k ≠ 0) (by omega), decide_eq_false (p := 48 ≤ s[k].toNat ∧ s[k].toNat ≤ 57 ∨ s[k].toNat = 43 ∨ s[k].toNat = 45 ∨ s[k].toNat = 46) (by omega)]; rfl))
          clear HYes HNo HB2 HB3 c1 c2 c3 c4 z2
          go_wp2_with fail
          go_ret
          exact ⟨by rw [HF.out]; rfl, rfl⟩
        · have HF := hide (HNo.out (by rw [decide_eq_false (p := 97 ≤ s[k].toNat ∧ s[k].toNat ≤ 122) (by omega), decide_eq_true (p := k ≠ 0) z3, decide_eq_false (p := 48 ≤ s[k].toNat ∧ s[k].toNat ≤ 57 ∨ s[k].toNat = 43 ∨ s[k].toNat = 45 ∨ s[k].toNat = 46) (by omega)]; rfl))
          clear HYes HNo HB2 HB3 c1 c2 c3 c4 z3
          go_wp2_with fail
          go_ret
          exact ⟨by rw [HF.out]; rfl, rfl⟩
      · have f0 : ¬ (97 : Int) ≤ (s[k].toNat : Int) := by omega
        have g0 : decide ((97 : Int) ≤ (s[k].toNat : Int)) = false := decide_eq_false f0
        have f1 : (48 : Int) ≤ (s[k].toNat : Int) := by omega
        have f2 : ¬ (s[k].toNat : Int) ≤ 57 := by omega
        have g2 : decide ((s[k].toNat : Int) ≤ 57) = false := decide_eq_false f2
        have f3 : ¬ (s[k].toNat : Int) = 43 := by omega
        have g3 : ((s[k].toNat : Int) == 43) = false := beq_false_of_ne f3
        have f4 : ¬ (s[k].toNat : Int) = 45 := by omega
        have g4 : ((s[k].toNat : Int) == 45) = false := beq_false_of_ne f4
        have f5 : ¬ (s[k].toNat : Int) = 46 := by omega
        have g5 : ((s[k].toNat : Int) == 46) = false := beq_false_of_ne f5
        have HB3 : Hid ((b || false) = (s.data.toList.take (k + 1)).contains 46) := by show _ = _; rw [HB2.out, decide_eq_false (by omega)]
        rcases hz with ⟨z1, z2⟩ | ⟨z1, z2, z3⟩
        · have HF := hide (HNo.out (by rw [decide_eq_false (p := 97 ≤ s[k].toNat ∧ s[k].toNat ≤ 122) (by omega), decide_eq_false (p := k ≠ 0) (by omega), decide_eq_false (p := 48 ≤ s[k].toNat ∧ s[k].toNat ≤ 57 ∨ s[k].toNat = 43 ∨ s[k].toNat = 45 ∨ s[k].toNat = 46) (by omega)]; rfl))
          clear HYes HNo HB2 HB3 c1 c2 z2
          go_wp2_with fail
          go_ret
          exact ⟨by rw [HF.out]; rfl, rfl⟩
        · have HF := hide (HNo.out (by rw [decide_eq_false (p := 97 ≤ s[k].toNat ∧ s[k].toNat ≤ 122) (by omega), decide_eq_true (p := k ≠ 0) z3, decide_eq_false (p := 48 ≤ s[k].toNat ∧ s[k].toNat ≤ 57 ∨ s[k].toNat = 43 ∨ s[k].toNat = 45 ∨ s[k].toNat = 46) (by omega)]; rfl))
          clear HYes HNo HB2 HB3 c1 c2 z3
          go_wp2_with fail
          go_ret
          exact ⟨by rw [HF.out]; rfl, rfl⟩
      · have f0 : (97 : Int) ≤ (s[k].toNat : Int) := by omega
        have f1 : ¬ (s[k].toNat : Int) ≤ 122 := by omega
        have g1 : decide ((s[k].toNat : Int) ≤ 122) = false := decide_eq_false f1
        have f2 : (48 : Int) ≤ (s[k].toNat : Int) := by omega
        have f3 : ¬ (s[k].toNat : Int) ≤ 57 := by omega
        have g3 : decide ((s[k].toNat : Int) ≤ 57) = false := decide_eq_false f3
        have f4 : ¬ (s[k].toNat : Int) = 43 := by omega
        have g4 : ((s[k].toNat : Int) == 43) = false := beq_false_of_ne f4
        have f5 : ¬ (s[k].toNat : Int) = 45 := by omega
        have g5 : ((s[k].toNat : Int) == 45) = false := beq_false_of_ne f5
        have f6 : ¬ (s[k].toNat : Int) = 46 := by omega
        have g6 : ((s[k].toNat : Int) == 46) = false := beq_false_of_ne f6
        have HB3 : Hid ((b || false) = (s.data.toList.take (k + 1)).contains 46) := by show _ = _; rw [HB2.out, decide_eq_false (by omega)]
        rcases hz with ⟨z1, z2⟩ | ⟨z1, z2, z3⟩
        · have HF := hide (HNo.out (by rw [decide_eq_false (p := 97 ≤ s[k].toNat ∧ s[k].toNat ≤ 122) (by omega), decide_eq_false (p := k ≠ 0) (by omega), decide_eq_false (p := 48 ≤ s[k].toNat ∧ s[k].toNat ≤ 57 ∨ s[k].toNat = 43 ∨ s[k].toNat = 45 ∨ s[k].toNat = 46) (by omega)]; rfl))
          clear HYes HNo HB2 HB3 c1 z2
          go_wp2_with fail
          go_ret
          exact ⟨by rw [HF.out]; rfl, rfl⟩
        · have HF := hide (HNo.out (by rw [decide_eq_false (p := 97 ≤ s[k].toNat ∧ s[k].toNat ≤ 122) (by omega), decide_eq_true (p := k ≠ 0) z3, decide_eq_false (p := 48 ≤ s[k].toNat ∧ s[k].toNat ≤ 57 ∨ s[k].toNat = 43 ∨ s[k].toNat = 45 ∨ s[k].toNat = 46) (by omega)]; rfl))
          clear HYes HNo HB2 HB3 c1 z3
          go_wp2_with fail
          go_ret
          exact ⟨by rw [HF.out]; rfl, rfl⟩
    · obtain rfl : k = s.size := by omega
      rw [HE.out] at HP HB
      have HF : Hid (R = b) := by show _ = _; rw [HR.out, priv_end HP.out, ← HB.out]
      have hxx : ¬ (s.size : Int) < (s.size : Int) := by omega
      go_wp2_with fail
      go_ret
      exact ⟨by rw [HF.out]; rfl, rfl⟩
end Go.Proofs.YtilhfmhjgfmejaaGreatDoor.tm
