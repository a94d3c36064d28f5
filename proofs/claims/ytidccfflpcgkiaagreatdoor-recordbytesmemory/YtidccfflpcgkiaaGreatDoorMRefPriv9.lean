import Derived.Test.YtidccfflpcgkiaaGreatDoorMRefSite9
namespace Go.Proofs.YtidccfflpcgkiaaGreatDoor.tm
open Go.ChangeShapes Go.WideShapes Go.ChangeAt Go.RowKit Go.Proofs.YtidccfflpcgkiaaGreatDoor.common Go.Proofs.YtidccfflpcgkiaaGreatDoor.bk
attribute [local go_sem ↓] Go.wp_at_zero Go.wp_at_succ

theorem numOf_snoc (c : UInt8) : ∀ (l : List UInt8) (n : Nat), numOf n (l ++ [c]) = 10 * numOf n l + (c.toNat - 48)
  | [], _ => rfl
  | _ :: r, _ => numOf_snoc c r _
theorem numOf_le : ∀ (l : List UInt8) (n : Nat), l.all (Tm.btw 48 57) = true → numOf n l < (n + 1) * 10 ^ l.length
  | [], n, _ => by
    show n < (n + 1) * 1
    omega
  | c :: r, n, h => by
    rw [List.all_cons, Bool.and_eq_true] at h
    have hc := of_decide_eq_true h.1
    have := numOf_le r (10 * n + (c.toNat - 48)) h.2
    show numOf (10 * n + (c.toNat - 48)) r < (n + 1) * 10 ^ (r.length + 1)
    refine Nat.lt_of_lt_of_le this ?_
    rw [Nat.pow_succ, Nat.mul_comm (10 ^ r.length) 10, ← Nat.mul_assoc]
    exact Nat.mul_le_mul_right _ (by omega)
theorem numOf_few (l : List UInt8) (h : l.all (Tm.btw 48 57) = true) (hl : l.length ≤ 5) : numOf 0 l < 100000 := by
  have h1 := numOf_le l 0 h
  have h2 : 10 ^ l.length ≤ 10 ^ 5 := Nat.pow_le_pow_right (by decide) hl
  omega

end Go.Proofs.YtidccfflpcgkiaaGreatDoor.tm

namespace Go.Proofs.YtidccfflpcgkiaaGreatDoor.tm
open Go.ChangeShapes Go.WideShapes Go.ChangeAt Go.RowKit Go.Proofs.YtidccfflpcgkiaaGreatDoor.common Go.Proofs.YtidccfflpcgkiaaGreatDoor.bk
attribute [local go_sem ↓] Go.wp_at_zero Go.wp_at_succ

end Go.Proofs.YtidccfflpcgkiaaGreatDoor.tm

namespace Go.Proofs.YtidccfflpcgkiaaGreatDoor.tm
open Go.ChangeShapes Go.WideShapes Go.ChangeAt Go.RowKit Go.Proofs.YtidccfflpcgkiaaGreatDoor.common Go.Proofs.YtidccfflpcgkiaaGreatDoor.bk
open Go.Proofs.YtidccfflpcgkiaaGreatDoor.fd (before behind cut_no cut_at)
attribute [local go_sem ↓] Go.wp_at_zero Go.wp_at_succ

/-- the last place of a byte, or less than none -/
def Last (c : UInt8) (l : List UInt8) (C : Int) : Prop := (C = -1 ∧ ∀ x ∈ l, x ≠ c) ∨ ∃ n : Nat, C = n ∧ n < l.length ∧ l = l.take n ++ c :: l.drop (n + 1) ∧ ∀ x ∈ l.drop (n + 1), x ≠ c
theorem last_nil (c : UInt8) : Last c [] (-1) := Or.inl ⟨rfl, fun x h => by cases h⟩
theorem last_hit (c : UInt8) (l : List UInt8) : Last c (l ++ [c]) (l.length : Int) := by
  refine Or.inr ⟨l.length, rfl, by simp, ?_, ?_⟩
  · rw [List.take_left, List.drop_of_length_le (by simp)]
  · rw [List.drop_of_length_le (by simp)]
    intro x h; cases h
theorem last_miss {c x : UInt8} {l : List UInt8} {C : Int} (hx : x ≠ c) (h : Last c l C) : Last c (l ++ [x]) C := by
  rcases h with ⟨rfl, h⟩ | ⟨n, rfl, hn, e, h⟩
  · refine Or.inl ⟨rfl, fun y hy => ?_⟩
    rcases List.mem_append.1 hy with hy | hy
    · exact h y hy
    · rw [List.mem_singleton.1 hy]; exact hx
  · refine Or.inr ⟨n, rfl, by rw [List.length_append]; omega, ?_, ?_⟩
    · rw [List.take_append_of_le_length (by omega), List.drop_append_of_le_length (by omega)]
      conv => lhs; rw [e]
      rw [List.append_assoc]; rfl
    · rw [List.drop_append_of_le_length (by omega)]
      intro y hy
      rcases List.mem_append.1 hy with hy | hy
      · exact h y hy
      · rw [List.mem_singleton.1 hy]; exact hx
theorem last_ge {c : UInt8} {l : List UInt8} {C : Int} (h : Last c l C) : -1 ≤ C ∧ C < (l.length : Int) := by
  rcases h with ⟨rfl, _⟩ | ⟨n, rfl, hn, _⟩
  · omega
  · omega
theorem last_cut {u : List UInt8} {C D : Int} (hC : Last 58 u C) (hD : Last 93 u D) (h : D < C) : ∃ n : Nat, C = n ∧ n < u.length ∧ cutLast u = some (u.take n, u.drop (n + 1)) := by
  have hd := last_ge hD
  rcases hC with ⟨rfl, _⟩ | ⟨n, rfl, hn, e, h1⟩
  · omega
  · refine ⟨n, rfl, hn, ?_⟩
    have h2 : ∀ x ∈ u.drop (n + 1), x ≠ 93 := by
      rcases hD with ⟨_, h2⟩ | ⟨m, rfl, _, _, h2⟩
      · exact fun x hx => h2 x (List.mem_of_mem_drop hx)
      · intro x hx
        refine h2 x ?_
        have : u.drop (n + 1) = (u.drop (m + 1)).drop (n - m) := by rw [List.drop_drop]; congr 1; omega
        rw [this] at hx
        exact List.mem_of_mem_drop hx
    have := cutLast_some (u.take n) (u.drop (n + 1)) h1 h2
    rw [← e] at this
    exact this
theorem last_no {u : List UInt8} {C D : Int} (hC : Last 58 u C) (hD : Last 93 u D) (h : ¬ D < C) : cutLast u = none := by
  rcases hC with ⟨rfl, h1⟩ | ⟨n, rfl, hn, e, h1⟩
  · exact cutLast_no u h1
  · rcases hD with ⟨rfl, _⟩ | ⟨m, rfl, hm, e2, _⟩
    · omega
    · refine cutLast_none u fun a b eab => ?_
      have c1 : u[n]? = some 58 := by
        rw [e, List.getElem?_append_right (by rw [List.length_take]; omega), List.length_take, Nat.min_eq_left (by omega), Nat.sub_self]; rfl
      have c2 : u[m]? = some 93 := by
        rw [e2, List.getElem?_append_right (by rw [List.length_take]; omega), List.length_take, Nat.min_eq_left (by omega), Nat.sub_self]; rfl
      have hnm : n ≠ m := fun he => by rw [he, c2] at c1; exact absurd (Option.some.inj c1) (by decide)
      have ha : a.length ≤ n := by
        apply Nat.le_of_not_lt
        intro hlt
        have h3 : u[a.length]? = some 58 := by rw [eab, List.getElem?_append_right (Nat.le_refl _), Nat.sub_self]; rfl
        have h4 : (58 : UInt8) ∈ u.drop (n + 1) := by
          have : (u.drop (n + 1))[a.length - (n + 1)]? = some 58 := by rw [List.getElem?_drop, show n + 1 + (a.length - (n + 1)) = a.length by omega]; exact h3
          exact List.mem_of_getElem? this
        exact h1 _ h4 rfl
      have : b[m - (a.length + 1)]? = some 93 := by
        have h5 := c2
        rw [eab, List.getElem?_append_right (by omega), show m - a.length = (m - (a.length + 1)) + 1 by omega, List.getElem?_cons_succ] at h5
        exact h5
      exact List.mem_of_getElem? this
def nmB (loc : Bool) : List UInt8 → Bool := if loc then isLoc else hostR

theorem list_eq (s : ByteArray) (l : List UInt8) : (s.toList == l) = decide (s.data.toList = l) := by
  rw [ByteArray.toList_eq]
  by_cases h : s.data.toList = l
  · rw [decide_eq_true h, h]; simp
  · rw [decide_eq_false h]; exact beq_false_of_ne h

end Go.Proofs.YtidccfflpcgkiaaGreatDoor.tm

namespace Go.Proofs.YtidccfflpcgkiaaGreatDoor.tm
open Go.ChangeShapes Go.WideShapes Go.ChangeAt Go.RowKit Go.Proofs.YtidccfflpcgkiaaGreatDoor.common Go.Proofs.YtidccfflpcgkiaaGreatDoor.bk
open Go.Proofs.YtidccfflpcgkiaaGreatDoor.fd (before behind cut_no cut_at)
attribute [local go_sem ↓] Go.wp_at_zero Go.wp_at_succ

/-- the other bytes of a scheme -/
def othB (b : UInt8) : Bool := Tm.btw 48 57 b || [43, 45, 46].contains b
theorem sch_oth (b : UInt8) : schB b = (Tm.btw 97 122 b || othB b) := by unfold schB othB; rw [Bool.or_assoc]
/-- what has been read of a scheme -/
def schP (l : List UInt8) : Bool := l.isEmpty || (Tm.btw 97 122 (l.headD 0) && l.all schB)
theorem schP_snoc0 (c : UInt8) : schP [c] = Tm.btw 97 122 c := by
  unfold schP
  show (false || (Tm.btw 97 122 c && (schB c && true))) = _
  rw [sch_oth]
  cases Tm.btw 97 122 c <;> rfl
theorem schP_snoc {l : List UInt8} (h : l ≠ []) (c : UInt8) : schP (l ++ [c]) = (schP l && schB c) := by
  unfold schP
  cases l with
  | nil => exact absurd rfl h
  | cons b r =>
    show (false || (Tm.btw 97 122 b && ((b :: r) ++ [c]).all schB)) = ((false || (Tm.btw 97 122 b && (b :: r).all schB)) && schB c)
    rw [List.all_append, Bool.false_or, Bool.false_or, Bool.and_assoc]
    congr 2
    show (schB c && true) = schB c
    rw [Bool.and_true]
theorem schP_short {l : List UInt8} {k : Nat} (hk : k ≠ 0) (hl : k ≤ l.length) (h : schP (l.take k) = false) : privS l = false := by
  unfold schP at h
  unfold privS
  cases l with
  | nil => rfl
  | cons b r =>
    cases k with
    | zero => exact absurd rfl hk
    | succ k =>
      rw [List.take_succ_cons] at h
      have h2 : (Tm.btw 97 122 b && (b :: r.take k).all schB) = false := h
      show (true && Tm.btw 97 122 b && (b :: r).all schB && (b :: r).contains 46) = false
      cases hb : Tm.btw 97 122 b with
      | false => rfl
      | true =>
        rw [hb, Bool.true_and] at h2
        have h3 : (b :: r).all schB = false := Tm.all_short (b :: r) schB (k + 1) (by rw [List.take_succ_cons]; exact h2)
        rw [h3]; rfl
theorem priv_end {l : List UInt8} (h : schP l = true) : privS l = l.contains 46 := by
  unfold schP at h
  unfold privS
  cases l with
  | nil => rfl
  | cons b r =>
    have h2 : (Tm.btw 97 122 b && (b :: r).all schB) = true := h
    rw [Bool.and_eq_true] at h2
    show (true && Tm.btw 97 122 b && (b :: r).all schB && (b :: r).contains 46) = _
    rw [h2.1, h2.2]; rfl
theorem con_snoc (l : List UInt8) (c : UInt8) : (l ++ [c]).contains 46 = (l.contains 46 || decide (c.toNat = 46)) := by
  rw [List.contains_append]
  congr 1
  rw [Bool.eq_iff_iff, decide_eq_true_iff]
  constructor
  · intro h
    have : 46 = c := by simpa using h
    rw [← this]; rfl
  · intro h
    have : c = 46 := UInt8.toNat_inj.1 h
    rw [this]; rfl
theorem oth_nat (c : UInt8) : othB c = decide (48 ≤ c.toNat ∧ c.toNat ≤ 57 ∨ c.toNat = 43 ∨ c.toNat = 45 ∨ c.toNat = 46) := byte_eq othB (fun c => decide (48 ≤ c.toNat ∧ c.toNat ≤ 57 ∨ c.toNat = 43 ∨ c.toNat = 45 ∨ c.toNat = 46)) (by decide +kernel) c
/-- which of the scheme's bytes it is -/
theorem byte9 (c : UInt8) : (97 ≤ c.toNat ∧ c.toNat ≤ 122) ∨ (48 ≤ c.toNat ∧ c.toNat ≤ 57) ∨ c.toNat = 43 ∨ c.toNat = 45 ∨ c.toNat = 46 ∨ (c.toNat < 48 ∧ c.toNat ≠ 43 ∧ c.toNat ≠ 45 ∧ c.toNat ≠ 46) ∨ (57 < c.toNat ∧ c.toNat < 97) ∨ 122 < c.toNat := by omega

end Go.Proofs.YtidccfflpcgkiaaGreatDoor.tm
