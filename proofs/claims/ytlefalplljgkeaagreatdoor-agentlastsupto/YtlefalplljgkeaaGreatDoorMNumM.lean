import Derived.WalkKit
import Derived.Lib.AtoiAllCases
import Derived.Lib.ItoaLen
namespace Go.Proofs.YtlefalplljgkeaaGreatDoor.Num
open Go.Lib

def isDig (c : UInt8) : Bool := 48 ≤ c.toNat && c.toNat ≤ 57
theorem parse_append : ∀ (l m : List UInt8) (acc a : Nat), parseUint10 acc l = .ok a → parseUint10 acc (l ++ m) = parseUint10 a m
  | [], m, acc, a, h => by
    simp only [parseUint10] at h
    injection h with h; subst h; rfl
  | c :: r, m, acc, a, h => by
    simp only [List.cons_append, parseUint10] at h ⊢
    split at h
    · rename_i h1
      rw [if_pos h1]
      split at h
      · cases h
      · rename_i h2
        rw [if_neg h2]
        split at h
        · cases h
        · rename_i h3
          rw [if_neg h3]
          exact parse_append r m _ a h
    · cases h

theorem digit_nat (k : Nat) (h : k < 10) : (UInt8.ofNat (48 + k)).toNat = 48 + k := by simp; omega

theorem parse_digits : ∀ (n u : Nat), u ≤ n → u < 18446744073709551616 → parseUint10 0 (decDigits u) = .ok u
  | 0, u, h, _ => by
    have : u = 0 := by omega
    subst this
    rw [decDigits_one (by omega)]
    simp [parseUint10]
  | n + 1, u, h, hu => by
    by_cases h10 : u < 10
    · rw [decDigits_one h10]
      have hd := digit_nat u h10
      simp only [parseUint10, hd]
      rw [if_pos (by omega), if_neg (by omega), if_neg (by omega)]
      congr 1; omega
    · rw [decDigits, dif_neg h10, parse_append _ _ _ _ (parse_digits n (u / 10) (by omega) (by omega))]
      have hd := digit_nat (u % 10) (by omega)
      simp only [parseUint10, hd]
      rw [if_pos (by omega), if_neg (by omega), if_neg (by omega)]
      congr 1; omega

theorem digits_are : ∀ (n u : Nat), u ≤ n → ∀ c ∈ decDigits u, isDig c = true
  | 0, u, h => by
    have : u = 0 := by omega
    subst this
    rw [decDigits_one (by omega)]
    intro c hc; simp at hc; subst hc; decide
  | n + 1, u, h => by
    intro c hc
    by_cases h10 : u < 10
    · rw [decDigits_one h10] at hc
      simp only [List.mem_singleton] at hc
      subst hc
      simp only [isDig, digit_nat u h10, Bool.and_eq_true, decide_eq_true_eq]; omega
    · rw [decDigits, dif_neg h10, List.mem_append] at hc
      rcases hc with hc | hc
      · exact digits_are n (u / 10) (by omega) c hc
      · simp only [List.mem_singleton] at hc
        subst hc
        simp only [isDig, digit_nat (u % 10) (by omega), Bool.and_eq_true, decide_eq_true_eq]; omega

theorem digits_head : ∀ (n u : Nat), u ≤ n → 1 ≤ u → ∃ c r, decDigits u = c :: r ∧ c ≠ 48 ∧ isDig c = true
  | 0, u, h, h1 => by omega
  | n + 1, u, h, h1 => by
    by_cases h10 : u < 10
    · refine ⟨_, _, decDigits_one h10, ?_, ?_⟩
      · intro e; have := congrArg UInt8.toNat e; rw [digit_nat u h10] at this; simp at this; omega
      · simp only [isDig, digit_nat u h10, Bool.and_eq_true, decide_eq_true_eq]; omega
    · obtain ⟨c, r, e, hc, hd⟩ := digits_head n (u / 10) (by omega) (by omega)
      exact ⟨c, r ++ [UInt8.ofNat (48 + u % 10)], by rw [decDigits, dif_neg h10, e]; rfl, hc, hd⟩

def inRange (n : Int) : Prop := -9223372036854775808 ≤ n ∧ n ≤ 9223372036854775807

theorem atoi_itoa (n : Int) (hn : inRange n) : atoiAll (itoa n) = .ok n := by
  unfold inRange at hn
  unfold itoa
  split
  · rename_i h
    obtain ⟨u, rfl⟩ : ∃ u : Nat, n = -(u : Int) := ⟨n.natAbs, by omega⟩
    have e : (-(u : Int)).natAbs = u := by omega
    rw [e]
    have hne : decDigits u ≠ [] := by obtain ⟨c, r, h, _⟩ := digits_head u u (Nat.le_refl _) (by omega); rw [h]; simp
    unfold atoiAll
    simp only
    rw [if_pos (by decide), parseMag, if_neg hne, parse_digits u u (Nat.le_refl _) (by omega)]
    simp only
    rw [if_neg (by simp), if_neg (by simp; omega), if_pos (by decide)]
  · rename_i h
    obtain ⟨u, rfl⟩ : ∃ u : Nat, n = (u : Int) := ⟨n.toNat, by omega⟩
    simp only [Int.toNat_natCast]
    have hp := parse_digits u u (Nat.le_refl _) (by omega)
    have hall := digits_are u u (Nat.le_refl _)
    cases hd : decDigits u with
    | nil =>
      exfalso
      by_cases h0 : u = 0
      · subst h0; rw [decDigits_one (by omega)] at hd; cases hd
      · obtain ⟨c, r, h, _⟩ := digits_head u u (Nat.le_refl _) (by omega); rw [h] at hd; cases hd
    | cons c r =>
      rw [hd] at hp hall
      have hc := hall c (by simp)
      simp only [isDig, Bool.and_eq_true, decide_eq_true_eq] at hc
      unfold atoiAll
      simp only
      rw [if_neg (by omega), parseMag, if_neg (by simp), hp]
      simp only
      rw [if_neg (by omega), if_neg (by omega), if_neg (by omega)]


/-- the document's own number: none where it is no number of an int -/
def go (acc : Nat) : List UInt8 → Option Nat
  | [] => some acc
  | c :: r => if 48 ≤ c.toNat ∧ c.toNat ≤ 57 then (if (9223372036854775807 - (c.toNat - 48)) / 10 < acc then none else go (10 * acc + (c.toNat - 48)) r) else none
theorem go_append : ∀ (l m : List UInt8) (acc a : Nat), go acc l = some a → go acc (l ++ m) = go a m
  | [], m, acc, a, h => by
    simp only [go] at h
    injection h with h; subst h; rfl
  | c :: r, m, acc, a, h => by
    simp only [List.cons_append, go] at h ⊢
    split at h
    · rename_i h1
      rw [if_pos h1]
      split at h
      · cases h
      · rename_i h2
        rw [if_neg h2]
        exact go_append r m _ a h
    · cases h
theorem go_none : ∀ (l m : List UInt8) (acc : Nat), go acc l = none → go acc (l ++ m) = none
  | [], m, acc, h => by cases h
  | c :: r, m, acc, h => by
    simp only [List.cons_append, go] at h ⊢
    split at h
    · rename_i h1
      rw [if_pos h1]
      split at h
      · rename_i h2; rw [if_pos h2]
      · rename_i h2
        rw [if_neg h2]
        exact go_none r m _ h
    · rename_i h1; rw [if_neg h1]
theorem go_le : ∀ (l : List UInt8) (acc a : Nat), acc ≤ 9223372036854775807 → go acc l = some a → a ≤ 9223372036854775807
  | [], acc, a, h0, h => by
    simp only [go] at h
    injection h with h; omega
  | c :: r, acc, a, h0, h => by
    simp only [go] at h
    split at h
    · rename_i h1
      split at h
      · cases h
      · rename_i h2
        exact go_le r _ a (by omega) h
    · cases h
theorem go_dec : ∀ (n u : Nat), u ≤ n → u ≤ 9223372036854775807 → go 0 (decDigits u) = some u
  | 0, u, h, _ => by
    have : u = 0 := by omega
    subst this
    rw [decDigits_one (by omega)]
    simp [go]
  | n + 1, u, h, hu => by
    by_cases h10 : u < 10
    · rw [decDigits_one h10]
      have hd := digit_nat u h10
      simp only [go, hd]
      rw [if_pos (by omega), if_neg (by omega)]
      congr 1; omega
    · rw [decDigits, dif_neg h10, go_append _ _ _ _ (go_dec n (u / 10) (by omega) (by omega))]
      have hd := digit_nat (u % 10) (by omega)
      simp only [go, hd]
      rw [if_pos (by omega), if_neg (by omega)]
      congr 1; omega
def num (l : List UInt8) : Int := if l = [] then -1 else match go 0 l with | some n => (n : Int) | none => -1
theorem num_ge (l : List UInt8) : -1 ≤ num l ∧ num l ≤ 9223372036854775807 := by
  unfold num
  split
  · exact ⟨by decide, by decide⟩
  · cases h : go 0 l with
    | none => exact ⟨by decide, by decide⟩
    | some n => have := go_le l 0 n (by omega) h; simp only; omega
theorem dec_ne (u : Nat) : decDigits u ≠ [] := by
  by_cases h0 : u = 0
  · subst h0; rw [decDigits_one (by omega)]; simp
  · obtain ⟨c, r, h, _⟩ := digits_head u u (Nat.le_refl _) (by omega); rw [h]; simp
theorem num_dec (u : Nat) (h : u ≤ 9223372036854775807) : num (decDigits u) = u := by
  unfold num
  rw [if_neg (dec_ne u), go_dec u u (Nat.le_refl _) h]

end Go.Proofs.YtlefalplljgkeaaGreatDoor.Num
