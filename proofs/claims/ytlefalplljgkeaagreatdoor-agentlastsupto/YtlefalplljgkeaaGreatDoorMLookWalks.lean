import Derived.WalkKit
import Derived.Lib.SlTrimSet
import Derived.Test.YtlefalplljgkeaaGreatDoorMListKit
namespace Go.Proofs.YtlefalplljgkeaaGreatDoor.Fd

/-- a letter's small form -/
def low (b : UInt8) : UInt8 := if 65 ≤ b.toNat ∧ b.toNat ≤ 90 then b + 32 else b
def lows (l : List UInt8) : List UInt8 := l.map low

def marks : List UInt8 := [33, 35, 36, 37, 38, 39, 42, 43, 45, 46, 94, 95, 124, 126, 96]
def tokB (n : Nat) : Bool := decide (65 ≤ n ∧ n ≤ 90 ∨ 97 ≤ n ∧ n ≤ 122 ∨ 48 ≤ n ∧ n ≤ 57 ∨ n = 33 ∨ 35 ≤ n ∧ n ≤ 39 ∨ n = 42 ∨ n = 43 ∨ n = 45 ∨ n = 46 ∨ 94 ≤ n ∧ n ≤ 96 ∨ n = 124 ∨ n = 126)
def ckB (n : Nat) : Bool := decide (33 ≤ n ∧ n ≤ 126 ∧ n ≠ 34 ∧ n ≠ 44 ∧ n ≠ 59 ∧ n ≠ 92)
def valB (n : Nat) : Bool := decide (n = 9 ∨ 32 ≤ n ∧ n ≠ 127)
/-- a token byte, a cookie byte, a value byte -/
def tok (b : UInt8) : Bool := tokB b.toNat
def ck (b : UInt8) : Bool := ckB b.toNat
def val (b : UInt8) : Bool := valB b.toNat
/-- the number in the table -/
def flagN (n : Nat) : Nat := (if tokB n then 1 else 0) + (if ckB n then 2 else 0)
def white (b : UInt8) : Bool := [32, 9].contains b
theorem white_iff (b : UInt8) : white b = true ↔ b.toNat = 32 ∨ b.toNat = 9 := by
  unfold white
  simp only [List.contains_cons, List.contains_nil, Bool.or_false, Bool.or_eq_true, beq_iff_eq]
  rw [← UInt8.toNat_inj, ← UInt8.toNat_inj]
  exact Iff.rfl

def token (l : List UInt8) : Bool := !l.isEmpty && l.all tok
def trim (l : List UInt8) : List UInt8 := Lib.trimS l [32, 9]

/-- the first from the left that is not white -/
def lead (l : List UInt8) : Nat := (l.takeWhile white).length
theorem lead_le (l : List UInt8) : lead l ≤ l.length := (List.takeWhile_prefix _).length_le
theorem lead_eq {l : List UInt8} {k : Nat} (hk : k ≤ l.length) (h1 : ∀ j (h : j < l.length), j < k → white l[j] = true) (h2 : ∀ (h : k < l.length), white l[k] = false) : lead l = k := by
  unfold lead
  induction l generalizing k with
  | nil => simp at hk; simp [hk]
  | cons a r ih =>
    cases k with
    | zero =>
      have := h2 (by simp)
      simp only [List.getElem_cons_zero] at this
      simp [this]
    | succ k =>
      have ha := h1 0 (by simp) (by omega)
      simp only [List.getElem_cons_zero] at ha
      rw [List.takeWhile_cons, if_pos ha, List.length_cons, ih (k := k) (by simpa using hk)]
      · intro j h hj
        have := h1 (j + 1) (by simpa using h) (by omega)
        simpa using this
      · intro h
        have := h2 (by simpa using h)
        simpa using this

/-- what is left between two places is what is trimmed -/
theorem trim_eq (l : List UInt8) (lo hi : Nat) (hlh : lo ≤ hi) (hh : hi ≤ l.length) (h1 : ∀ j (h : j < l.length), j < lo → white l[j] = true) (h2 : ∀ (h : lo < l.length), lo < hi → white l[lo] = false)
    (h3 : ∀ j (h : j < l.length), hi ≤ j → white l[j] = true) (h4 : lo < hi → ∀ (h : hi - 1 < l.length), white l[hi - 1] = false) : trim l = (l.take hi).drop lo := by
  unfold trim Lib.trimS
  by_cases he : lo < hi
  · have e1 : Lib.trimRightS l [32, 9] = l.take hi := by
      refine Lib.trimRightS_take _ _ _ hh (fun j b hj hb => ?_) (fun b _ hb => ?_)
      · obtain ⟨hjl, rfl⟩ := List.getElem?_eq_some_iff.1 hb
        exact h3 j hjl hj
      · obtain ⟨hjl, rfl⟩ := List.getElem?_eq_some_iff.1 hb
        exact h4 he hjl
    rw [e1]
    refine Lib.trimLeftS_drop _ _ _ (by rw [List.length_take]; omega) (fun j b hj hb => ?_) (fun b hb => ?_)
    · rw [List.getElem?_take_of_lt (by omega)] at hb
      obtain ⟨hjl, rfl⟩ := List.getElem?_eq_some_iff.1 hb
      exact h1 j hjl hj
    · rw [List.getElem?_take_of_lt (by omega)] at hb
      obtain ⟨hjl, rfl⟩ := List.getElem?_eq_some_iff.1 hb
      exact h2 hjl he
  · obtain rfl : lo = hi := by omega
    have e1 : Lib.trimRightS l [32, 9] = l.take 0 := by
      refine Lib.trimRightS_take _ _ _ (Nat.zero_le _) (fun j b _ hb => ?_) (fun b h0 _ => absurd h0 (Nat.lt_irrefl _))
      obtain ⟨hjl, rfl⟩ := List.getElem?_eq_some_iff.1 hb
      by_cases hj : j < lo
      · exact h1 j hjl hj
      · exact h3 j hjl (by omega)
    rw [e1]
    have : (l.take lo).drop lo = [] := List.drop_eq_nil_of_le (by rw [List.length_take]; omega)
    rw [this]
    rfl

theorem drop_self {l : List UInt8} (h : l.dropWhile white = l) : ∀ a r, l = a :: r → white a = false := by
  rintro a r rfl
  rw [List.dropWhile_cons] at h
  cases hw : white a with
  | false => rfl
  | true =>
    rw [hw, if_pos rfl] at h
    have := (List.dropWhile_suffix (l := r) white).length_le
    rw [h, List.length_cons] at this
    omega
theorem dropWhile_id {l : List UInt8} (h : ∀ (h : 0 < l.length), white l[0] = false) : l.dropWhile white = l := by
  cases l with
  | nil => rfl
  | cons a r =>
    have := h (by simp)
    simp only [List.getElem_cons_zero] at this
    rw [List.dropWhile_cons, this]; rfl
/-- neither end is white -/
theorem trim_id (l : List UInt8) : trim l = l ↔ l = [] ∨ ∃ (h : 0 < l.length), white l[0] = false ∧ white (l[l.length - 1]'(by omega)) = false := by
  constructor
  · intro h
    by_cases he : l = []
    · exact Or.inl he
    · have hpos : 0 < l.length := List.length_pos_iff.2 he
      refine Or.inr ⟨hpos, ?_⟩
      unfold trim Lib.trimS Lib.trimLeftS at h
      change (Lib.trimRightS l [32, 9]).dropWhile white = l at h
      have hr : Lib.trimRightS l [32, 9] = l := by
        have h1 : (Lib.trimRightS l [32, 9]).length ≤ l.length := by
          unfold Lib.trimRightS
          rw [List.length_reverse]
          have := (List.dropWhile_suffix (l := l.reverse) (fun x => List.contains [32, 9] x)).length_le
          rwa [List.length_reverse] at this
        have h2 := (List.dropWhile_suffix (l := Lib.trimRightS l [32, 9]) white).length_le
        rw [h] at h2
        have hp : Lib.trimRightS l [32, 9] <+: l := by
          unfold Lib.trimRightS
          have := List.reverse_prefix.2 (List.dropWhile_suffix (l := l.reverse) (fun x => List.contains [32, 9] x))
          rwa [List.reverse_reverse] at this
        exact hp.eq_of_length (by omega)
      rw [hr] at h
      constructor
      · cases l with
        | nil => exact absurd rfl he
        | cons a r => exact drop_self h a r rfl
      · unfold Lib.trimRightS at hr
        change (l.reverse.dropWhile white).reverse = l at hr
        have hr' : l.reverse.dropWhile white = l.reverse := by rw [← List.reverse_reverse (l.reverse.dropWhile white), hr]
        have hrl : l.reverse = l[l.length - 1] :: l.reverse.tail := by
          cases hc : l.reverse with
          | nil => simp at hc; exact absurd hc he
          | cons a r =>
            have : l.reverse[0]? = some a := by rw [hc]; rfl
            rw [List.getElem?_reverse hpos, Nat.sub_zero] at this
            obtain ⟨_, e⟩ := List.getElem?_eq_some_iff.1 this
            rw [e]; rfl
        exact drop_self hr' _ _ hrl
  · rintro (rfl | ⟨hpos, h1, h2⟩)
    · rfl
    · have := trim_eq l 0 l.length (Nat.zero_le _) (Nat.le_refl _) (fun _ _ h => absurd h (Nat.not_lt_zero _)) (fun _ _ => h1) (fun j hj h => absurd hj (by omega)) (fun _ _ => h2)
      rw [this]; simp

def value (l : List UInt8) : Bool := l.all val && decide (trim l = l)

end Go.Proofs.YtlefalplljgkeaaGreatDoor.Fd

namespace Go.Proofs.YtlefalplljgkeaaGreatDoor.lst
open Go.ChangeShapes Go.WideShapes Go.ChangeAt Go.RowKit Go.Proofs.YtlefalplljgkeaaGreatDoor.common
attribute [local go_sem ↓] Go.wp_at_zero Go.wp_at_succ

abbrev emp : ByteArray := ⟨#[]⟩
abbrev B (c : UInt8) : Value := .int .u8 (c.toNat : Int)
def lowB (s : ByteArray) : List UInt8 := Fd.lows s.data.toList
/-- what a name's fields give, one field more -/
def step (n : List UInt8) (a : ByteArray × Nat) (p : PB) : ByteArray × Nat := if lowB p.1 = n then (if a.2 = 0 then p.2 else a.1, a.2 + 1) else a
def lookOf (l : List PB) (n : List UInt8) : ByteArray × Nat := l.foldl (step n) (emp, 0)
theorem lookOf_snoc (l : List PB) (n : List UInt8) (p : PB) : lookOf (l ++ [p]) n = step n (lookOf l n) p := by unfold lookOf; rw [List.foldl_append]; rfl
theorem lookOf_le (l : List PB) (n : List UInt8) : (lookOf l n).2 ≤ l.length := by
  unfold lookOf
  have : ∀ (l : List PB) (a : ByteArray × Nat), (l.foldl (step n) a).2 ≤ a.2 + l.length := by
    intro l
    induction l with
    | nil => intro a; exact Nat.le_refl _
    | cons p r ih =>
      intro a
      have h1 := ih (step n a p)
      have h2 : (step n a p).2 ≤ a.2 + 1 := by unfold step; split <;> simp
      rw [List.foldl_cons, List.length_cons]; omega
  have := this l (emp, 0)
  simpa using this

theorem ba_ext {a b : ByteArray} (h : a.data.toList = b.data.toList) : a = b := by
  apply ByteArray.ext; apply Array.toList_inj.1; exact h
theorem ne_list {a b : ByteArray} (h : a ≠ b) : (a.toList == b.toList) = false := by
  rw [ByteArray.toList_eq, ByteArray.toList_eq]
  exact beq_false_of_ne fun e => h (ba_ext e)

theorem low_big {c : UInt8} (h : 65 ≤ c.toNat ∧ c.toNat ≤ 90) : (Fd.low c).toNat = c.toNat + 32 := by
  have := c.toNat_lt
  unfold Fd.low; rw [if_pos h, UInt8.toNat_add]; show (c.toNat + 32) % 256 = _; omega
theorem low_not {c : UInt8} (h : ¬ (65 ≤ c.toNat ∧ c.toNat ≤ 90)) : Fd.low c = c := by unfold Fd.low; rw [if_neg h]
theorem low_cases (c : UInt8) : (65 ≤ c.toNat ∧ c.toNat ≤ 90 ∧ (Fd.low c).toNat = c.toNat + 32) ∨ (¬ (65 ≤ c.toNat ∧ c.toNat ≤ 90) ∧ (Fd.low c).toNat = c.toNat) := by
  by_cases h : 65 ≤ c.toNat ∧ c.toNat ≤ 90
  · exact Or.inl ⟨h.1, h.2, low_big h⟩
  · exact Or.inr ⟨h, by rw [low_not h]⟩

set_option maxHeartbeats 800000 in
theorem small_any (c : UInt8) (w : World) : Calls Tryz.prog 39 #[B c] w fun e w' => e = .returned (B (Fd.low c)) ∧ w' = w := by
  have HC := hide (low_cases c)
  have hc := c.toNat_lt
  show Calls _ _ _ _ fun e w' => e = .returned (.int .u8 ((Fd.low c).toNat : Int)) ∧ w' = w
  generalize (Fd.low c).toNat = v at *
  go_enter Tryz.func39, Tryz.ntmps39
  go_wp2
  all_goals (go_ret; refine ⟨?_, rfl⟩; have := HC.out)
  all_goals first
    | (exfalso; omega)
    | (simp; omega)

end Go.Proofs.YtlefalplljgkeaaGreatDoor.lst
