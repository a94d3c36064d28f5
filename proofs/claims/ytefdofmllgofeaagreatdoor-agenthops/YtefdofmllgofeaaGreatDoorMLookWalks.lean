import Derived.Test.YtefdofmllgofeaaGreatDoorMListKit
import Derived.Test.YtefdofmllgofeaaGreatDoorMFieldMath
namespace Go.Proofs.YtefdofmllgofeaaGreatDoor.lst
open Go.ChangeShapes Go.WideShapes Go.ChangeAt Go.RowKit Go.Proofs.YtefdofmllgofeaaGreatDoor.common
attribute [local go_sem ↓] Go.wp_at_zero Go.wp_at_succ

abbrev emp : ByteArray := ⟨#[]⟩
abbrev B (c : UInt8) : Value := .int .u8 (c.toNat : Int)
def lowB (s : ByteArray) : List UInt8 := Fd.lows s.data.toList
/-- what a name's fields give, one field more -/
def step (n : List UInt8) (a : ByteArray × Nat) (p : PB) : ByteArray × Nat := if lowB p.1 = n then (if a.2 = 0 then p.2 else a.1, a.2 + 1) else a
def lookOf (l : List PB) (n : List UInt8) : ByteArray × Nat := l.foldl (step n) (emp, 0)
theorem lookOf_snoc (l : List PB) (n : List UInt8) (p : PB) : lookOf (l ++ [p]) n = step n (lookOf l n) p := by unfold lookOf; rw [List.foldl_append]; rfl
theorem lookOf_le (l : List PB) (n : List UInt8) : (lookOf l n).2 ≤ l.length := by
  unfold lookOf
  have : ∀ (l : List PB) (a : ByteArray × Nat), (l.foldl (step n) a).2 ≤ a.2 + l.length := by
    intro l
    induction l with
    | nil => intro a; exact Nat.le_refl _
    | cons p r ih =>
      intro a
      have h1 := ih (step n a p)
      have h2 : (step n a p).2 ≤ a.2 + 1 := by unfold step; split <;> simp
      rw [List.foldl_cons, List.length_cons]; omega
  have := this l (emp, 0)
  simpa using this

theorem ba_ext {a b : ByteArray} (h : a.data.toList = b.data.toList) : a = b := by
  apply ByteArray.ext; apply Array.toList_inj.1; exact h
theorem ne_list {a b : ByteArray} (h : a ≠ b) : (a.toList == b.toList) = false := by
  rw [ByteArray.toList_eq, ByteArray.toList_eq]
  exact beq_false_of_ne fun e => h (ba_ext e)

theorem low_big {c : UInt8} (h : 65 ≤ c.toNat ∧ c.toNat ≤ 90) : (Fd.low c).toNat = c.toNat + 32 := by
  have := c.toNat_lt
  unfold Fd.low; rw [if_pos h, UInt8.toNat_add]; show (c.toNat + 32) % 256 = _; omega
theorem low_not {c : UInt8} (h : ¬ (65 ≤ c.toNat ∧ c.toNat ≤ 90)) : Fd.low c = c := by unfold Fd.low; rw [if_neg h]
theorem low_cases (c : UInt8) : (65 ≤ c.toNat ∧ c.toNat ≤ 90 ∧ (Fd.low c).toNat = c.toNat + 32) ∨ (¬ (65 ≤ c.toNat ∧ c.toNat ≤ 90) ∧ (Fd.low c).toNat = c.toNat) := by
  by_cases h : 65 ≤ c.toNat ∧ c.toNat ≤ 90
  · exact Or.inl ⟨h.1, h.2, low_big h⟩
  · exact Or.inr ⟨h, by rw [low_not h]⟩

set_option maxHeartbeats 800000 in
theorem small_any (c : UInt8) (w : World) : Calls Tryz.prog 41 #[B c] w fun e w' => e = .returned (B (Fd.low c)) ∧ w' = w := by
  have HC := hide (low_cases c)
  have hc := c.toNat_lt
  show Calls _ _ _ _ fun e w' => e = .returned (.int .u8 ((Fd.low c).toNat : Int)) ∧ w' = w
  generalize (Fd.low c).toNat = v at *
  go_enter Tryz.func41, Tryz.ntmps41
  go_wp2
  all_goals (go_ret; refine ⟨?_, rfl⟩; have := HC.out)
  all_goals first
    | (exfalso; omega)
    | (simp; omega)

end Go.Proofs.YtefdofmllgofeaaGreatDoor.lst
