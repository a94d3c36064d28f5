import Derived.Test.YtdkbjefphihplabDoorFieldMath
import Derived.Lib.ItoaLen
import Derived.Lib.ItoaMem
namespace Go.Proofs.YtdkbjefphihplabDoor.Fd

/-- how many semicolons stand in a text -/
def semis (l : List UInt8) : Nat := l.countP fun c => decide (c = 59)
theorem semis_app (l m : List UInt8) : semis (l ++ m) = semis l + semis m := List.countP_append
theorem semis_none {l : List UInt8} (h : ∀ c ∈ l, c ≠ 59) : semis l = 0 := by
  unfold semis
  rw [List.countP_eq_zero]
  intro c hc
  simpa using h c hc
theorem all8 (P : UInt8 → Prop) [DecidablePred P] (h : ∀ n : Fin 256, P (UInt8.ofNat n.val)) (c : UInt8) : P c := by
  have := h ⟨c.toNat, c.toNat_lt⟩
  simpa using this
theorem tok_good : ∀ c : UInt8, tok c = true → val c = true ∧ c ≠ 59 ∧ white c = false := all8 _ (by decide +kernel)
theorem ck_good : ∀ c : UInt8, ck c = true → val c = true ∧ c ≠ 59 ∧ white c = false := all8 _ (by decide +kernel)
theorem digit_good (n : Nat) (h : n < 10) : val (UInt8.ofNat (48 + n)) = true ∧ UInt8.ofNat (48 + n) ≠ 59 := by
  have : ∀ k : Fin 10, val (UInt8.ofNat (48 + k.val)) = true ∧ UInt8.ofNat (48 + k.val) ≠ 59 := by decide +kernel
  exact this ⟨n, h⟩
theorem dec_good (n : Nat) : ∀ c ∈ Lib.decDigits n, val c = true ∧ c ≠ 59 := by
  have h : ∀ k n : Nat, n ≤ k → ∀ c ∈ Lib.decDigits n, val c = true ∧ c ≠ 59 := by
    intro k
    induction k with
    | zero =>
      intro n hn c hc
      rw [Lib.decDigits_one (by omega)] at hc
      simp only [List.mem_singleton] at hc
      subst hc
      exact digit_good n (by omega)
    | succ k ih =>
      intro n hn c hc
      by_cases hs : n < 10
      · rw [Lib.decDigits_one hs] at hc
        simp only [List.mem_singleton] at hc
        subst hc
        exact digit_good n hs
      · rw [Lib.decDigits, dif_neg hs] at hc
        rcases List.mem_append.1 hc with hc | hc
        · exact ih (n / 10) (by omega) c hc
        · simp only [List.mem_singleton] at hc
          subst hc
          exact digit_good (n % 10) (by omega)
  exact h n n (Nat.le_refl _)
/-- a text that is a value: its bytes, its two ends -/
theorem value_of {l : List UInt8} (h : ∀ c ∈ l, val c = true) (c0 : UInt8) (r : List UInt8) (e1 : l = c0 :: r) (hw : white c0 = false) (m : List UInt8) (cl : UInt8) (e2 : l = m ++ [cl]) (hl : white cl = false) : value l = true := by
  unfold value
  rw [Bool.and_eq_true]
  refine ⟨List.all_eq_true.2 h, decide_eq_true ((trim_id l).2 (Or.inr ?_))⟩
  have hp : 0 < l.length := by rw [e1]; simp
  refine ⟨hp, ?_, ?_⟩
  · have : ∀ (x : List UInt8) (hx : 0 < x.length), x = c0 :: r → x[0] = c0 := by rintro x hx rfl; rfl
    rw [this l hp e1]; exact hw
  · have : ∀ (x : List UInt8) (hx : x.length - 1 < x.length), x = m ++ [cl] → x[x.length - 1] = cl := by rintro x hx rfl; simp
    rw [this l (by omega) e2]; exact hl

end Go.Proofs.YtdkbjefphihplabDoor.Fd
