import Derived.Test.YtkmhhodapnlkiaaDoorShaMath
namespace Go.Proofs.YtkmhhodapnlkiaaDoor.Sha

/-- the buffer of the padding, and what is written into it from the end -/
def padBase : List UInt8 := 0x80 :: List.replicate 71 0
def padFill (n : Nat) : Nat → List UInt8
  | 0 => padBase
  | i + 1 => (padFill n i).set (padSize n - 1 - i) (UInt8.ofNat (8 * n / 2 ^ (8 * i)))

theorem padSize_bounds (n : Nat) : 9 ≤ padSize n ∧ padSize n ≤ 72 := by unfold padSize; omega

theorem padFill_length (n i : Nat) : (padFill n i).length = 72 := by
  induction i with
  | zero => simp [padFill, padBase]
  | succ i ih => simp [padFill, ih]

theorem padFill_get (n i j : Nat) (hi : i ≤ 8) (hj : j < 72) : (padFill n i).getD j 0 = if padSize n - i ≤ j ∧ j < padSize n then UInt8.ofNat (8 * n / 2 ^ (8 * (padSize n - 1 - j))) else if j = 0 then 0x80 else 0 := by
  have hb := padSize_bounds n
  induction i with
  | zero =>
    rw [if_neg (by omega)]
    simp only [padFill, padBase]
    cases j with
    | zero => rfl
    | succ j =>
      show (List.replicate 71 (0 : UInt8)).getD j 0 = _
      rw [List.getD_eq_getElem?_getD, List.getElem?_replicate, if_pos (by omega), if_neg (by omega)]
      rfl
  | succ i ih =>
    simp only [padFill]
    by_cases e : j = padSize n - 1 - i
    · subst e
      rw [if_pos (by omega)]
      have : padSize n - 1 - (padSize n - 1 - i) = i := by omega
      rw [this, List.getD_eq_getElem?_getD, List.getElem?_set_self (by rw [padFill_length]; omega)]
      rfl
    · rw [List.getD_eq_getElem?_getD, List.getElem?_set_ne (by omega), ← List.getD_eq_getElem?_getD, ih (by omega)]
      have hiff : (padSize n - (i + 1) ≤ j ∧ j < padSize n) ↔ (padSize n - i ≤ j ∧ j < padSize n) := by omega
      simp only [hiff]

theorem padTo_length (n i : Nat) : (padTo n i).length = i := by
  induction i with
  | zero => rfl
  | succ i ih => simp [padTo, ih]

theorem padTo_get (n i j : Nat) (h : j < i) : (padTo n i).getD j 0 = padByte n j := by
  induction i with
  | zero => omega
  | succ i ih =>
    simp only [padTo]
    by_cases e : j = i
    · subst e
      rw [List.getD_eq_getElem?_getD, List.getElem?_append_right (by rw [padTo_length]; exact Nat.le_refl _), padTo_length]; simp
    · rw [List.getD_eq_getElem?_getD, List.getElem?_append_left (by rw [padTo_length]; omega), ← List.getD_eq_getElem?_getD]
      exact ih (by omega)

theorem ext_getD {l m : List UInt8} (hl : l.length = m.length) (h : ∀ j, j < l.length → l.getD j 0 = m.getD j 0) : l = m := by
  apply List.ext_getElem hl
  intro j h1 h2
  have := h j h1
  simpa [List.getD_eq_getElem?_getD, h1, h2] using this

theorem pad_fill (n : Nat) : (padFill n 8).take (padSize n) = pad n := by
  have hb := padSize_bounds n
  apply ext_getD
  · simp [padFill_length, pad, padTo_length]; omega
  · intro j hj
    simp [padFill_length] at hj
    have e1 : ((padFill n 8).take (padSize n)).getD j 0 = (padFill n 8).getD j 0 := by
      simp only [List.getD_eq_getElem?_getD]
      rw [List.getElem?_take_of_lt (by omega)]
    rw [e1, padFill_get n 8 j (by omega) (by omega)]
    unfold pad
    rw [padTo_get _ _ _ (by omega)]
    unfold padByte
    by_cases h0 : j = 0
    · subst h0; rw [if_neg (by omega), if_pos rfl, if_pos rfl]
    · by_cases h1 : j + 8 < padSize n
      · rw [if_neg (show ¬ (padSize n - 8 ≤ j ∧ j < padSize n) by omega), if_neg h0, if_neg h0, if_pos h1]
      · rw [if_pos (show padSize n - 8 ≤ j ∧ j < padSize n by omega), if_neg h0, if_neg h1]

end Go.Proofs.YtkmhhodapnlkiaaDoor.Sha
