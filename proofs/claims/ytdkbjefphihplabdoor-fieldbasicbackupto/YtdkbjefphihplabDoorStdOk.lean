import Derived.Test.YtdkbjefphihplabDoorUnStdWalks
namespace Go.Proofs.YtdkbjefphihplabDoor.radw
open Go.ChangeShapes Go.WideShapes Go.ChangeAt Go.RowKit Go.Proofs.YtdkbjefphihplabDoor.common

theorem trimN_eq (l : List UInt8) (m k : Nat) (hm : m ≤ k) (h1 : ∀ i, m ≤ i → i < k → l.getD i 0 = 61) (h2 : m = 0 ∨ l.getD (m - 1) 0 ≠ 61) : trimN l k = m := by
  induction k with
  | zero => unfold trimN; omega
  | succ k ih =>
    by_cases h : m = k + 1
    · subst h
      unfold trimN
      have h3 : ¬ l.getD k 0 = 61 := by
        rcases h2 with h | h
        · omega
        · simpa using h
      rw [if_neg h3]
    · unfold trimN
      rw [if_pos (h1 k (by omega) (by omega))]
      exact ih (by omega) (fun i a b => h1 i a (by omega))

theorem app_getD (a b : List UInt8) (i : Nat) : (a ++ b).getD i 0 = if i < a.length then a.getD i 0 else b.getD (i - a.length) 0 := by
  rw [List.getD_eq_getElem?_getD, List.getElem?_append]
  split <;> rw [List.getD_eq_getElem?_getD]

theorem trim_std (l : List UInt8) : trimN (Rad.std l) (Rad.std l).length = (Rad.b64 Rad.stdT l).length := by
  have hv := Rad.valid_b64 Rad.stdGood l
  have hlen : (Rad.std l).length = (Rad.b64 Rad.stdT l).length + (Rad.pad (Rad.n6 l.length)).length := by unfold Rad.std; rw [List.length_append]
  apply trimN_eq
  · omega
  · intro i h1 h2
    unfold Rad.std
    rw [app_getD, if_neg (by omega)]
    have hi : i - (Rad.b64 Rad.stdT l).length < (Rad.pad (Rad.n6 l.length)).length := by omega
    rw [List.getD_eq_getElem?_getD, List.getElem?_eq_getElem hi]
    exact Rad.pad_all _ _ (List.getElem_mem _)
  · by_cases h : (Rad.b64 Rad.stdT l).length = 0
    · exact Or.inl h
    · refine Or.inr ?_
      unfold Rad.std
      rw [app_getD, if_pos (by omega)]
      intro he
      have := hv ((Rad.b64 Rad.stdT l).length - 1) (by omega)
      rw [he] at this
      exact this Rad.stdGood.eqs

theorem lets_std (l : List UInt8) : lets0 (Rad.std l) = Rad.b64 Rad.stdT l := by
  unfold lets0; rw [trim_std]; unfold Rad.std; rw [List.take_left]
theorem tail_std (l : List UInt8) : tail0 (Rad.std l) = Rad.pad (Rad.n6 l.length) := by
  unfold tail0; rw [trim_std]; unfold Rad.std; rw [List.drop_left]
theorem ok_std (l : List UInt8) : okStd (Rad.std l) := by
  unfold okStd
  rw [lets_std, tail_std, Rad.b64_len]
  exact ⟨rfl, Rad.valid_b64 Rad.stdGood l, Rad.rest_b64 Rad.stdGood l⟩

end Go.Proofs.YtdkbjefphihplabDoor.radw
