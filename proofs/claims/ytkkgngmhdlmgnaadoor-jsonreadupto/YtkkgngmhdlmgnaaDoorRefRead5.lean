import Derived.Test.YtkkgngmhdlmgnaaDoorRefRead4
namespace Go.Proofs.YtkkgngmhdlmgnaaDoor.jw
open Go.ChangeShapes Go.WideShapes Go.ChangeAt Go.RowKit Go.Proofs.YtkkgngmhdlmgnaaDoor.common
attribute [local go_sem ↓] Go.wp_at_zero Go.wp_at_succ

theorem hexs_drop : ∀ (k n : Nat) (l : List UInt8) {m : Nat} {r : List UInt8}, Json.hexs k n l = some (m, r) → r = l.drop k
  | 0, _, _, _, _, h => by injection h with h; injection h with _ h; subst h; rfl
  | _ + 1, _, [], _, _, h => by cases h
  | k + 1, n, c :: l, m, r, h => by
    simp only [Json.hexs] at h
    split at h
    · cases h
    · exact hexs_drop k _ l h
theorem hexs_lt : ∀ (k n : Nat) (l : List UInt8) {m : Nat} {r : List UInt8}, Json.hexs k n l = some (m, r) → m < (n + 1) * 16 ^ k
  | 0, n, _, _, _, h => by injection h with h; injection h with h _; subst h; omega
  | _ + 1, _, [], _, _, h => by cases h
  | k + 1, n, c :: l, m, r, h => by
    simp only [Json.hexs] at h
    split at h
    · cases h
    · rename_i d hd
      have h1 := hexs_lt k _ l h
      have h2 := hexa_lt hd
      rw [Nat.pow_succ]
      have h3 : (16 * n + d + 1) * 16 ^ k ≤ (16 * (n + 1)) * 16 ^ k := Nat.mul_le_mul_right _ (by omega)
      have h4 : (16 * (n + 1)) * 16 ^ k = (n + 1) * (16 ^ k * 16) := by rw [Nat.mul_comm 16 (n + 1), Nat.mul_assoc, Nat.mul_comm 16 (16 ^ k)]
      omega
/-- what unit reads at a place where it reads something -/
theorem unitAt_some {s : ByteArray} {a : Nat} {m : Nat} (h : unitAt s a = (m : Int)) : Json.word [92, 117] (s.data.toList.drop a) = some (s.data.toList.drop (a + 2)) ∧ Json.unit (s.data.toList.drop (a + 2)) = some (m, s.data.toList.drop (a + 6)) ∧ m < 65536 ∧ a + 6 ≤ s.size := by
  have h6 : a + 6 ≤ s.size := by
    by_cases h6 : a + 6 ≤ s.size
    · exact h6
    · have := unit_short s a h6; omega
  by_cases h1 : s[a] = 92 ∧ s[a + 1] = 117
  · have hw : Json.word [92, 117] (s.data.toList.drop a) = some (s.data.toList.drop (a + 2)) := by rw [word2, dif_pos (by omega), if_pos h1]
    rw [unit_some s a (by omega) h1] at h
    cases hx : Json.hexs 4 0 (s.data.toList.drop (a + 2)) with
    | none => rw [hx] at h; have : (-1 : Int) = (m : Int) := h; omega
    | some x =>
      rw [hx] at h
      have h2 : (x.1 : Int) = (m : Int) := h
      obtain ⟨m', r⟩ := x
      obtain rfl : m' = m := by have : (m' : Int) = (m : Int) := h2; omega
      have h3 := hexs_drop 4 0 _ hx
      rw [List.drop_drop] at h3
      have h4 := hexs_lt 4 0 _ hx
      refine ⟨hw, ?_, by omega, h6⟩
      unfold Json.unit
      rw [hx, h3]
  · have := unit_none s a (by omega) h1; omega
theorem unitAt_no {s : ByteArray} {a : Nat} (h : unitAt s a = -1) (hw : Json.word [92, 117] (s.data.toList.drop a) = some (s.data.toList.drop (a + 2))) : Json.unit (s.data.toList.drop (a + 2)) = none := by
  rw [word2] at hw
  split at hw
  · rename_i h0
    split at hw
    · rename_i h1
      rw [unit_some s a h0 h1] at h
      unfold Json.unit
      cases hx : Json.hexs 4 0 (s.data.toList.drop (a + 2)) with
      | none => rfl
      | some x => rw [hx] at h; have : (x.1 : Int) = -1 := h; omega
    · cases hw
  · cases hw
theorem unitAt_cases (s : ByteArray) (a : Nat) : unitAt s a = -1 ∨ ∃ m : Nat, unitAt s a = (m : Int) := by
  unfold unitAt
  split
  · exact Or.inl rfl
  · split
    · exact Or.inl rfl
    · exact Or.inr ⟨_, rfl⟩
end Go.Proofs.YtkkgngmhdlmgnaaDoor.jw
