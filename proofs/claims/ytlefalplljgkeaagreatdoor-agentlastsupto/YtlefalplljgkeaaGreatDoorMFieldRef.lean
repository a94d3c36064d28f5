import Derived.Test.YtlefalplljgkeaaGreatDoorMFieldAll
namespace Go.Proofs.YtlefalplljgkeaaGreatDoor.fd
open Go.ChangeShapes Go.WideShapes Go.ChangeAt Go.RowKit Go.Proofs.YtlefalplljgkeaaGreatDoor.common Go.Proofs.YtlefalplljgkeaaGreatDoor.bk
attribute [local go_sem ↓] Go.wp_at_zero Go.wp_at_succ

theorem marks_tok (c : UInt8) : Fd.tok c = (decide (65 ≤ c.toNat ∧ c.toNat ≤ 90 ∨ 97 ≤ c.toNat ∧ c.toNat ≤ 122 ∨ 48 ≤ c.toNat ∧ c.toNat ≤ 57) || Fd.marks.contains c) := by
  have h : ∀ n : Fin 256, Fd.tok (UInt8.ofNat n.val) = (decide (65 ≤ n.val ∧ n.val ≤ 90 ∨ 97 ≤ n.val ∧ n.val ≤ 122 ∨ 48 ≤ n.val ∧ n.val ≤ 57) || Fd.marks.contains (UInt8.ofNat n.val)) := by decide +kernel
  have := h ⟨c.toNat, c.toNat_lt⟩
  simpa using this

theorem dec_cases {p : Prop} [Decidable p] {t : Bool} (h : t = decide p) : (t = true ∧ p) ∨ (t = false ∧ ¬ p) := by
  by_cases hp : p
  · exact Or.inl ⟨h.trans (decide_eq_true hp), hp⟩
  · exact Or.inr ⟨h.trans (decide_eq_false hp), hp⟩
theorem tok_cases (c : UInt8) : (Fd.tok c = true ∧ (65 ≤ c.toNat ∧ c.toNat ≤ 90 ∨ 97 ≤ c.toNat ∧ c.toNat ≤ 122 ∨ 48 ≤ c.toNat ∧ c.toNat ≤ 57)) ∨ (Fd.tok c = Fd.marks.contains c ∧ ¬ (65 ≤ c.toNat ∧ c.toNat ≤ 90 ∨ 97 ≤ c.toNat ∧ c.toNat ≤ 122 ∨ 48 ≤ c.toNat ∧ c.toNat ≤ 57)) := by
  rw [marks_tok]
  by_cases h : 65 ≤ c.toNat ∧ c.toNat ≤ 90 ∨ 97 ≤ c.toNat ∧ c.toNat ≤ 122 ∨ 48 ≤ c.toNat ∧ c.toNat ≤ 57
  · exact Or.inl ⟨by rw [decide_eq_true h]; rfl, h⟩
  · exact Or.inr ⟨by rw [decide_eq_false h]; rfl, h⟩

set_option maxHeartbeats 1600000 in
theorem isValueByte_any (c : UInt8) (w : World) : Calls Tryz.prog 143 #[B c] w fun e w' => e = .returned (.bool (Fd.val c)) ∧ w' = w := by
  have HC0 := dec_cases (p := c.toNat = 9 ∨ 32 ≤ c.toNat ∧ c.toNat ≠ 127) (t := Fd.val c) rfl
  have HC := hide HC0
  clear HC0
  have hc := c.toNat_lt
  generalize Fd.val c = t at *
  go_enter Tryz.func143, Tryz.ntmps143
  go_wp2
  all_goals (go_ret; refine ⟨?_, rfl⟩; rcases HC.out with ⟨h1, h2⟩ | ⟨h1, h2⟩)
  all_goals first
    | (exfalso; omega)
    | (rw [h1]; rfl)
    | (rw [h1]; simp; omega)

theorem white_cases (c : UInt8) : (Fd.white c = true ∧ (c.toNat = 32 ∨ c.toNat = 9)) ∨ (Fd.white c = false ∧ ¬ (c.toNat = 32 ∨ c.toNat = 9)) := by
  cases h : Fd.white c with
  | true => exact Or.inl ⟨rfl, (Fd.white_iff c).1 h⟩
  | false => exact Or.inr ⟨rfl, fun e => by rw [(Fd.white_iff c).2 e] at h; cases h⟩

end Go.Proofs.YtlefalplljgkeaaGreatDoor.fd
