import Derived.Test.YthkbheojjcdglaaDoorByteWalks
namespace Go.Proofs.YthkbheojjcdglaaDoor.pctw
open Go.ChangeShapes Go.WideShapes Go.ChangeAt Go.RowKit Go.Proofs.YthkbheojjcdglaaDoor.common
attribute [local go_sem ↓] Go.wp_at_zero Go.wp_at_succ

set_option maxHeartbeats 800000 in
theorem free_any (c : UInt8) (w : World) :
    Calls Tryd.prog 15 #[B c] w fun e w' => w' = w ∧ e = .returned (.bool (Pct.unres c)) := by
  have hc := c.toNat_lt
  obtain ⟨u, hu⟩ : ∃ u, Pct.unres c = u := ⟨_, rfl⟩
  rw [hu]
  have HU := hide hu
  clear hu
  go_enter Tryd.func15, Tryd.ntmps15
  go_wp2
  all_goals (go_ret; refine ⟨rfl, ?_⟩; rw [← HU.out])
  all_goals (simp only [Array.getD_eq_getD_getElem?]; simp; (try rw [Bool.eq_iff_iff]); (try simp [Pct.unres]); (try simp only [beq_iff_eq, beq_eq_false_iff_ne, ne_eq] at *); (try omega))

/-- what a digit with a large letter counts; 16: none -/
def hexU (c : UInt8) : Nat := if 48 ≤ c.toNat ∧ c.toNat ≤ 57 then c.toNat - 48 else if 65 ≤ c.toNat ∧ c.toNat ≤ 70 then c.toNat - 55 else 16
theorem hexU_cases (c : UInt8) : (48 ≤ c.toNat ∧ c.toNat ≤ 57 ∧ hexU c = c.toNat - 48) ∨ (65 ≤ c.toNat ∧ c.toNat ≤ 70 ∧ hexU c = c.toNat - 55) ∨
    (hexU c = 16 ∧ ¬ (48 ≤ c.toNat ∧ c.toNat ≤ 57) ∧ ¬ (65 ≤ c.toNat ∧ c.toNat ≤ 70)) := by
  unfold hexU
  split
  · omega
  · split <;> omega
theorem hexU_dig : ∀ n, n < 16 → hexU (Pct.dig n) = n := by
  intro n hn
  have : ∀ n : Fin 16, hexU (Pct.dig n.val) = n.val := by decide
  exact this ⟨n, hn⟩

set_option maxHeartbeats 800000 in
theorem small_true (c : UInt8) (w : World) :
    Calls Tryd.prog 10 #[B c, .bool true] w fun e w' => w' = w ∧ e = .returned (.int .i64 (Pct.hexv c : Int)) := by
  have HC := hide (hexv_cases c)
  have hc := c.toNat_lt
  generalize Pct.hexv c = v at *
  go_enter Tryd.func10, Tryd.ntmps10
  go_wp2
  all_goals (go_ret; refine ⟨rfl, ?_⟩; have := HC.out)
  all_goals first
    | (exfalso; omega)
    | (simp; omega)

set_option maxHeartbeats 800000 in
theorem small_false (c : UInt8) (w : World) :
    Calls Tryd.prog 10 #[B c, .bool false] w fun e w' => w' = w ∧ e = .returned (.int .i64 (hexU c : Int)) := by
  have HC := hide (hexU_cases c)
  have hc := c.toNat_lt
  generalize hexU c = v at *
  go_enter Tryd.func10, Tryd.ntmps10
  go_wp2
  all_goals (go_ret; refine ⟨rfl, ?_⟩; have := HC.out)
  all_goals first
    | (exfalso; omega)
    | (simp; omega)

end Go.Proofs.YthkbheojjcdglaaDoor.pctw
