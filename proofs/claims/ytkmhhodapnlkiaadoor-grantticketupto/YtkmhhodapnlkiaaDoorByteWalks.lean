import Derived.Test.YtkmhhodapnlkiaaDoorEscWalks
namespace Go.Proofs.YtkmhhodapnlkiaaDoor.pctw
open Go.ChangeShapes Go.WideShapes Go.ChangeAt Go.RowKit Go.Proofs.YtkmhhodapnlkiaaDoor.common
attribute [local go_sem ↓] Go.wp_at_zero Go.wp_at_succ

set_option maxHeartbeats 800000 in
theorem refUnreserved_any (c : UInt8) (w : World) :
    Calls Tryd.prog 29 #[B c] w fun e w' => w' = w ∧ e = .returned (.bool (Pct.unres c)) := by
  have hc := c.toNat_lt
  obtain ⟨u, hu⟩ : ∃ u, Pct.unres c = u := ⟨_, rfl⟩
  rw [hu]
  have HU := hide hu
  clear hu
  go_enter Tryd.func29, Tryd.ntmps29
  go_wp2
  all_goals (go_ret; refine ⟨rfl, ?_⟩; rw [← HU.out])
  all_goals (simp only [Array.getD_eq_getD_getElem?]; simp; try rw [Bool.eq_iff_iff]; try simp [Pct.unres]; try omega)

set_option maxHeartbeats 800000 in
theorem refDigit_any (n : Nat) (w : World) (hn : n < 16) :
    Calls Tryd.prog 30 #[.int .u8 (n : Int)] w fun e w' => w' = w ∧ e = .returned (B (Pct.dig n)) := by
  have HN := hide hn
  go_enter Tryd.func30, Tryd.ntmps30
  go_wp2
  all_goals (go_ret; refine ⟨rfl, ?_⟩; simp [Pct.dig])
  all_goals (split <;> omega)

end Go.Proofs.YtkmhhodapnlkiaaDoor.pctw

namespace Go.Proofs.YtkmhhodapnlkiaaDoor.pctw
open Go.ChangeShapes Go.WideShapes Go.ChangeAt Go.RowKit Go.Proofs.YtkmhhodapnlkiaaDoor.common
attribute [local go_sem ↓] Go.wp_at_zero Go.wp_at_succ

theorem hexv_cases (c : UInt8) : (48 ≤ c.toNat ∧ c.toNat ≤ 57 ∧ Pct.hexv c = c.toNat - 48) ∨ (65 ≤ c.toNat ∧ c.toNat ≤ 70 ∧ Pct.hexv c = c.toNat - 55) ∨ (97 ≤ c.toNat ∧ c.toNat ≤ 102 ∧ Pct.hexv c = c.toNat - 87) ∨
    (Pct.hexv c = 16 ∧ ¬ (48 ≤ c.toNat ∧ c.toNat ≤ 57) ∧ ¬ (65 ≤ c.toNat ∧ c.toNat ≤ 70) ∧ ¬ (97 ≤ c.toNat ∧ c.toNat ≤ 102)) := by
  unfold Pct.hexv
  split
  · omega
  · split
    · omega
    · split <;> omega

end Go.Proofs.YtkmhhodapnlkiaaDoor.pctw

namespace Go.Proofs.YtkmhhodapnlkiaaDoor.pctw
open Go.ChangeShapes Go.WideShapes Go.ChangeAt Go.RowKit Go.Proofs.YtkmhhodapnlkiaaDoor.common
attribute [local go_sem ↓] Go.wp_at_zero Go.wp_at_succ

end Go.Proofs.YtkmhhodapnlkiaaDoor.pctw

