import Derived.Test.YtmdjppjfjkgnpaaDoorPctKit
namespace Go.Proofs.YtmdjppjfjkgnpaaDoor.pctw
open Go.ChangeShapes Go.WideShapes Go.ChangeAt Go.RowKit Go.Proofs.YtmdjppjfjkgnpaaDoor.common
attribute [local go_sem ↓] Go.wp_at_zero Go.wp_at_succ

set_option maxHeartbeats 800000 in
theorem refUnreserved_any (c : UInt8) (w : World) :
    Calls Tryd.prog 36 #[B c] w fun e w' => w' = w ∧ e = .returned (.bool (Pct.unres c)) := by
  have hc := c.toNat_lt
  obtain ⟨u, hu⟩ : ∃ u, Pct.unres c = u := ⟨_, rfl⟩
  rw [hu]
  have HU := hide hu
  clear hu
  go_enter Tryd.func36, Tryd.ntmps36
  go_wp2
  all_goals (go_ret; refine ⟨rfl, ?_⟩; rw [← HU.out])
  all_goals (simp only [Array.getD_eq_getD_getElem?]; simp; try rw [Bool.eq_iff_iff]; try simp [Pct.unres]; try omega)

end Go.Proofs.YtmdjppjfjkgnpaaDoor.pctw
