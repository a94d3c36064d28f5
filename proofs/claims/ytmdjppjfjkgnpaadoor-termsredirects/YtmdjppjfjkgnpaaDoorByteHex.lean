import Derived.Test.YtmdjppjfjkgnpaaDoorByteP
namespace Go.Proofs.YtmdjppjfjkgnpaaDoor.pctw
open Go.ChangeShapes Go.WideShapes Go.ChangeAt Go.RowKit Go.Proofs.YtmdjppjfjkgnpaaDoor.common
attribute [local go_sem ↓] Go.wp_at_zero Go.wp_at_succ

set_option maxHeartbeats 800000 in
theorem refHexValue_any (c : UInt8) (w : World) :
    Calls Tryd.prog 38 #[B c] w fun e w' => w' = w ∧ e = .returned (.int .i64 (if Pct.hexv c < 16 then (Pct.hexv c : Int) else -1)) := by
  have HC := hide (hexv_cases c)
  have hc := c.toNat_lt
  generalize Pct.hexv c = v at *
  obtain ⟨r, hr⟩ : ∃ r : Int, (if v < 16 then (v : Int) else -1) = r := ⟨_, rfl⟩
  rw [hr]
  have HR := hide hr
  clear hr
  go_enter Tryd.func38, Tryd.ntmps38
  go_wp2
  all_goals (go_ret; refine ⟨rfl, ?_⟩; have := HC.out; have hr := HR.out)
  all_goals first
    | (exfalso; omega)
    | (simp; split at hr <;> omega)

end Go.Proofs.YtmdjppjfjkgnpaaDoor.pctw
