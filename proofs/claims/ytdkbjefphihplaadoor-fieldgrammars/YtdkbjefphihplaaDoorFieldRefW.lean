import Derived.Test.YtdkbjefphihplaaDoorFieldRef
namespace Go.Proofs.YtdkbjefphihplaaDoor.fd
open Go.ChangeShapes Go.WideShapes Go.ChangeAt Go.RowKit Go.Proofs.YtdkbjefphihplaaDoor.common Go.Proofs.YtdkbjefphihplaaDoor.bk
attribute [local go_sem ↓] Go.wp_at_zero Go.wp_at_succ

set_option maxHeartbeats 1600000 in
theorem refWhite_any (c : UInt8) (w : World) : Calls Tryd.prog 36 #[B c] w fun e w' => e = .returned (.bool (Fd.white c)) ∧ w' = w := by
  have HC := hide (white_cases c)
  generalize Fd.white c = t at *
  go_enter Tryd.func36, Tryd.ntmps36
  go_wp2
  all_goals (go_ret; refine ⟨?_, rfl⟩; rcases HC.out with ⟨h1, h2⟩ | ⟨h1, h2⟩)
  all_goals first
    | (exfalso; omega)
    | (rw [h1]; rfl)
    | (rw [h1]; simp; omega)

end Go.Proofs.YtdkbjefphihplaaDoor.fd
