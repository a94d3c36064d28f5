import Derived.Test.YtdkbjefphihplabDoorBasicOfP
import Derived.Test.YtdkbjefphihplabDoorNameL
namespace Go.Proofs.YtdkbjefphihplabDoor.fd
open Go.ChangeShapes Go.WideShapes Go.ChangeAt Go.RowKit Go.Proofs.YtdkbjefphihplabDoor.common Go.Proofs.YtdkbjefphihplabDoor.bk
attribute [local go_sem ↓] Go.wp_at_zero Go.wp_at_succ

/-- what is coded -/
def pairL (u p : List UInt8) : List UInt8 := Pct.esc true u ++ 58 :: Pct.esc true p
theorem pairB_list (u p : ByteArray) : (pairB u p).data.toList = pairL u.data.toList p.data.toList := by
  unfold pairB escB pairL
  simp
theorem basicB_list (u p : ByteArray) : (basicB u p).data.toList = nameL ++ (List.replicate 1 32 ++ Rad.std (pairL u.data.toList p.data.toList)) := by
  unfold basicB stdB nameL
  rw [← pairB_list]
  simp
theorem basicB_big (u p : ByteArray) : 6 ≤ (basicB u p).size ∧ (basicB u p).size = 6 + (stdB (pairB u p)).size := by
  have : (basicB u p).size = 6 + (stdB (pairB u p)).size := by unfold basicB; rw [ByteArray.size_append]; rfl
  exact ⟨by omega, this⟩
end Go.Proofs.YtdkbjefphihplabDoor.fd
