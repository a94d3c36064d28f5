import Derived.Test.YtefdofmllgofeaaGreatDoorMListKit0
namespace Go.Proofs.YtefdofmllgofeaaGreatDoor.lst
open Go.ChangeShapes Go.WideShapes Go.ChangeAt Go.RowKit Go.Proofs.YtefdofmllgofeaaGreatDoor.common
attribute [local go_sem ↓] Go.wp_at_zero Go.wp_at_succ

end Go.Proofs.YtefdofmllgofeaaGreatDoor.lst

namespace Go.Proofs.YtefdofmllgofeaaGreatDoor.lst
open Go.ChangeShapes Go.WideShapes Go.ChangeAt Go.RowKit Go.Proofs.YtefdofmllgofeaaGreatDoor.common
attribute [local go_sem ↓] Go.wp_at_zero Go.wp_at_succ

/-- what stands in the spare room -/
def bh : ByteArray := ⟨#[98, 101, 104, 105, 110, 100]⟩
theorem sizeP : (Tryz.prog.info? 40).map (·.size) = some 2 := by kernel_rfl

end Go.Proofs.YtefdofmllgofeaaGreatDoor.lst
