import Derived.Test.YtlefalplljgkeaaGreatDoorMListKit0
namespace Go.Proofs.YtlefalplljgkeaaGreatDoor.lst
open Go.ChangeShapes Go.WideShapes Go.ChangeAt Go.RowKit Go.Proofs.YtlefalplljgkeaaGreatDoor.common
attribute [local go_sem ↓] Go.wp_at_zero Go.wp_at_succ

end Go.Proofs.YtlefalplljgkeaaGreatDoor.lst

namespace Go.Proofs.YtlefalplljgkeaaGreatDoor.lst
open Go.ChangeShapes Go.WideShapes Go.ChangeAt Go.RowKit Go.Proofs.YtlefalplljgkeaaGreatDoor.common
attribute [local go_sem ↓] Go.wp_at_zero Go.wp_at_succ

/-- what stands in the spare room -/
def bh : ByteArray := ⟨#[98, 101, 104, 105, 110, 100]⟩
theorem sizeP : (Tryz.prog.info? 37).map (·.size) = some 2 := by kernel_rfl

end Go.Proofs.YtlefalplljgkeaaGreatDoor.lst
