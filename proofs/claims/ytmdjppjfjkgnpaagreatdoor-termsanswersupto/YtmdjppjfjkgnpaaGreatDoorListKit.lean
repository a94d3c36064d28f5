import Derived.Test.YtmdjppjfjkgnpaaGreatDoorListCopy
namespace Go.Proofs.YtmdjppjfjkgnpaaGreatDoor.lst
open Go.ChangeShapes Go.WideShapes Go.ChangeAt Go.RowKit Go.Proofs.YtmdjppjfjkgnpaaGreatDoor.common
attribute [local go_sem ↓] Go.wp_at_zero Go.wp_at_succ

/-- what stands in the spare room -/
def bh : ByteArray := ⟨#[98, 101, 104, 105, 110, 100]⟩
theorem sizeP : (Tryz.prog.info? 26).map (·.size) = some 2 := by kernel_rfl

end Go.Proofs.YtmdjppjfjkgnpaaGreatDoor.lst
