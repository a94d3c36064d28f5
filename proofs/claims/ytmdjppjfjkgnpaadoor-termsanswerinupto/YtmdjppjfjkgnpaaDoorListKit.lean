import Derived.Test.YtmdjppjfjkgnpaaDoorListCopy
namespace Go.Proofs.YtmdjppjfjkgnpaaDoor.lst
open Go.ChangeShapes Go.WideShapes Go.ChangeAt Go.RowKit Go.Proofs.YtmdjppjfjkgnpaaDoor.common
attribute [local go_sem ↓] Go.wp_at_zero Go.wp_at_succ

/-- what stands in the spare room -/
def bh : ByteArray := ⟨#[98, 101, 104, 105, 110, 100]⟩
theorem sizeP : (Tryd.prog.info? 33).map (·.size) = some 2 := by kernel_rfl

end Go.Proofs.YtmdjppjfjkgnpaaDoor.lst
