import Derived.Test.YtkmhhodapnlkiaaDoorListKit0
namespace Go.Proofs.YtkmhhodapnlkiaaDoor.lst
open Go.ChangeShapes Go.WideShapes Go.ChangeAt Go.RowKit Go.Proofs.YtkmhhodapnlkiaaDoor.common
attribute [local go_sem ↓] Go.wp_at_zero Go.wp_at_succ

end Go.Proofs.YtkmhhodapnlkiaaDoor.lst

namespace Go.Proofs.YtkmhhodapnlkiaaDoor.lst
open Go.ChangeShapes Go.WideShapes Go.ChangeAt Go.RowKit Go.Proofs.YtkmhhodapnlkiaaDoor.common
attribute [local go_sem ↓] Go.wp_at_zero Go.wp_at_succ

/-- what stands in the spare room -/
def bh : ByteArray := ⟨#[98, 101, 104, 105, 110, 100]⟩
theorem sizeP : (Tryd.prog.info? 29).map (·.size) = some 2 := by kernel_rfl

end Go.Proofs.YtkmhhodapnlkiaaDoor.lst
