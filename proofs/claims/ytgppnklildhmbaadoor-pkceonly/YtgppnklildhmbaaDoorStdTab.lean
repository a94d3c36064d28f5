import Derived.Test.YtgppnklildhmbaaDoorRows
import Derived.Test.YtgppnklildhmbaaDoorRadixKit
import Derived.Lib.LaidTab
namespace Go.Proofs.YtgppnklildhmbaaDoor.radw
open Go.ChangeShapes Go.WideShapes Go.ChangeAt Go.RowKit Go.Proofs.YtgppnklildhmbaaDoor.common

theorem cells8 : Tryd.prog.cellsOf 5 = 1 := by kernel_rfl

end Go.Proofs.YtgppnklildhmbaaDoor.radw
