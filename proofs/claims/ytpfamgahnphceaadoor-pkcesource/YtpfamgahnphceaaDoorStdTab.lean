import Derived.Test.YtpfamgahnphceaaDoorRows
import Derived.Test.YtpfamgahnphceaaDoorRadixKit
import Derived.Lib.LaidTab
namespace Go.Proofs.YtpfamgahnphceaaDoor.radw
open Go.ChangeShapes Go.WideShapes Go.ChangeAt Go.RowKit Go.Proofs.YtpfamgahnphceaaDoor.common

theorem cells8 : Tryd.prog.cellsOf 5 = 1 := by kernel_rfl

end Go.Proofs.YtpfamgahnphceaaDoor.radw
