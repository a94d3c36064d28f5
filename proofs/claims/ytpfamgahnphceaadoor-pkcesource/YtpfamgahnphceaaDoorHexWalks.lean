import Derived.Test.YtpfamgahnphceaaDoorRadixKit
namespace Go.Proofs.YtpfamgahnphceaaDoor.radw
open Go.ChangeShapes Go.WideShapes Go.ChangeAt Go.RowKit Go.Proofs.YtpfamgahnphceaaDoor.common

end Go.Proofs.YtpfamgahnphceaaDoor.radw
