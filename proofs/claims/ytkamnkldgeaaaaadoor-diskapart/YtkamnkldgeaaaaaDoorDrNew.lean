import Derived.Test.YtkamnkldgeaaaaaDoorDrOps
namespace Go.Proofs.YtkamnkldgeaaaaaDoor.dr
open Go.ChangeShapes Go.WideShapes Go.ChangeAt Go.RowKit Go.Proofs.YtkamnkldgeaaaaaDoor.common Go.Proofs.YtkamnkldgeaaaaaDoor.dk

end Go.Proofs.YtkamnkldgeaaaaaDoor.dr
