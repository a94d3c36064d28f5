import Derived.Test.YtgppnklildhmbaaDoorRadixKit
namespace Go.Proofs.YtgppnklildhmbaaDoor.radw
open Go.ChangeShapes Go.WideShapes Go.ChangeAt Go.RowKit Go.Proofs.YtgppnklildhmbaaDoor.common

end Go.Proofs.YtgppnklildhmbaaDoor.radw
