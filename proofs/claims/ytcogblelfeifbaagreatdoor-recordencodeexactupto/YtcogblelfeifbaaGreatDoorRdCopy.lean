import Derived.Test.YtcogblelfeifbaaGreatDoorRdKit
namespace Go.Proofs.YtcogblelfeifbaaGreatDoor.dk
open Go.ChangeShapes Go.WideShapes Go.ChangeAt Go.RowKit Go.Proofs.YtcogblelfeifbaaGreatDoor.common
end Go.Proofs.YtcogblelfeifbaaGreatDoor.dk
