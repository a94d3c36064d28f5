import Derived.Test.YtiplhmamcghehaaGreatDoorRcRdM
namespace Go.Proofs.YtiplhmamcghehaaGreatDoor.rc
open Go.ChangeShapes Go.WideShapes Go.ChangeAt Go.RowKit Go.Proofs.YtiplhmamcghehaaGreatDoor.common Go.Proofs.YtiplhmamcghehaaGreatDoor.dk

end Go.Proofs.YtiplhmamcghehaaGreatDoor.rc

namespace Go.Proofs.YtiplhmamcghehaaGreatDoor.rc
open Go.ChangeShapes Go.WideShapes Go.ChangeAt Go.RowKit Go.Proofs.YtiplhmamcghehaaGreatDoor.common Go.Proofs.YtiplhmamcghehaaGreatDoor.dk

end Go.Proofs.YtiplhmamcghehaaGreatDoor.rc

namespace Go.Proofs.YtiplhmamcghehaaGreatDoor.rc
open Go.ChangeShapes Go.WideShapes Go.ChangeAt Go.RowKit Go.Proofs.YtiplhmamcghehaaGreatDoor.common Go.Proofs.YtiplhmamcghehaaGreatDoor.dk

end Go.Proofs.YtiplhmamcghehaaGreatDoor.rc
