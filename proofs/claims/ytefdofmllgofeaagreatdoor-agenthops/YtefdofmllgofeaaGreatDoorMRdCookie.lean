import Derived.Test.YtefdofmllgofeaaGreatDoorMCurT
namespace Go.Proofs.YtefdofmllgofeaaGreatDoor.fd
open Go.ChangeShapes Go.WideShapes Go.ChangeAt Go.RowKit Go.Proofs.YtefdofmllgofeaaGreatDoor.common Go.Proofs.YtefdofmllgofeaaGreatDoor.bk
attribute [local go_sem ↓] Go.wp_at_zero Go.wp_at_succ

end Go.Proofs.YtefdofmllgofeaaGreatDoor.fd
