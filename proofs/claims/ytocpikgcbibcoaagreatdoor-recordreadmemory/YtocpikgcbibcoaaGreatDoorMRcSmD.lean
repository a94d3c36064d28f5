import Derived.Test.YtocpikgcbibcoaaGreatDoorMRcRows
import Derived.Test.YtocpikgcbibcoaaGreatDoorMRdSameD
namespace Go.Proofs.YtocpikgcbibcoaaGreatDoor.rc
open Go.ChangeShapes Go.WideShapes Go.ChangeAt Go.RowKit Go.Proofs.YtocpikgcbibcoaaGreatDoor.common Go.Proofs.YtocpikgcbibcoaaGreatDoor.ss
attribute [local go_sem ↓] Go.wp_at_zero Go.wp_at_succ

end Go.Proofs.YtocpikgcbibcoaaGreatDoor.rc
