import Derived.Test.YtocpikgcbibcoaaGreatDoorMTermLays3
import Derived.Test.YtocpikgcbibcoaaGreatDoorMRefPriv9
import Derived.Test.YtocpikgcbibcoaaGreatDoorMRcWk
import Derived.Test.YtocpikgcbibcoaaGreatDoorMRefScopes9
import Derived.Test.YtocpikgcbibcoaaGreatDoorMRedEq
import Derived.Test.YtocpikgcbibcoaaGreatDoorMShaWords
namespace Go.Proofs.YtocpikgcbibcoaaGreatDoor.tm
open Go.ChangeShapes Go.WideShapes Go.ChangeAt Go.RowKit Go.Proofs.YtocpikgcbibcoaaGreatDoor.common Go.Proofs.YtocpikgcbibcoaaGreatDoor.bk Go.Proofs.YtocpikgcbibcoaaGreatDoor.fd
attribute [local go_sem ↓] Go.wp_at_zero Go.wp_at_succ

end Go.Proofs.YtocpikgcbibcoaaGreatDoor.tm

namespace Go.Proofs.YtocpikgcbibcoaaGreatDoor.tm
open Go.ChangeShapes Go.WideShapes Go.ChangeAt Go.RowKit Go.Proofs.YtocpikgcbibcoaaGreatDoor.common Go.Proofs.YtocpikgcbibcoaaGreatDoor.bk
open Go.Proofs.YtocpikgcbibcoaaGreatDoor.fd (before behind cut_no cut_at)
attribute [local go_sem ↓] Go.wp_at_zero Go.wp_at_succ

end Go.Proofs.YtocpikgcbibcoaaGreatDoor.tm

namespace Go.Proofs.YtocpikgcbibcoaaGreatDoor.rc
open Go.ChangeShapes Go.WideShapes Go.ChangeAt Go.RowKit Go.Proofs.YtocpikgcbibcoaaGreatDoor.common Go.Proofs.YtocpikgcbibcoaaGreatDoor.bk Go.Proofs.YtocpikgcbibcoaaGreatDoor.ss
attribute [local go_sem ↓] Go.wp_at_zero Go.wp_at_succ

end Go.Proofs.YtocpikgcbibcoaaGreatDoor.rc
