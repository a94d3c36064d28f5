import Derived.Test.YtilhfmhjgfmejaaGreatDoorMRgSame
import Derived.Test.YtilhfmhjgfmejaaGreatDoorMStrHas
import Derived.Lib.LazyBuf
namespace Go.Proofs.YtilhfmhjgfmejaaGreatDoor.rg
open Go.ChangeShapes Go.WideShapes Go.ChangeAt Go.RowKit Go.Proofs.YtilhfmhjgfmejaaGreatDoor.common Go.Proofs.YtilhfmhjgfmejaaGreatDoor.bk Go.Maps
attribute [local go_sem ↓] Go.wp_at_zero Go.wp_at_succ

end Go.Proofs.YtilhfmhjgfmejaaGreatDoor.rg
