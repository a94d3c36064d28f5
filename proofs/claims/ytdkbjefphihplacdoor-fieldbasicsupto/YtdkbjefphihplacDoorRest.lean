import Derived.Test.YtdkbjefphihplacDoorRadixKit
import Derived.Deep.QuietTactic
namespace Go.Proofs.YtdkbjefphihplacDoor.radw
open Go.ChangeShapes Go.WideShapes Go.ChangeAt Go.RowKit Go.Proofs.YtdkbjefphihplacDoor.common
attribute [local go_sem ↓] Go.wp_at_zero Go.wp_at_succ

end Go.Proofs.YtdkbjefphihplacDoor.radw
