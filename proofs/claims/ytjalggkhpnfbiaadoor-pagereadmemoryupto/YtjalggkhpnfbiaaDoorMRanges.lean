import Derived.Test.YtjalggkhpnfbiaaDoorMCommon
import Derived.Deep.RegionHeld3
import Derived.Deep.MidRow
import Derived.Deep.DrawnRows
import Derived.BigQuiet
import Derived.Deep.QuietTactic
import Derived.WalkSmall
namespace Go.Proofs.YtjalggkhpnfbiaaDoor.common
open Go.ChangeShapes Go.WideShapes Go.ChangeAt Go.RowKit

/-- a new block, whole -/
theorem range_new (w : World) (C : Array Value) (t : TypeId) : (w.alloc (.cells C t)).rangeAt w.heap.size 0 C.toList := fun j v hv => by
  simpa using hv
end Go.Proofs.YtjalggkhpnfbiaaDoor.common
