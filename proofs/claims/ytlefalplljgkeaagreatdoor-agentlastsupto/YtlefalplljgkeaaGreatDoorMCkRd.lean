import Derived.Test.YtlefalplljgkeaaGreatDoorMRdCookie
import Derived.Test.YtlefalplljgkeaaGreatDoorMCutOne
import Derived.Test.YtlefalplljgkeaaGreatDoorMCkB
namespace Go.Proofs.YtlefalplljgkeaaGreatDoor.fd
open Go.ChangeShapes Go.WideShapes Go.ChangeAt Go.RowKit Go.Proofs.YtlefalplljgkeaaGreatDoor.common Go.Proofs.YtlefalplljgkeaaGreatDoor.bk
attribute [local go_sem ↓] Go.wp_at_zero Go.wp_at_succ

def isPc (c : UInt8) : Bool := decide (c ≠ 59)
/-- a value without the two quotes that it stands between -/
def unq (l : List UInt8) : List UInt8 := if 2 ≤ l.length ∧ l.getD 0 0 = 34 ∧ l.getD (l.length - 1) 0 = 34 then (l.take (l.length - 1)).drop 1 else l

end Go.Proofs.YtlefalplljgkeaaGreatDoor.fd
