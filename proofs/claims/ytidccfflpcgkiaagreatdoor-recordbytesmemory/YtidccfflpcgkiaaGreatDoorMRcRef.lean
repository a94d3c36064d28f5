import Derived.Test.YtidccfflpcgkiaaGreatDoorMTermLays3
import Derived.Test.YtidccfflpcgkiaaGreatDoorMRefPriv9
import Derived.Test.YtidccfflpcgkiaaGreatDoorMRcWk
import Derived.Test.YtidccfflpcgkiaaGreatDoorMRefScope9
import Derived.Test.YtidccfflpcgkiaaGreatDoorMRefScopes9
import Derived.Test.YtidccfflpcgkiaaGreatDoorMRedEq
import Derived.Test.YtidccfflpcgkiaaGreatDoorMShaWords
namespace Go.Proofs.YtidccfflpcgkiaaGreatDoor.tm
open Go.ChangeShapes Go.WideShapes Go.ChangeAt Go.RowKit Go.Proofs.YtidccfflpcgkiaaGreatDoor.common Go.Proofs.YtidccfflpcgkiaaGreatDoor.bk Go.Proofs.YtidccfflpcgkiaaGreatDoor.fd
attribute [local go_sem ↓] Go.wp_at_zero Go.wp_at_succ

end Go.Proofs.YtidccfflpcgkiaaGreatDoor.tm

namespace Go.Proofs.YtidccfflpcgkiaaGreatDoor.tm
open Go.ChangeShapes Go.WideShapes Go.ChangeAt Go.RowKit Go.Proofs.YtidccfflpcgkiaaGreatDoor.common Go.Proofs.YtidccfflpcgkiaaGreatDoor.bk
open Go.Proofs.YtidccfflpcgkiaaGreatDoor.fd (before behind cut_no cut_at)
attribute [local go_sem ↓] Go.wp_at_zero Go.wp_at_succ

/-- what the document asks of what stands ahead of the query -/
def baseR (b : List UInt8) : Bool := if mHttps.isPrefixOf b then webR hostR (b.drop 8) else if mHttp.isPrefixOf b then webR isLoc (b.drop 7) else privR b
theorem refL_is (l : List UInt8) : refL l = (decide (l.length ≤ 512) && (madeOf [47, 63] (behind 63 l) && baseR (before 63 l))) := rfl
theorem pre_len {p l : List UInt8} (h : p.isPrefixOf l = true) : p.length ≤ l.length := by
  have := congrArg List.length (pre_app h)
  rw [List.length_append] at this
  omega

end Go.Proofs.YtidccfflpcgkiaaGreatDoor.tm

namespace Go.Proofs.YtidccfflpcgkiaaGreatDoor.rc
open Go.ChangeShapes Go.WideShapes Go.ChangeAt Go.RowKit Go.Proofs.YtidccfflpcgkiaaGreatDoor.common Go.Proofs.YtidccfflpcgkiaaGreatDoor.bk Go.Proofs.YtidccfflpcgkiaaGreatDoor.ss
attribute [local go_sem ↓] Go.wp_at_zero Go.wp_at_succ

def eit (a b c : Bool) : Bool := if a then b else c
theorem scN_zero (s : ByteArray) : (tm.scN s = 0) ↔ (tm.areSc s && !tm.many s) = true := by
  unfold tm.scN
  cases tm.areSc s <;> cases tm.many s <;> simp
/-- the program's word for a scope, by what the document's Scopes answers -/
theorem oneSc_iff (s : ByteArray) : oneSc s = (decide (tm.scN s = 0) && decide (tm.scL s = [s])) := by
  unfold oneSc tm.scN
  cases tm.areSc s <;> cases tm.many s <;> simp
theorem fitL_yes {l : List ByteArray} (h0 : 0 < l.length) (h1 : l.length ≤ 16) (h2 : ∀ j (h : j < l.length), oneSc l[j] = true) (h3 : risB l = true) : fitL true l = true := by
  have h4 : (l.any fun s => !oneSc s) = false := by
    rw [List.any_eq_false]
    intro s hs
    obtain ⟨j, hj, rfl⟩ := List.mem_iff_getElem.1 hs
    simp [h2 j hj]
  simp [fitL, h0, h1, h3, h4]
theorem fitL_bad {l : List ByteArray} (j : Nat) (h : j < l.length) (h2 : oneSc l[j] = false) : fitL true l = false := by
  have h4 : (l.any fun s => !oneSc s) = true := List.any_eq_true.2 ⟨_, List.getElem_mem h, by simp [h2]⟩
  simp [fitL, h4]
theorem fitL_fall {l : List ByteArray} (h : risB l = false) : fitL true l = false := by simp [fitL, h]
theorem one_of {l : List ByteArray} (h : l.length = 1) : ∃ t, l = [t] := by
  cases l with
  | nil => cases h
  | cons a r =>
    cases r with
    | nil => exact ⟨a, rfl⟩
    | cons c r => simp at h
theorem wrap_sub (k m : Nat) (h : k = m + 1) (hk : k ≤ 4611686018427387904) : IntKind.i64.wrap ((k : Int) - 1) = (m : Int) := by rw [IntKind.wrap_i64]; omega

end Go.Proofs.YtidccfflpcgkiaaGreatDoor.rc
