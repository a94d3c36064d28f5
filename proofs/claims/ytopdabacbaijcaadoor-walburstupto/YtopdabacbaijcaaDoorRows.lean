/-
  NARROWER THAN 'FOR EVERY INPUT', by the rows' own cells (each row's printed sentence says how): WalTorn: laid · WalBurst: laid · WalTwice: laid.
  DERIVED. THE GIVEN ROWS OF THIS SEAT. 3 by the template 'for every input the law returns true; each argument reads behind the call as it read before'; 0 by the template 'total and deterministic' (their statements: YtopdabacbaijcaaDoorTotals.lean).
  GIVEN WITH THE SEED: the statements are not yours to turn. If you find one false, say at which input.
  Laid BY PROGRAM, IN A SANDBOX (cutbox-rows.mjs): the forced cells as the released guide's own fill.sh prints them over the translation 04540b97afbf52c3… (all of the seat's roots in one cut). By AI agents, Wed Nov 11 2026. No macro, syntax, notation, axiom, sorry.
-/
import Derived.Test.YtopdabacbaijcaaDoorChecked
import GoSem.Claim
import GoSem.ClaimJoined
import GoSem.ClaimMapViews
import Derived.JoinedTies
import Derived.KernelRfl
namespace Go.Proofs.YtopdabacbaijcaaDoor
/- THE CELL 'sum', in the pinned program and in every row, IS THE sha256 OF THE DUMP (.gsa) THAT YtopdabacbaijcaaDoorProg.lean LOADS. Nothing in Lean hashes anything: it is a label: what it is worth is what the hold of that sum in a sandbox is worth. -/
noncomputable def Tryd.pinned : Pinned := { name := "ytopdabacbaijcaadoor", sum := "04540b97afbf52c33aa851c2bb2d088e64e9069a8e6e26e7fcec7ebfd65efcbb", checked := Tryd.checked }
namespace Rows
def none {H : Type} : Left H := { results := [], args := [] }

/- WHAT THE LISTED PACKAGE-LEVEL VARIABLES READ AS WHEN THE CALL BEGINS. Each datum BY PROGRAM (the guide's laid-datum.mjs) off the statement by which the dump's own 'gosem.cut.vars' lays the variable. In a bare row this is a premise. The card (YtopdabacbaijcaaDoorCards.lean) ties it to the program's text. -/
def laid_usher_api_ErrArg {H : Type} : DataW H := .iface "*errors.errorString" (.ptr (.agg [.lit (.string [97, 114, 103, 117, 109, 101, 110, 116])]))
def laid_usher_sums_crcSteps {H : Type} : DataW H := .agg [.lit (.int .u32 0), .lit (.int .u32 498536548), .lit (.int .u32 997073096), .lit (.int .u32 651767980), .lit (.int .u32 1994146192), .lit (.int .u32 1802195444), .lit (.int .u32 1303535960), .lit (.int .u32 1342533948), .lit (.int .u32 3988292384), .lit (.int .u32 4027552580), .lit (.int .u32 3604390888), .lit (.int .u32 3412177804), .lit (.int .u32 2607071920), .lit (.int .u32 2262029012), .lit (.int .u32 2685067896), .lit (.int .u32 3183342108)]
def laid_usher_api_ErrDead {H : Type} : DataW H := .iface "*errors.errorString" (.ptr (.agg [.lit (.string [100, 101, 97, 100])]))

/-- 'usherlaw13.WalTorn': WHATEVER THE INPUT: true; the input reads as it did. -/
def walTornSpec : ChangeSpec := { name := "walTorn", fn := fun _ => fun
  | [d] => { results := [.lit (.bool true)], args := [d] }
  | _ => none }
def walTornRow : OpenClaim := { program := "ytopdabacbaijcaadoor", sum := "04540b97afbf52c33aa851c2bb2d088e64e9069a8e6e26e7fcec7ebfd65efcbb", func := "usher/usherlaw13.WalTorn", spec := "walTorn", unfollowed := true, recurses := true, named := ["usher/api.ErrArg", "usher/sums.crcSteps"], apart := false, laid := [("usher/api.ErrArg", laid_usher_api_ErrArg), ("usher/sums.crcSteps", laid_usher_sums_crcSteps)] }
def WalTornSaid : Prop := walTornRow.holds Tryd.pinned (OpenSpec.ofChange walTornSpec)

/-- ITS FALSE NEIGHBOUR: 'it returns false'. Refute it at one input. -/
def walTornWrong : ChangeSpec := { name := "walTorn", fn := fun _ => fun
  | [d] => { results := [.lit (.bool false)], args := [d] }
  | _ => none }
def WalTornWrongFalsely : Prop := walTornRow.holds Tryd.pinned (OpenSpec.ofChange walTornWrong)

/-- 'usherlaw13.WalBurst': WHATEVER THE INPUT: true; the input reads as it did. -/
def walBurstSpec : ChangeSpec := { name := "walBurst", fn := fun _ => fun
  | [d] => { results := [.lit (.bool true)], args := [d] }
  | _ => none }
def walBurstRow : OpenClaim := { program := "ytopdabacbaijcaadoor", sum := "04540b97afbf52c33aa851c2bb2d088e64e9069a8e6e26e7fcec7ebfd65efcbb", func := "usher/usherlaw13.WalBurst", spec := "walBurst", unfollowed := true, recurses := true, named := ["usher/api.ErrArg", "usher/sums.crcSteps"], apart := false, laid := [("usher/api.ErrArg", laid_usher_api_ErrArg), ("usher/sums.crcSteps", laid_usher_sums_crcSteps)] }
def WalBurstSaid : Prop := walBurstRow.holds Tryd.pinned (OpenSpec.ofChange walBurstSpec)

/-- ITS FALSE NEIGHBOUR: 'it returns false'. Refute it at one input. -/
def walBurstWrong : ChangeSpec := { name := "walBurst", fn := fun _ => fun
  | [d] => { results := [.lit (.bool false)], args := [d] }
  | _ => none }
def WalBurstWrongFalsely : Prop := walBurstRow.holds Tryd.pinned (OpenSpec.ofChange walBurstWrong)

/-- 'usherlaw13.WalTwice': WHATEVER THE INPUT: true; the input reads as it did. -/
def walTwiceSpec : ChangeSpec := { name := "walTwice", fn := fun _ => fun
  | [d] => { results := [.lit (.bool true)], args := [d] }
  | _ => none }
def walTwiceRow : OpenClaim := { program := "ytopdabacbaijcaadoor", sum := "04540b97afbf52c33aa851c2bb2d088e64e9069a8e6e26e7fcec7ebfd65efcbb", func := "usher/usherlaw13.WalTwice", spec := "walTwice", unfollowed := true, recurses := true, named := ["usher/api.ErrArg", "usher/sums.crcSteps", "usher/api.ErrDead"], apart := false, laid := [("usher/api.ErrArg", laid_usher_api_ErrArg), ("usher/api.ErrDead", laid_usher_api_ErrDead), ("usher/sums.crcSteps", laid_usher_sums_crcSteps)] }
def WalTwiceSaid : Prop := walTwiceRow.holds Tryd.pinned (OpenSpec.ofChange walTwiceSpec)

/-- ITS FALSE NEIGHBOUR: 'it returns false'. Refute it at one input. -/
def walTwiceWrong : ChangeSpec := { name := "walTwice", fn := fun _ => fun
  | [d] => { results := [.lit (.bool false)], args := [d] }
  | _ => none }
def WalTwiceWrongFalsely : Prop := walTwiceRow.holds Tryd.pinned (OpenSpec.ofChange walTwiceWrong)

/- THE SECOND FORM. 'bulk': how many values and letters a reading holds, each counted each time it is reached (what is shared counts as often as it is met; a slice's spare places count too). A statement '..UptoSaid' is the law's where the arguments, and the package variables that the reading takes, are together of bulk at most 1048576: NARROWER than '..Said'. Prove '..Said' where nothing that the law and all that it calls make is longer than what came in: it says more and counts as full. Else prove '..UptoSaid'. A law counts once. -/
mutual
def uptoBulk {H : Type} : DataW H → Nat
  | .lit (.string bytes) => bytes.length + 1
  | .lit _ => 1
  | .nil => 1
  | .ptr d => uptoBulk d + 1
  | .slice elems spare => uptoBulkAll elems + uptoBulkAll spare + 1
  | .agg parts => uptoBulkAll parts + 1
  | .iface _ d => uptoBulk d + 1
  | .map entries => uptoBulkEntries entries + 1
  | .held _ => 1
def uptoBulkAll {H : Type} : List (DataW H) → Nat
  | [] => 0
  | d :: r => uptoBulk d + uptoBulkAll r
def uptoBulkEntries {H : Type} : List (Lit × DataW H) → Nat
  | [] => 0
  | x :: r => uptoBulkEntry x + uptoBulkEntries r
def uptoBulkEntry {H : Type} : Lit × DataW H → Nat
  | (.string bytes, d) => bytes.length + uptoBulk d + 1
  | (_, d) => uptoBulk d + 1
 end
def uptoSmall : (H : Type) → List (DataW H) → Bool := fun _ ds => decide (uptoBulkAll ds ≤ 1048576)
def OpenSpec.upto (s : _root_.Go.ChangeSpec) : _root_.Go.OpenSpec := { _root_.Go.OpenSpec.ofChange s with cond := some uptoSmall }

/-- 'usherlaw13.WalTorn', WHERE WHAT IT READS IS OF BULK AT MOST 1048576: true; the input reads as it did. -/
def walTornUptoRow : OpenClaim := { program := "ytopdabacbaijcaadoor", sum := "04540b97afbf52c33aa851c2bb2d088e64e9069a8e6e26e7fcec7ebfd65efcbb", func := "usher/usherlaw13.WalTorn", spec := "walTorn", unfollowed := true, recurses := true, named := ["usher/api.ErrArg", "usher/sums.crcSteps"], apart := false, laid := [("usher/api.ErrArg", laid_usher_api_ErrArg), ("usher/sums.crcSteps", laid_usher_sums_crcSteps)], narrowed := true }
def WalTornUptoSaid : Prop := walTornUptoRow.holds Tryd.pinned (OpenSpec.upto walTornSpec)

/-- 'usherlaw13.WalBurst', WHERE WHAT IT READS IS OF BULK AT MOST 1048576: true; the input reads as it did. -/
def walBurstUptoRow : OpenClaim := { program := "ytopdabacbaijcaadoor", sum := "04540b97afbf52c33aa851c2bb2d088e64e9069a8e6e26e7fcec7ebfd65efcbb", func := "usher/usherlaw13.WalBurst", spec := "walBurst", unfollowed := true, recurses := true, named := ["usher/api.ErrArg", "usher/sums.crcSteps"], apart := false, laid := [("usher/api.ErrArg", laid_usher_api_ErrArg), ("usher/sums.crcSteps", laid_usher_sums_crcSteps)], narrowed := true }
def WalBurstUptoSaid : Prop := walBurstUptoRow.holds Tryd.pinned (OpenSpec.upto walBurstSpec)

/-- 'usherlaw13.WalTwice', WHERE WHAT IT READS IS OF BULK AT MOST 1048576: true; the input reads as it did. -/
def walTwiceUptoRow : OpenClaim := { program := "ytopdabacbaijcaadoor", sum := "04540b97afbf52c33aa851c2bb2d088e64e9069a8e6e26e7fcec7ebfd65efcbb", func := "usher/usherlaw13.WalTwice", spec := "walTwice", unfollowed := true, recurses := true, named := ["usher/api.ErrArg", "usher/sums.crcSteps", "usher/api.ErrDead"], apart := false, laid := [("usher/api.ErrArg", laid_usher_api_ErrArg), ("usher/api.ErrDead", laid_usher_api_ErrDead), ("usher/sums.crcSteps", laid_usher_sums_crcSteps)], narrowed := true }
def WalTwiceUptoSaid : Prop := walTwiceUptoRow.holds Tryd.pinned (OpenSpec.upto walTwiceSpec)

end Rows
end Go.Proofs.YtopdabacbaijcaaDoor
