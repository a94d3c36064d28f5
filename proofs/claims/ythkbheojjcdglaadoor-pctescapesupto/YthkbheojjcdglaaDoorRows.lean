/-
  NARROWER THAN 'FOR EVERY INPUT', by the rows' own cells (each row's printed sentence says how): PctRefuses: laid · PctCase: laid · PctUnescapes: laid · PctShape: laid · PctBack: laid · PctEscapes: laid.
  DERIVED. THE GIVEN ROWS OF THIS SEAT. 6 by the template 'for every input the law returns true; each argument reads behind the call as it read before'; 0 by the template 'total and deterministic' (their statements: YthkbheojjcdglaaDoorTotals.lean).
  GIVEN WITH THE SEED: the statements are not yours to turn. If you find one false, say at which input.
  Laid BY PROGRAM, IN A SANDBOX (cutbox-rows.mjs): the forced cells as the released guide's own fill.sh prints them over the translation 4a77dd2c699adc63… (all of the seat's roots in one cut). By AI agents, Wed Nov 11 2026. No macro, syntax, notation, axiom, sorry.
-/
import Derived.Test.YthkbheojjcdglaaDoorChecked
import GoSem.Claim
import GoSem.ClaimJoined
import GoSem.ClaimMapViews
import Derived.JoinedTies
import Derived.KernelRfl
namespace Go.Proofs.YthkbheojjcdglaaDoor
/- THE CELL 'sum', in the pinned program and in every row, IS THE sha256 OF THE DUMP (.gsa) THAT YthkbheojjcdglaaDoorProg.lean LOADS. Nothing in Lean hashes anything: it is a label: what it is worth is what the hold of that sum in a sandbox is worth. -/
noncomputable def Tryd.pinned : Pinned := { name := "ythkbheojjcdglaadoor", sum := "4a77dd2c699adc637f1b3d328221a28c0faca8b3b22249f85ab3095b293f900f", checked := Tryd.checked }
namespace Rows
def none {H : Type} : Left H := { results := [], args := [] }

/- WHAT THE LISTED PACKAGE-LEVEL VARIABLES READ AS WHEN THE CALL BEGINS. Each datum BY PROGRAM (the guide's laid-datum.mjs) off the statement by which the dump's own 'gosem.cut.vars' lays the variable. In a bare row this is a premise. The card (YthkbheojjcdglaaDoorCards.lean) ties it to the program's text. -/
def laid_usher_api_ErrText {H : Type} : DataW H := .iface "*errors.errorString" (.ptr (.agg [.lit (.string [116, 101, 120, 116])]))
def laid_usher_api_ErrArg {H : Type} : DataW H := .iface "*errors.errorString" (.ptr (.agg [.lit (.string [97, 114, 103, 117, 109, 101, 110, 116])]))
def laid_usher_api_ErrMany {H : Type} : DataW H := .iface "*errors.errorString" (.ptr (.agg [.lit (.string [109, 97, 110, 121])]))
def laid_usher_api_ErrTwice {H : Type} : DataW H := .iface "*errors.errorString" (.ptr (.agg [.lit (.string [116, 119, 105, 99, 101])]))
def laid_usher_api_ErrScheme {H : Type} : DataW H := .iface "*errors.errorString" (.ptr (.agg [.lit (.string [115, 99, 104, 101, 109, 101])]))
def laid_usher_api_ErrShort {H : Type} : DataW H := .iface "*errors.errorString" (.ptr (.agg [.lit (.string [115, 104, 111, 114, 116])]))
def laid_usher_api_ErrDry {H : Type} : DataW H := .iface "*errors.errorString" (.ptr (.agg [.lit (.string [100, 114, 121])]))
def laid_usher_api_ErrTaken {H : Type} : DataW H := .iface "*errors.errorString" (.ptr (.agg [.lit (.string [116, 97, 107, 101, 110])]))
def laid_usher_api_ErrFull {H : Type} : DataW H := .iface "*errors.errorString" (.ptr (.agg [.lit (.string [102, 117, 108, 108])]))
def laid_usher_api_ErrDead {H : Type} : DataW H := .iface "*errors.errorString" (.ptr (.agg [.lit (.string [100, 101, 97, 100])]))
def laid_usher_api_ErrLog {H : Type} : DataW H := .iface "*errors.errorString" (.ptr (.agg [.lit (.string [108, 111, 103])]))
def laid_usher_api_ErrLost {H : Type} : DataW H := .iface "*errors.errorString" (.ptr (.agg [.lit (.string [108, 111, 115, 116])]))
def laid_usher_api_ErrDenied {H : Type} : DataW H := .iface "*errors.errorString" (.ptr (.agg [.lit (.string [100, 101, 110, 105, 101, 100])]))
def laid_usher_pct_unreserved {H : Type} : DataW H := .agg [.lit (.int .u64 288054454291267584), .lit (.int .u64 5188146764422578174), .lit (.int .u64 0), .lit (.int .u64 0)]

/-- 'usherlaw3.PctRefuses': WHATEVER THE INPUT: true; the input reads as it did. -/
def pctRefusesSpec : ChangeSpec := { name := "pctRefuses", fn := fun _ => fun
  | [d] => { results := [.lit (.bool true)], args := [d] }
  | _ => none }
def pctRefusesRow : OpenClaim := { program := "ythkbheojjcdglaadoor", sum := "4a77dd2c699adc637f1b3d328221a28c0faca8b3b22249f85ab3095b293f900f", func := "usher/usherlaw3.PctRefuses", spec := "pctRefuses", named := ["usher/api.ErrText"], apart := false, laid := [("usher/api.ErrText", laid_usher_api_ErrText)] }
def PctRefusesSaid : Prop := pctRefusesRow.holds Tryd.pinned (OpenSpec.ofChange pctRefusesSpec)

/-- ITS FALSE NEIGHBOUR: 'it returns false'. Refute it at one input. -/
def pctRefusesWrong : ChangeSpec := { name := "pctRefuses", fn := fun _ => fun
  | [d] => { results := [.lit (.bool false)], args := [d] }
  | _ => none }
def PctRefusesWrongFalsely : Prop := pctRefusesRow.holds Tryd.pinned (OpenSpec.ofChange pctRefusesWrong)

/-- 'usherlaw3.PctCase': WHATEVER THE INPUT: true; the input reads as it did. -/
def pctCaseSpec : ChangeSpec := { name := "pctCase", fn := fun _ => fun
  | [d] => { results := [.lit (.bool true)], args := [d] }
  | _ => none }
def pctCaseRow : OpenClaim := { program := "ythkbheojjcdglaadoor", sum := "4a77dd2c699adc637f1b3d328221a28c0faca8b3b22249f85ab3095b293f900f", func := "usher/usherlaw3.PctCase", spec := "pctCase", named := ["usher/api.ErrText", "usher/api.ErrArg", "usher/api.ErrMany", "usher/api.ErrTwice", "usher/api.ErrScheme", "usher/api.ErrShort", "usher/api.ErrDry", "usher/api.ErrTaken", "usher/api.ErrFull", "usher/api.ErrDead", "usher/api.ErrLog", "usher/api.ErrLost", "usher/api.ErrDenied"], apart := false, laid := [("usher/api.ErrArg", laid_usher_api_ErrArg), ("usher/api.ErrText", laid_usher_api_ErrText), ("usher/api.ErrMany", laid_usher_api_ErrMany), ("usher/api.ErrTwice", laid_usher_api_ErrTwice), ("usher/api.ErrScheme", laid_usher_api_ErrScheme), ("usher/api.ErrShort", laid_usher_api_ErrShort), ("usher/api.ErrDry", laid_usher_api_ErrDry), ("usher/api.ErrTaken", laid_usher_api_ErrTaken), ("usher/api.ErrFull", laid_usher_api_ErrFull), ("usher/api.ErrDead", laid_usher_api_ErrDead), ("usher/api.ErrLog", laid_usher_api_ErrLog), ("usher/api.ErrLost", laid_usher_api_ErrLost), ("usher/api.ErrDenied", laid_usher_api_ErrDenied)] }
def PctCaseSaid : Prop := pctCaseRow.holds Tryd.pinned (OpenSpec.ofChange pctCaseSpec)

/-- ITS FALSE NEIGHBOUR: 'it returns false'. Refute it at one input. -/
def pctCaseWrong : ChangeSpec := { name := "pctCase", fn := fun _ => fun
  | [d] => { results := [.lit (.bool false)], args := [d] }
  | _ => none }
def PctCaseWrongFalsely : Prop := pctCaseRow.holds Tryd.pinned (OpenSpec.ofChange pctCaseWrong)

/-- 'usherlaw3.PctUnescapes': WHATEVER THE INPUT: true; the input reads as it did. -/
def pctUnescapesSpec : ChangeSpec := { name := "pctUnescapes", fn := fun _ => fun
  | [d] => { results := [.lit (.bool true)], args := [d] }
  | _ => none }
def pctUnescapesRow : OpenClaim := { program := "ythkbheojjcdglaadoor", sum := "4a77dd2c699adc637f1b3d328221a28c0faca8b3b22249f85ab3095b293f900f", func := "usher/usherlaw3.PctUnescapes", spec := "pctUnescapes", named := ["usher/api.ErrText", "usher/api.ErrArg", "usher/api.ErrMany", "usher/api.ErrTwice", "usher/api.ErrScheme", "usher/api.ErrShort", "usher/api.ErrDry", "usher/api.ErrTaken", "usher/api.ErrFull", "usher/api.ErrDead", "usher/api.ErrLog", "usher/api.ErrLost", "usher/api.ErrDenied"], apart := false, laid := [("usher/api.ErrArg", laid_usher_api_ErrArg), ("usher/api.ErrText", laid_usher_api_ErrText), ("usher/api.ErrMany", laid_usher_api_ErrMany), ("usher/api.ErrTwice", laid_usher_api_ErrTwice), ("usher/api.ErrScheme", laid_usher_api_ErrScheme), ("usher/api.ErrShort", laid_usher_api_ErrShort), ("usher/api.ErrDry", laid_usher_api_ErrDry), ("usher/api.ErrTaken", laid_usher_api_ErrTaken), ("usher/api.ErrFull", laid_usher_api_ErrFull), ("usher/api.ErrDead", laid_usher_api_ErrDead), ("usher/api.ErrLog", laid_usher_api_ErrLog), ("usher/api.ErrLost", laid_usher_api_ErrLost), ("usher/api.ErrDenied", laid_usher_api_ErrDenied)] }
def PctUnescapesSaid : Prop := pctUnescapesRow.holds Tryd.pinned (OpenSpec.ofChange pctUnescapesSpec)

/-- ITS FALSE NEIGHBOUR: 'it returns false'. Refute it at one input. -/
def pctUnescapesWrong : ChangeSpec := { name := "pctUnescapes", fn := fun _ => fun
  | [d] => { results := [.lit (.bool false)], args := [d] }
  | _ => none }
def PctUnescapesWrongFalsely : Prop := pctUnescapesRow.holds Tryd.pinned (OpenSpec.ofChange pctUnescapesWrong)

/-- 'usherlaw3.PctShape': WHATEVER THE INPUT: true; the input reads as it did. -/
def pctShapeSpec : ChangeSpec := { name := "pctShape", fn := fun _ => fun
  | [d] => { results := [.lit (.bool true)], args := [d] }
  | _ => none }
def pctShapeRow : OpenClaim := { program := "ythkbheojjcdglaadoor", sum := "4a77dd2c699adc637f1b3d328221a28c0faca8b3b22249f85ab3095b293f900f", func := "usher/usherlaw3.PctShape", spec := "pctShape", named := ["usher/pct.unreserved"], apart := false, laid := [("usher/pct.unreserved", laid_usher_pct_unreserved)] }
def PctShapeSaid : Prop := pctShapeRow.holds Tryd.pinned (OpenSpec.ofChange pctShapeSpec)

/-- ITS FALSE NEIGHBOUR: 'it returns false'. Refute it at one input. -/
def pctShapeWrong : ChangeSpec := { name := "pctShape", fn := fun _ => fun
  | [d] => { results := [.lit (.bool false)], args := [d] }
  | _ => none }
def PctShapeWrongFalsely : Prop := pctShapeRow.holds Tryd.pinned (OpenSpec.ofChange pctShapeWrong)

/-- 'usherlaw3.PctBack': WHATEVER THE INPUT: true; the input reads as it did. -/
def pctBackSpec : ChangeSpec := { name := "pctBack", fn := fun _ => fun
  | [d] => { results := [.lit (.bool true)], args := [d] }
  | _ => none }
def pctBackRow : OpenClaim := { program := "ythkbheojjcdglaadoor", sum := "4a77dd2c699adc637f1b3d328221a28c0faca8b3b22249f85ab3095b293f900f", func := "usher/usherlaw3.PctBack", spec := "pctBack", named := ["usher/pct.unreserved", "usher/api.ErrText"], apart := false, laid := [("usher/api.ErrText", laid_usher_api_ErrText), ("usher/pct.unreserved", laid_usher_pct_unreserved)] }
def PctBackSaid : Prop := pctBackRow.holds Tryd.pinned (OpenSpec.ofChange pctBackSpec)

/-- ITS FALSE NEIGHBOUR: 'it returns false'. Refute it at one input. -/
def pctBackWrong : ChangeSpec := { name := "pctBack", fn := fun _ => fun
  | [d] => { results := [.lit (.bool false)], args := [d] }
  | _ => none }
def PctBackWrongFalsely : Prop := pctBackRow.holds Tryd.pinned (OpenSpec.ofChange pctBackWrong)

/-- 'usherlaw3.PctEscapes': WHATEVER THE INPUT: true; the input reads as it did. -/
def pctEscapesSpec : ChangeSpec := { name := "pctEscapes", fn := fun _ => fun
  | [d] => { results := [.lit (.bool true)], args := [d] }
  | _ => none }
def pctEscapesRow : OpenClaim := { program := "ythkbheojjcdglaadoor", sum := "4a77dd2c699adc637f1b3d328221a28c0faca8b3b22249f85ab3095b293f900f", func := "usher/usherlaw3.PctEscapes", spec := "pctEscapes", named := ["usher/pct.unreserved"], apart := false, laid := [("usher/pct.unreserved", laid_usher_pct_unreserved)] }
def PctEscapesSaid : Prop := pctEscapesRow.holds Tryd.pinned (OpenSpec.ofChange pctEscapesSpec)

/-- ITS FALSE NEIGHBOUR: 'it returns false'. Refute it at one input. -/
def pctEscapesWrong : ChangeSpec := { name := "pctEscapes", fn := fun _ => fun
  | [d] => { results := [.lit (.bool false)], args := [d] }
  | _ => none }
def PctEscapesWrongFalsely : Prop := pctEscapesRow.holds Tryd.pinned (OpenSpec.ofChange pctEscapesWrong)

/- THE SECOND FORM. 'bulk': how many values and letters a reading holds, each counted each time it is reached (what is shared counts as often as it is met; a slice's spare places count too). A statement '..UptoSaid' is the law's where the arguments, and the package variables that the reading takes, are together of bulk at most 1048576: NARROWER than '..Said'. Prove '..Said' where nothing that the law and all that it calls make is longer than what came in: it says more and counts as full. Else prove '..UptoSaid'. A law counts once. -/
mutual
def uptoBulk {H : Type} : DataW H → Nat
  | .lit (.string bytes) => bytes.length + 1
  | .lit _ => 1
  | .nil => 1
  | .ptr d => uptoBulk d + 1
  | .slice elems spare => uptoBulkAll elems + uptoBulkAll spare + 1
  | .agg parts => uptoBulkAll parts + 1
  | .iface _ d => uptoBulk d + 1
  | .map entries => uptoBulkEntries entries + 1
  | .held _ => 1
def uptoBulkAll {H : Type} : List (DataW H) → Nat
  | [] => 0
  | d :: r => uptoBulk d + uptoBulkAll r
def uptoBulkEntries {H : Type} : List (Lit × DataW H) → Nat
  | [] => 0
  | x :: r => uptoBulkEntry x + uptoBulkEntries r
def uptoBulkEntry {H : Type} : Lit × DataW H → Nat
  | (.string bytes, d) => bytes.length + uptoBulk d + 1
  | (_, d) => uptoBulk d + 1
 end
def uptoSmall : (H : Type) → List (DataW H) → Bool := fun _ ds => decide (uptoBulkAll ds ≤ 1048576)
def OpenSpec.upto (s : _root_.Go.ChangeSpec) : _root_.Go.OpenSpec := { _root_.Go.OpenSpec.ofChange s with cond := some uptoSmall }

/-- 'usherlaw3.PctRefuses', WHERE WHAT IT READS IS OF BULK AT MOST 1048576: true; the input reads as it did. -/
def pctRefusesUptoRow : OpenClaim := { program := "ythkbheojjcdglaadoor", sum := "4a77dd2c699adc637f1b3d328221a28c0faca8b3b22249f85ab3095b293f900f", func := "usher/usherlaw3.PctRefuses", spec := "pctRefuses", named := ["usher/api.ErrText"], apart := false, laid := [("usher/api.ErrText", laid_usher_api_ErrText)], narrowed := true }
def PctRefusesUptoSaid : Prop := pctRefusesUptoRow.holds Tryd.pinned (OpenSpec.upto pctRefusesSpec)

/-- 'usherlaw3.PctCase', WHERE WHAT IT READS IS OF BULK AT MOST 1048576: true; the input reads as it did. -/
def pctCaseUptoRow : OpenClaim := { program := "ythkbheojjcdglaadoor", sum := "4a77dd2c699adc637f1b3d328221a28c0faca8b3b22249f85ab3095b293f900f", func := "usher/usherlaw3.PctCase", spec := "pctCase", named := ["usher/api.ErrText", "usher/api.ErrArg", "usher/api.ErrMany", "usher/api.ErrTwice", "usher/api.ErrScheme", "usher/api.ErrShort", "usher/api.ErrDry", "usher/api.ErrTaken", "usher/api.ErrFull", "usher/api.ErrDead", "usher/api.ErrLog", "usher/api.ErrLost", "usher/api.ErrDenied"], apart := false, laid := [("usher/api.ErrArg", laid_usher_api_ErrArg), ("usher/api.ErrText", laid_usher_api_ErrText), ("usher/api.ErrMany", laid_usher_api_ErrMany), ("usher/api.ErrTwice", laid_usher_api_ErrTwice), ("usher/api.ErrScheme", laid_usher_api_ErrScheme), ("usher/api.ErrShort", laid_usher_api_ErrShort), ("usher/api.ErrDry", laid_usher_api_ErrDry), ("usher/api.ErrTaken", laid_usher_api_ErrTaken), ("usher/api.ErrFull", laid_usher_api_ErrFull), ("usher/api.ErrDead", laid_usher_api_ErrDead), ("usher/api.ErrLog", laid_usher_api_ErrLog), ("usher/api.ErrLost", laid_usher_api_ErrLost), ("usher/api.ErrDenied", laid_usher_api_ErrDenied)], narrowed := true }
def PctCaseUptoSaid : Prop := pctCaseUptoRow.holds Tryd.pinned (OpenSpec.upto pctCaseSpec)

/-- 'usherlaw3.PctUnescapes', WHERE WHAT IT READS IS OF BULK AT MOST 1048576: true; the input reads as it did. -/
def pctUnescapesUptoRow : OpenClaim := { program := "ythkbheojjcdglaadoor", sum := "4a77dd2c699adc637f1b3d328221a28c0faca8b3b22249f85ab3095b293f900f", func := "usher/usherlaw3.PctUnescapes", spec := "pctUnescapes", named := ["usher/api.ErrText", "usher/api.ErrArg", "usher/api.ErrMany", "usher/api.ErrTwice", "usher/api.ErrScheme", "usher/api.ErrShort", "usher/api.ErrDry", "usher/api.ErrTaken", "usher/api.ErrFull", "usher/api.ErrDead", "usher/api.ErrLog", "usher/api.ErrLost", "usher/api.ErrDenied"], apart := false, laid := [("usher/api.ErrArg", laid_usher_api_ErrArg), ("usher/api.ErrText", laid_usher_api_ErrText), ("usher/api.ErrMany", laid_usher_api_ErrMany), ("usher/api.ErrTwice", laid_usher_api_ErrTwice), ("usher/api.ErrScheme", laid_usher_api_ErrScheme), ("usher/api.ErrShort", laid_usher_api_ErrShort), ("usher/api.ErrDry", laid_usher_api_ErrDry), ("usher/api.ErrTaken", laid_usher_api_ErrTaken), ("usher/api.ErrFull", laid_usher_api_ErrFull), ("usher/api.ErrDead", laid_usher_api_ErrDead), ("usher/api.ErrLog", laid_usher_api_ErrLog), ("usher/api.ErrLost", laid_usher_api_ErrLost), ("usher/api.ErrDenied", laid_usher_api_ErrDenied)], narrowed := true }
def PctUnescapesUptoSaid : Prop := pctUnescapesUptoRow.holds Tryd.pinned (OpenSpec.upto pctUnescapesSpec)

/-- 'usherlaw3.PctShape', WHERE WHAT IT READS IS OF BULK AT MOST 1048576: true; the input reads as it did. -/
def pctShapeUptoRow : OpenClaim := { program := "ythkbheojjcdglaadoor", sum := "4a77dd2c699adc637f1b3d328221a28c0faca8b3b22249f85ab3095b293f900f", func := "usher/usherlaw3.PctShape", spec := "pctShape", named := ["usher/pct.unreserved"], apart := false, laid := [("usher/pct.unreserved", laid_usher_pct_unreserved)], narrowed := true }
def PctShapeUptoSaid : Prop := pctShapeUptoRow.holds Tryd.pinned (OpenSpec.upto pctShapeSpec)

/-- 'usherlaw3.PctBack', WHERE WHAT IT READS IS OF BULK AT MOST 1048576: true; the input reads as it did. -/
def pctBackUptoRow : OpenClaim := { program := "ythkbheojjcdglaadoor", sum := "4a77dd2c699adc637f1b3d328221a28c0faca8b3b22249f85ab3095b293f900f", func := "usher/usherlaw3.PctBack", spec := "pctBack", named := ["usher/pct.unreserved", "usher/api.ErrText"], apart := false, laid := [("usher/api.ErrText", laid_usher_api_ErrText), ("usher/pct.unreserved", laid_usher_pct_unreserved)], narrowed := true }
def PctBackUptoSaid : Prop := pctBackUptoRow.holds Tryd.pinned (OpenSpec.upto pctBackSpec)

/-- 'usherlaw3.PctEscapes', WHERE WHAT IT READS IS OF BULK AT MOST 1048576: true; the input reads as it did. -/
def pctEscapesUptoRow : OpenClaim := { program := "ythkbheojjcdglaadoor", sum := "4a77dd2c699adc637f1b3d328221a28c0faca8b3b22249f85ab3095b293f900f", func := "usher/usherlaw3.PctEscapes", spec := "pctEscapes", named := ["usher/pct.unreserved"], apart := false, laid := [("usher/pct.unreserved", laid_usher_pct_unreserved)], narrowed := true }
def PctEscapesUptoSaid : Prop := pctEscapesUptoRow.holds Tryd.pinned (OpenSpec.upto pctEscapesSpec)

end Rows
end Go.Proofs.YthkbheojjcdglaaDoor
