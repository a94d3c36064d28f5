/-
  NARROWER THAN 'FOR EVERY INPUT', by the rows' own cells (each row's printed sentence says how): PctForms: laid · PctJoin: laid · PctFormBack: laid · PctOnce: laid · PctPairs: laid.
  DERIVED. THE GIVEN ROWS OF THIS SEAT. 5 by the template 'for every input the law returns true; each argument reads behind the call as it read before'; 0 by the template 'total and deterministic' (their statements: YthkbheojjcdglabDoorTotals.lean).
  GIVEN WITH THE SEED: the statements are not yours to turn. If you find one false, say at which input.
  Laid BY PROGRAM, IN A SANDBOX (cutbox-rows.mjs): the forced cells as the released guide's own fill.sh prints them over the translation c812f1295e8eec14… (all of the seat's roots in one cut). By AI agents, Wed Nov 11 2026. No macro, syntax, notation, axiom, sorry.
-/
import Derived.Test.YthkbheojjcdglabDoorChecked
import GoSem.PinnedTables
import GoSem.Claim
import GoSem.ClaimJoined
import GoSem.ClaimMapViews
import Derived.JoinedTies
import Derived.KernelRfl
namespace Go.Proofs.YthkbheojjcdglabDoor
/- THE CELL 'sum', in the pinned program and in every row, IS THE sha256 OF THE DUMP (.gsa) THAT YthkbheojjcdglabDoorProg.lean LOADS. Nothing in Lean hashes anything: it is a label: what it is worth is what the hold of that sum in a sandbox is worth. -/
noncomputable def Tryd.pinned : Pinned := { name := "ythkbheojjcdglabdoor", sum := "c812f1295e8eec14e7ca11d9e3ec58b9655cc45e26343398951bd6f846748163", checked := Tryd.checked }
namespace Rows
def none {H : Type} : Left H := { results := [], args := [] }

/- WHAT THE LISTED PACKAGE-LEVEL VARIABLES READ AS WHEN THE CALL BEGINS. Each datum BY PROGRAM (the guide's laid-datum.mjs) off the statement by which the dump's own 'gosem.cut.vars' lays the variable. In a bare row this is a premise. The card (YthkbheojjcdglabDoorCards.lean) ties it to the program's text. -/
def laid_usher_pct_unreserved {H : Type} : DataW H := .agg [.lit (.int .u64 288054454291267584), .lit (.int .u64 5188146764422578174), .lit (.int .u64 0), .lit (.int .u64 0)]
def laid_unicode_utf8_acceptRanges {H : Type} : DataW H := .agg [.agg [.lit (.int .u8 128), .lit (.int .u8 191)], .agg [.lit (.int .u8 160), .lit (.int .u8 191)], .agg [.lit (.int .u8 128), .lit (.int .u8 159)], .agg [.lit (.int .u8 144), .lit (.int .u8 191)], .agg [.lit (.int .u8 128), .lit (.int .u8 143)], .agg [.lit (.int .u8 0), .lit (.int .u8 0)], .agg [.lit (.int .u8 0), .lit (.int .u8 0)], .agg [.lit (.int .u8 0), .lit (.int .u8 0)], .agg [.lit (.int .u8 0), .lit (.int .u8 0)], .agg [.lit (.int .u8 0), .lit (.int .u8 0)], .agg [.lit (.int .u8 0), .lit (.int .u8 0)], .agg [.lit (.int .u8 0), .lit (.int .u8 0)], .agg [.lit (.int .u8 0), .lit (.int .u8 0)], .agg [.lit (.int .u8 0), .lit (.int .u8 0)], .agg [.lit (.int .u8 0), .lit (.int .u8 0)], .agg [.lit (.int .u8 0), .lit (.int .u8 0)]]
def laid_usher_api_ErrText {H : Type} : DataW H := .iface "*errors.errorString" (.ptr (.agg [.lit (.string [116, 101, 120, 116])]))
def laid_usher_api_ErrMany {H : Type} : DataW H := .iface "*errors.errorString" (.ptr (.agg [.lit (.string [109, 97, 110, 121])]))
/-- One of Go's own tables, pinned by name: the form's constant. -/
def laid_unicode_utf8_first : DataW Unit := Go.Pinned.utf8First
def laid_usher_api_ErrArg {H : Type} : DataW H := .iface "*errors.errorString" (.ptr (.agg [.lit (.string [97, 114, 103, 117, 109, 101, 110, 116])]))
def laid_usher_api_ErrTwice {H : Type} : DataW H := .iface "*errors.errorString" (.ptr (.agg [.lit (.string [116, 119, 105, 99, 101])]))
def laid_usher_api_ErrScheme {H : Type} : DataW H := .iface "*errors.errorString" (.ptr (.agg [.lit (.string [115, 99, 104, 101, 109, 101])]))
def laid_usher_api_ErrShort {H : Type} : DataW H := .iface "*errors.errorString" (.ptr (.agg [.lit (.string [115, 104, 111, 114, 116])]))
def laid_usher_api_ErrDry {H : Type} : DataW H := .iface "*errors.errorString" (.ptr (.agg [.lit (.string [100, 114, 121])]))
def laid_usher_api_ErrTaken {H : Type} : DataW H := .iface "*errors.errorString" (.ptr (.agg [.lit (.string [116, 97, 107, 101, 110])]))
def laid_usher_api_ErrFull {H : Type} : DataW H := .iface "*errors.errorString" (.ptr (.agg [.lit (.string [102, 117, 108, 108])]))
def laid_usher_api_ErrDead {H : Type} : DataW H := .iface "*errors.errorString" (.ptr (.agg [.lit (.string [100, 101, 97, 100])]))
def laid_usher_api_ErrLog {H : Type} : DataW H := .iface "*errors.errorString" (.ptr (.agg [.lit (.string [108, 111, 103])]))
def laid_usher_api_ErrLost {H : Type} : DataW H := .iface "*errors.errorString" (.ptr (.agg [.lit (.string [108, 111, 115, 116])]))
def laid_usher_api_ErrDenied {H : Type} : DataW H := .iface "*errors.errorString" (.ptr (.agg [.lit (.string [100, 101, 110, 105, 101, 100])]))

/-- 'usherlaw3.PctForms': WHATEVER THE INPUT: true; the input reads as it did. -/
def pctFormsSpec : ChangeSpec := { name := "pctForms", fn := fun _ => fun
  | [d] => { results := [.lit (.bool true)], args := [d] }
  | _ => none }
def pctFormsRow : OpenClaim := { program := "ythkbheojjcdglabdoor", sum := "c812f1295e8eec14e7ca11d9e3ec58b9655cc45e26343398951bd6f846748163", func := "usher/usherlaw3.PctForms", spec := "pctForms", named := ["usher/pct.unreserved"], apart := false, laid := [("usher/pct.unreserved", laid_usher_pct_unreserved)] }
def PctFormsSaid : Prop := pctFormsRow.holds Tryd.pinned (OpenSpec.ofChange pctFormsSpec)

/-- ITS FALSE NEIGHBOUR: 'it returns false'. Refute it at one input. -/
def pctFormsWrong : ChangeSpec := { name := "pctForms", fn := fun _ => fun
  | [d] => { results := [.lit (.bool false)], args := [d] }
  | _ => none }
def PctFormsWrongFalsely : Prop := pctFormsRow.holds Tryd.pinned (OpenSpec.ofChange pctFormsWrong)

/-- 'usherlaw3.PctJoin': WHATEVER THE INPUT: true; the input reads as it did. -/
def pctJoinSpec : ChangeSpec := { name := "pctJoin", fn := fun _ => fun
  | [d] => { results := [.lit (.bool true)], args := [d] }
  | _ => none }
def pctJoinRow : OpenClaim := { program := "ythkbheojjcdglabdoor", sum := "c812f1295e8eec14e7ca11d9e3ec58b9655cc45e26343398951bd6f846748163", func := "usher/usherlaw3.PctJoin", spec := "pctJoin", inPlace := ["internal/bytealg.IndexByteString", "internal/bytealg.IndexString"], unfollowed := true, recurses := true, named := ["usher/api.ErrMany", "usher/api.ErrText", "unicode/utf8.first", "unicode/utf8.acceptRanges", "internal/bytealg.MaxLen"], apart := false, laid := [("unicode/utf8.acceptRanges", laid_unicode_utf8_acceptRanges), ("usher/api.ErrText", laid_usher_api_ErrText), ("usher/api.ErrMany", laid_usher_api_ErrMany), ("unicode/utf8.first", laid_unicode_utf8_first)] }
def PctJoinSaid : Prop := pctJoinRow.holds Tryd.pinned (OpenSpec.ofChange pctJoinSpec)

/-- ITS FALSE NEIGHBOUR: 'it returns false'. Refute it at one input. -/
def pctJoinWrong : ChangeSpec := { name := "pctJoin", fn := fun _ => fun
  | [d] => { results := [.lit (.bool false)], args := [d] }
  | _ => none }
def PctJoinWrongFalsely : Prop := pctJoinRow.holds Tryd.pinned (OpenSpec.ofChange pctJoinWrong)

/-- 'usherlaw3.PctFormBack': WHATEVER THE INPUT: true; the input reads as it did. -/
def pctFormBackSpec : ChangeSpec := { name := "pctFormBack", fn := fun _ => fun
  | [d] => { results := [.lit (.bool true)], args := [d] }
  | _ => none }
def pctFormBackRow : OpenClaim := { program := "ythkbheojjcdglabdoor", sum := "c812f1295e8eec14e7ca11d9e3ec58b9655cc45e26343398951bd6f846748163", func := "usher/usherlaw3.PctFormBack", spec := "pctFormBack", inPlace := ["internal/bytealg.IndexByteString", "internal/bytealg.IndexString"], unfollowed := true, recurses := true, named := ["usher/api.ErrMany", "usher/pct.unreserved", "unicode/utf8.first", "unicode/utf8.acceptRanges", "internal/bytealg.MaxLen", "usher/api.ErrText"], apart := false, laid := [("unicode/utf8.acceptRanges", laid_unicode_utf8_acceptRanges), ("usher/api.ErrText", laid_usher_api_ErrText), ("usher/api.ErrMany", laid_usher_api_ErrMany), ("usher/pct.unreserved", laid_usher_pct_unreserved), ("unicode/utf8.first", laid_unicode_utf8_first)] }
def PctFormBackSaid : Prop := pctFormBackRow.holds Tryd.pinned (OpenSpec.ofChange pctFormBackSpec)

/-- ITS FALSE NEIGHBOUR: 'it returns false'. Refute it at one input. -/
def pctFormBackWrong : ChangeSpec := { name := "pctFormBack", fn := fun _ => fun
  | [d] => { results := [.lit (.bool false)], args := [d] }
  | _ => none }
def PctFormBackWrongFalsely : Prop := pctFormBackRow.holds Tryd.pinned (OpenSpec.ofChange pctFormBackWrong)

/-- 'usherlaw3.PctOnce': WHATEVER THE INPUT: true; the input reads as it did. -/
def pctOnceSpec : ChangeSpec := { name := "pctOnce", fn := fun _ => fun
  | [d] => { results := [.lit (.bool true)], args := [d] }
  | _ => none }
def pctOnceRow : OpenClaim := { program := "ythkbheojjcdglabdoor", sum := "c812f1295e8eec14e7ca11d9e3ec58b9655cc45e26343398951bd6f846748163", func := "usher/usherlaw3.PctOnce", spec := "pctOnce", inPlace := ["internal/bytealg.IndexByteString", "internal/bytealg.IndexString"], unfollowed := true, recurses := true, named := ["usher/pct.unreserved", "usher/api.ErrMany", "unicode/utf8.first", "unicode/utf8.acceptRanges", "internal/bytealg.MaxLen", "usher/api.ErrText"], apart := false, laid := [("unicode/utf8.acceptRanges", laid_unicode_utf8_acceptRanges), ("usher/api.ErrText", laid_usher_api_ErrText), ("usher/api.ErrMany", laid_usher_api_ErrMany), ("usher/pct.unreserved", laid_usher_pct_unreserved), ("unicode/utf8.first", laid_unicode_utf8_first)] }
def PctOnceSaid : Prop := pctOnceRow.holds Tryd.pinned (OpenSpec.ofChange pctOnceSpec)

/-- ITS FALSE NEIGHBOUR: 'it returns false'. Refute it at one input. -/
def pctOnceWrong : ChangeSpec := { name := "pctOnce", fn := fun _ => fun
  | [d] => { results := [.lit (.bool false)], args := [d] }
  | _ => none }
def PctOnceWrongFalsely : Prop := pctOnceRow.holds Tryd.pinned (OpenSpec.ofChange pctOnceWrong)

/-- 'usherlaw3.PctPairs': WHATEVER THE INPUT: true; the input reads as it did. -/
def pctPairsSpec : ChangeSpec := { name := "pctPairs", fn := fun _ => fun
  | [d] => { results := [.lit (.bool true)], args := [d] }
  | _ => none }
def pctPairsRow : OpenClaim := { program := "ythkbheojjcdglabdoor", sum := "c812f1295e8eec14e7ca11d9e3ec58b9655cc45e26343398951bd6f846748163", func := "usher/usherlaw3.PctPairs", spec := "pctPairs", inPlace := ["internal/bytealg.IndexByteString", "internal/bytealg.IndexString"], unfollowed := true, recurses := true, named := ["usher/api.ErrMany", "unicode/utf8.first", "unicode/utf8.acceptRanges", "internal/bytealg.MaxLen", "usher/api.ErrText", "usher/api.ErrArg", "usher/api.ErrTwice", "usher/api.ErrScheme", "usher/api.ErrShort", "usher/api.ErrDry", "usher/api.ErrTaken", "usher/api.ErrFull", "usher/api.ErrDead", "usher/api.ErrLog", "usher/api.ErrLost", "usher/api.ErrDenied"], apart := false, laid := [("unicode/utf8.acceptRanges", laid_unicode_utf8_acceptRanges), ("usher/api.ErrArg", laid_usher_api_ErrArg), ("usher/api.ErrText", laid_usher_api_ErrText), ("usher/api.ErrMany", laid_usher_api_ErrMany), ("usher/api.ErrTwice", laid_usher_api_ErrTwice), ("usher/api.ErrScheme", laid_usher_api_ErrScheme), ("usher/api.ErrShort", laid_usher_api_ErrShort), ("usher/api.ErrDry", laid_usher_api_ErrDry), ("usher/api.ErrTaken", laid_usher_api_ErrTaken), ("usher/api.ErrFull", laid_usher_api_ErrFull), ("usher/api.ErrDead", laid_usher_api_ErrDead), ("usher/api.ErrLog", laid_usher_api_ErrLog), ("usher/api.ErrLost", laid_usher_api_ErrLost), ("usher/api.ErrDenied", laid_usher_api_ErrDenied), ("unicode/utf8.first", laid_unicode_utf8_first)] }
def PctPairsSaid : Prop := pctPairsRow.holds Tryd.pinned (OpenSpec.ofChange pctPairsSpec)

/-- ITS FALSE NEIGHBOUR: 'it returns false'. Refute it at one input. -/
def pctPairsWrong : ChangeSpec := { name := "pctPairs", fn := fun _ => fun
  | [d] => { results := [.lit (.bool false)], args := [d] }
  | _ => none }
def PctPairsWrongFalsely : Prop := pctPairsRow.holds Tryd.pinned (OpenSpec.ofChange pctPairsWrong)

/- THE SECOND FORM. 'bulk': how many values and letters a reading holds, each counted each time it is reached (what is shared counts as often as it is met; a slice's spare places count too). A statement '..UptoSaid' is the law's where the arguments, and the package variables that the reading takes, are together of bulk at most 1048576: NARROWER than '..Said'. Prove '..Said' where nothing that the law and all that it calls make is longer than what came in: it says more and counts as full. Else prove '..UptoSaid'. A law counts once. -/
mutual
def uptoBulk {H : Type} : DataW H → Nat
  | .lit (.string bytes) => bytes.length + 1
  | .lit _ => 1
  | .nil => 1
  | .ptr d => uptoBulk d + 1
  | .slice elems spare => uptoBulkAll elems + uptoBulkAll spare + 1
  | .agg parts => uptoBulkAll parts + 1
  | .iface _ d => uptoBulk d + 1
  | .map entries => uptoBulkEntries entries + 1
  | .held _ => 1
def uptoBulkAll {H : Type} : List (DataW H) → Nat
  | [] => 0
  | d :: r => uptoBulk d + uptoBulkAll r
def uptoBulkEntries {H : Type} : List (Lit × DataW H) → Nat
  | [] => 0
  | x :: r => uptoBulkEntry x + uptoBulkEntries r
def uptoBulkEntry {H : Type} : Lit × DataW H → Nat
  | (.string bytes, d) => bytes.length + uptoBulk d + 1
  | (_, d) => uptoBulk d + 1
 end
def uptoSmall : (H : Type) → List (DataW H) → Bool := fun _ ds => decide (uptoBulkAll ds ≤ 1048576)
def OpenSpec.upto (s : _root_.Go.ChangeSpec) : _root_.Go.OpenSpec := { _root_.Go.OpenSpec.ofChange s with cond := some uptoSmall }

/-- 'usherlaw3.PctForms', WHERE WHAT IT READS IS OF BULK AT MOST 1048576: true; the input reads as it did. -/
def pctFormsUptoRow : OpenClaim := { program := "ythkbheojjcdglabdoor", sum := "c812f1295e8eec14e7ca11d9e3ec58b9655cc45e26343398951bd6f846748163", func := "usher/usherlaw3.PctForms", spec := "pctForms", named := ["usher/pct.unreserved"], apart := false, laid := [("usher/pct.unreserved", laid_usher_pct_unreserved)], narrowed := true }
def PctFormsUptoSaid : Prop := pctFormsUptoRow.holds Tryd.pinned (OpenSpec.upto pctFormsSpec)

/-- 'usherlaw3.PctJoin', WHERE WHAT IT READS IS OF BULK AT MOST 1048576: true; the input reads as it did. -/
def pctJoinUptoRow : OpenClaim := { program := "ythkbheojjcdglabdoor", sum := "c812f1295e8eec14e7ca11d9e3ec58b9655cc45e26343398951bd6f846748163", func := "usher/usherlaw3.PctJoin", spec := "pctJoin", inPlace := ["internal/bytealg.IndexByteString", "internal/bytealg.IndexString"], unfollowed := true, recurses := true, named := ["usher/api.ErrMany", "usher/api.ErrText", "unicode/utf8.first", "unicode/utf8.acceptRanges", "internal/bytealg.MaxLen"], apart := false, laid := [("unicode/utf8.acceptRanges", laid_unicode_utf8_acceptRanges), ("usher/api.ErrText", laid_usher_api_ErrText), ("usher/api.ErrMany", laid_usher_api_ErrMany), ("unicode/utf8.first", laid_unicode_utf8_first)], narrowed := true }
def PctJoinUptoSaid : Prop := pctJoinUptoRow.holds Tryd.pinned (OpenSpec.upto pctJoinSpec)

/-- 'usherlaw3.PctFormBack', WHERE WHAT IT READS IS OF BULK AT MOST 1048576: true; the input reads as it did. -/
def pctFormBackUptoRow : OpenClaim := { program := "ythkbheojjcdglabdoor", sum := "c812f1295e8eec14e7ca11d9e3ec58b9655cc45e26343398951bd6f846748163", func := "usher/usherlaw3.PctFormBack", spec := "pctFormBack", inPlace := ["internal/bytealg.IndexByteString", "internal/bytealg.IndexString"], unfollowed := true, recurses := true, named := ["usher/api.ErrMany", "usher/pct.unreserved", "unicode/utf8.first", "unicode/utf8.acceptRanges", "internal/bytealg.MaxLen", "usher/api.ErrText"], apart := false, laid := [("unicode/utf8.acceptRanges", laid_unicode_utf8_acceptRanges), ("usher/api.ErrText", laid_usher_api_ErrText), ("usher/api.ErrMany", laid_usher_api_ErrMany), ("usher/pct.unreserved", laid_usher_pct_unreserved), ("unicode/utf8.first", laid_unicode_utf8_first)], narrowed := true }
def PctFormBackUptoSaid : Prop := pctFormBackUptoRow.holds Tryd.pinned (OpenSpec.upto pctFormBackSpec)

/-- 'usherlaw3.PctOnce', WHERE WHAT IT READS IS OF BULK AT MOST 1048576: true; the input reads as it did. -/
def pctOnceUptoRow : OpenClaim := { program := "ythkbheojjcdglabdoor", sum := "c812f1295e8eec14e7ca11d9e3ec58b9655cc45e26343398951bd6f846748163", func := "usher/usherlaw3.PctOnce", spec := "pctOnce", inPlace := ["internal/bytealg.IndexByteString", "internal/bytealg.IndexString"], unfollowed := true, recurses := true, named := ["usher/pct.unreserved", "usher/api.ErrMany", "unicode/utf8.first", "unicode/utf8.acceptRanges", "internal/bytealg.MaxLen", "usher/api.ErrText"], apart := false, laid := [("unicode/utf8.acceptRanges", laid_unicode_utf8_acceptRanges), ("usher/api.ErrText", laid_usher_api_ErrText), ("usher/api.ErrMany", laid_usher_api_ErrMany), ("usher/pct.unreserved", laid_usher_pct_unreserved), ("unicode/utf8.first", laid_unicode_utf8_first)], narrowed := true }
def PctOnceUptoSaid : Prop := pctOnceUptoRow.holds Tryd.pinned (OpenSpec.upto pctOnceSpec)

/-- 'usherlaw3.PctPairs', WHERE WHAT IT READS IS OF BULK AT MOST 1048576: true; the input reads as it did. -/
def pctPairsUptoRow : OpenClaim := { program := "ythkbheojjcdglabdoor", sum := "c812f1295e8eec14e7ca11d9e3ec58b9655cc45e26343398951bd6f846748163", func := "usher/usherlaw3.PctPairs", spec := "pctPairs", inPlace := ["internal/bytealg.IndexByteString", "internal/bytealg.IndexString"], unfollowed := true, recurses := true, named := ["usher/api.ErrMany", "unicode/utf8.first", "unicode/utf8.acceptRanges", "internal/bytealg.MaxLen", "usher/api.ErrText", "usher/api.ErrArg", "usher/api.ErrTwice", "usher/api.ErrScheme", "usher/api.ErrShort", "usher/api.ErrDry", "usher/api.ErrTaken", "usher/api.ErrFull", "usher/api.ErrDead", "usher/api.ErrLog", "usher/api.ErrLost", "usher/api.ErrDenied"], apart := false, laid := [("unicode/utf8.acceptRanges", laid_unicode_utf8_acceptRanges), ("usher/api.ErrArg", laid_usher_api_ErrArg), ("usher/api.ErrText", laid_usher_api_ErrText), ("usher/api.ErrMany", laid_usher_api_ErrMany), ("usher/api.ErrTwice", laid_usher_api_ErrTwice), ("usher/api.ErrScheme", laid_usher_api_ErrScheme), ("usher/api.ErrShort", laid_usher_api_ErrShort), ("usher/api.ErrDry", laid_usher_api_ErrDry), ("usher/api.ErrTaken", laid_usher_api_ErrTaken), ("usher/api.ErrFull", laid_usher_api_ErrFull), ("usher/api.ErrDead", laid_usher_api_ErrDead), ("usher/api.ErrLog", laid_usher_api_ErrLog), ("usher/api.ErrLost", laid_usher_api_ErrLost), ("usher/api.ErrDenied", laid_usher_api_ErrDenied), ("unicode/utf8.first", laid_unicode_utf8_first)], narrowed := true }
def PctPairsUptoSaid : Prop := pctPairsUptoRow.holds Tryd.pinned (OpenSpec.upto pctPairsSpec)

end Rows
end Go.Proofs.YthkbheojjcdglabDoor
