/-
  NARROWER THAN 'FOR EVERY INPUT', by the rows' own cells (each row's printed sentence says how): PageReadMemory: laid · PageBrowser: laid.
  DERIVED. THE GIVEN ROWS OF THIS SEAT. 2 by the template 'for every input the law returns true; each argument reads behind the call as it read before'; 0 by the template 'total and deterministic' (their statements: YtjalggkhpnfbiaaDoorTotals.lean).
  GIVEN WITH THE SEED: the statements are not yours to turn. If you find one false, say at which input.
  Laid BY PROGRAM, IN A SANDBOX (cutbox-rows.mjs): the forced cells as the released guide's own fill.sh prints them over the translation 91a9ef21713a911e… (all of the seat's roots in one cut). By AI agents, Wed Nov 11 2026. No macro, syntax, notation, axiom, sorry.
-/
import Derived.Test.YtjalggkhpnfbiaaDoorChecked
import GoSem.PinnedTables
import GoSem.Claim
import GoSem.ClaimJoined
import GoSem.ClaimMapViews
import Derived.JoinedTies
import Derived.KernelRfl
namespace Go.Proofs.YtjalggkhpnfbiaaDoor
/- THE CELL 'sum', in the pinned program and in every row, IS THE sha256 OF THE DUMP (.gsa) THAT YtjalggkhpnfbiaaDoorProg.lean LOADS. Nothing in Lean hashes anything: it is a label: what it is worth is what the hold of that sum in a sandbox is worth. -/
noncomputable def Tryd.pinned : Pinned := { name := "ytjalggkhpnfbiaadoor", sum := "91a9ef21713a911ee21e8fbc042c104827f43ec8f0295646faa3055df5a6e655", checked := Tryd.checked }
namespace Rows
def none {H : Type} : Left H := { results := [], args := [] }

/- WHAT THE LISTED PACKAGE-LEVEL VARIABLES READ AS WHEN THE CALL BEGINS. Each datum BY PROGRAM (the guide's laid-datum.mjs) off the statement by which the dump's own 'gosem.cut.vars' lays the variable. In a bare row this is a premise. The card (YtjalggkhpnfbiaaDoorCards.lean) ties it to the program's text. -/
def laid_usher_api_ErrArg {H : Type} : DataW H := .iface "*errors.errorString" (.ptr (.agg [.lit (.string [97, 114, 103, 117, 109, 101, 110, 116])]))
def laid_usher_api_ErrText {H : Type} : DataW H := .iface "*errors.errorString" (.ptr (.agg [.lit (.string [116, 101, 120, 116])]))
def laid_usher_page_escapes {H : Type} : DataW H := .agg [.agg [.lit (.int .u8 38), .lit (.string [38, 97, 109, 112, 59])], .agg [.lit (.int .u8 60), .lit (.string [38, 108, 116, 59])], .agg [.lit (.int .u8 62), .lit (.string [38, 103, 116, 59])], .agg [.lit (.int .u8 34), .lit (.string [38, 113, 117, 111, 116, 59])], .agg [.lit (.int .u8 39), .lit (.string [38, 35, 51, 57, 59])]]
def laid_unicode_utf8_acceptRanges {H : Type} : DataW H := .agg [.agg [.lit (.int .u8 128), .lit (.int .u8 191)], .agg [.lit (.int .u8 160), .lit (.int .u8 191)], .agg [.lit (.int .u8 128), .lit (.int .u8 159)], .agg [.lit (.int .u8 144), .lit (.int .u8 191)], .agg [.lit (.int .u8 128), .lit (.int .u8 143)], .agg [.lit (.int .u8 0), .lit (.int .u8 0)], .agg [.lit (.int .u8 0), .lit (.int .u8 0)], .agg [.lit (.int .u8 0), .lit (.int .u8 0)], .agg [.lit (.int .u8 0), .lit (.int .u8 0)], .agg [.lit (.int .u8 0), .lit (.int .u8 0)], .agg [.lit (.int .u8 0), .lit (.int .u8 0)], .agg [.lit (.int .u8 0), .lit (.int .u8 0)], .agg [.lit (.int .u8 0), .lit (.int .u8 0)], .agg [.lit (.int .u8 0), .lit (.int .u8 0)], .agg [.lit (.int .u8 0), .lit (.int .u8 0)], .agg [.lit (.int .u8 0), .lit (.int .u8 0)]]
def laid_usher_api_ErrMany {H : Type} : DataW H := .iface "*errors.errorString" (.ptr (.agg [.lit (.string [109, 97, 110, 121])]))
def laid_usher_pct_unreserved {H : Type} : DataW H := .agg [.lit (.int .u64 288054454291267584), .lit (.int .u64 5188146764422578174), .lit (.int .u64 0), .lit (.int .u64 0)]
/-- One of Go's own tables, pinned by name: the form's constant. -/
def laid_unicode_utf8_first : DataW Unit := Go.Pinned.utf8First

/-- 'usherlaw5.PageReadMemory': WHATEVER THE INPUT: true; the input reads as it did. -/
def pageReadMemorySpec : ChangeSpec := { name := "pageReadMemory", fn := fun _ => fun
  | [d] => { results := [.lit (.bool true)], args := [d] }
  | _ => none }
def pageReadMemoryRow : OpenClaim := { program := "ytjalggkhpnfbiaadoor", sum := "91a9ef21713a911ee21e8fbc042c104827f43ec8f0295646faa3055df5a6e655", func := "usher/usherlaw5.PageReadMemory", spec := "pageReadMemory", inPlace := ["internal/abi.NoEscape", "internal/bytealg.IndexByteString"], unfollowed := true, recurses := true, named := ["usher/api.ErrArg", "usher/page.escapes", "usher/api.ErrText"], plainKeys := false, apart := false, laid := [("usher/api.ErrArg", laid_usher_api_ErrArg), ("usher/api.ErrText", laid_usher_api_ErrText), ("usher/page.escapes", laid_usher_page_escapes)] }
def PageReadMemorySaid : Prop := pageReadMemoryRow.holds Tryd.pinned (OpenSpec.ofChange pageReadMemorySpec)

/-- ITS FALSE NEIGHBOUR: 'it returns false'. Refute it at one input. -/
def pageReadMemoryWrong : ChangeSpec := { name := "pageReadMemory", fn := fun _ => fun
  | [d] => { results := [.lit (.bool false)], args := [d] }
  | _ => none }
def PageReadMemoryWrongFalsely : Prop := pageReadMemoryRow.holds Tryd.pinned (OpenSpec.ofChange pageReadMemoryWrong)

/-- 'usherlaw5.PageBrowser': WHATEVER THE INPUT: true; the input reads as it did. -/
def pageBrowserSpec : ChangeSpec := { name := "pageBrowser", fn := fun _ => fun
  | [d] => { results := [.lit (.bool true)], args := [d] }
  | _ => none }
def pageBrowserRow : OpenClaim := { program := "ytjalggkhpnfbiaadoor", sum := "91a9ef21713a911ee21e8fbc042c104827f43ec8f0295646faa3055df5a6e655", func := "usher/usherlaw5.PageBrowser", spec := "pageBrowser", inPlace := ["internal/abi.NoEscape", "internal/bytealg.IndexByteString", "internal/bytealg.IndexString"], unfollowed := true, recurses := true, named := ["usher/api.ErrArg", "usher/page.escapes", "usher/api.ErrText", "usher/pct.unreserved", "usher/api.ErrMany", "unicode/utf8.first", "unicode/utf8.acceptRanges", "internal/bytealg.MaxLen"], plainKeys := false, apart := false, laid := [("unicode/utf8.acceptRanges", laid_unicode_utf8_acceptRanges), ("usher/api.ErrArg", laid_usher_api_ErrArg), ("usher/api.ErrText", laid_usher_api_ErrText), ("usher/api.ErrMany", laid_usher_api_ErrMany), ("usher/page.escapes", laid_usher_page_escapes), ("usher/pct.unreserved", laid_usher_pct_unreserved), ("unicode/utf8.first", laid_unicode_utf8_first)] }
def PageBrowserSaid : Prop := pageBrowserRow.holds Tryd.pinned (OpenSpec.ofChange pageBrowserSpec)

/-- ITS FALSE NEIGHBOUR: 'it returns false'. Refute it at one input. -/
def pageBrowserWrong : ChangeSpec := { name := "pageBrowser", fn := fun _ => fun
  | [d] => { results := [.lit (.bool false)], args := [d] }
  | _ => none }
def PageBrowserWrongFalsely : Prop := pageBrowserRow.holds Tryd.pinned (OpenSpec.ofChange pageBrowserWrong)

/- THE SECOND FORM. 'bulk': how many values and letters a reading holds, each counted each time it is reached (what is shared counts as often as it is met; a slice's spare places count too). A statement '..UptoSaid' is the law's where the arguments, and the package variables that the reading takes, are together of bulk at most 1048576: NARROWER than '..Said'. Prove '..Said' where nothing that the law and all that it calls make is longer than what came in: it says more and counts as full. Else prove '..UptoSaid'. A law counts once. -/
mutual
def uptoBulk {H : Type} : DataW H → Nat
  | .lit (.string bytes) => bytes.length + 1
  | .lit _ => 1
  | .nil => 1
  | .ptr d => uptoBulk d + 1
  | .slice elems spare => uptoBulkAll elems + uptoBulkAll spare + 1
  | .agg parts => uptoBulkAll parts + 1
  | .iface _ d => uptoBulk d + 1
  | .map entries => uptoBulkEntries entries + 1
  | .held _ => 1
def uptoBulkAll {H : Type} : List (DataW H) → Nat
  | [] => 0
  | d :: r => uptoBulk d + uptoBulkAll r
def uptoBulkEntries {H : Type} : List (Lit × DataW H) → Nat
  | [] => 0
  | x :: r => uptoBulkEntry x + uptoBulkEntries r
def uptoBulkEntry {H : Type} : Lit × DataW H → Nat
  | (.string bytes, d) => bytes.length + uptoBulk d + 1
  | (_, d) => uptoBulk d + 1
 end
def uptoSmall : (H : Type) → List (DataW H) → Bool := fun _ ds => decide (uptoBulkAll ds ≤ 1048576)
def OpenSpec.upto (s : _root_.Go.ChangeSpec) : _root_.Go.OpenSpec := { _root_.Go.OpenSpec.ofChange s with cond := some uptoSmall }

/-- 'usherlaw5.PageReadMemory', WHERE WHAT IT READS IS OF BULK AT MOST 1048576: true; the input reads as it did. -/
def pageReadMemoryUptoRow : OpenClaim := { program := "ytjalggkhpnfbiaadoor", sum := "91a9ef21713a911ee21e8fbc042c104827f43ec8f0295646faa3055df5a6e655", func := "usher/usherlaw5.PageReadMemory", spec := "pageReadMemory", inPlace := ["internal/abi.NoEscape", "internal/bytealg.IndexByteString"], unfollowed := true, recurses := true, named := ["usher/api.ErrArg", "usher/page.escapes", "usher/api.ErrText"], plainKeys := false, apart := false, laid := [("usher/api.ErrArg", laid_usher_api_ErrArg), ("usher/api.ErrText", laid_usher_api_ErrText), ("usher/page.escapes", laid_usher_page_escapes)], narrowed := true }
def PageReadMemoryUptoSaid : Prop := pageReadMemoryUptoRow.holds Tryd.pinned (OpenSpec.upto pageReadMemorySpec)

/-- 'usherlaw5.PageBrowser', WHERE WHAT IT READS IS OF BULK AT MOST 1048576: true; the input reads as it did. -/
def pageBrowserUptoRow : OpenClaim := { program := "ytjalggkhpnfbiaadoor", sum := "91a9ef21713a911ee21e8fbc042c104827f43ec8f0295646faa3055df5a6e655", func := "usher/usherlaw5.PageBrowser", spec := "pageBrowser", inPlace := ["internal/abi.NoEscape", "internal/bytealg.IndexByteString", "internal/bytealg.IndexString"], unfollowed := true, recurses := true, named := ["usher/api.ErrArg", "usher/page.escapes", "usher/api.ErrText", "usher/pct.unreserved", "usher/api.ErrMany", "unicode/utf8.first", "unicode/utf8.acceptRanges", "internal/bytealg.MaxLen"], plainKeys := false, apart := false, laid := [("unicode/utf8.acceptRanges", laid_unicode_utf8_acceptRanges), ("usher/api.ErrArg", laid_usher_api_ErrArg), ("usher/api.ErrText", laid_usher_api_ErrText), ("usher/api.ErrMany", laid_usher_api_ErrMany), ("usher/page.escapes", laid_usher_page_escapes), ("usher/pct.unreserved", laid_usher_pct_unreserved), ("unicode/utf8.first", laid_unicode_utf8_first)], narrowed := true }
def PageBrowserUptoSaid : Prop := pageBrowserUptoRow.holds Tryd.pinned (OpenSpec.upto pageBrowserSpec)

end Rows
end Go.Proofs.YtjalggkhpnfbiaaDoor
