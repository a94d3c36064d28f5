/-
  NARROWER THAN 'FOR EVERY INPUT', by the rows' own cells (each row's printed sentence says how): SumsAffine: laid · SumsCrc: laid · SumsMore: laid · SumsBurst: laid · Names: laid · SumsKeys: laid.
  DERIVED. THE GIVEN ROWS OF THIS SEAT. 6 by the template 'for every input the law returns true; each argument reads behind the call as it read before'; 0 by the template 'total and deterministic' (their statements: YthobocfpfolhiaaDoorTotals.lean).
  GIVEN WITH THE SEED: the statements are not yours to turn. If you find one false, say at which input.
  Laid BY PROGRAM, IN A SANDBOX (cutbox-rows.mjs): the forced cells as the released guide's own fill.sh prints them over the translation 3e64801956329949… (all of the seat's roots in one cut). By AI agents, Wed Nov 11 2026. No macro, syntax, notation, axiom, sorry.
-/
import Derived.Test.YthobocfpfolhiaaDoorChecked
import GoSem.Claim
import GoSem.ClaimJoined
import GoSem.ClaimMapViews
import Derived.JoinedTies
import Derived.KernelRfl
namespace Go.Proofs.YthobocfpfolhiaaDoor
/- THE CELL 'sum', in the pinned program and in every row, IS THE sha256 OF THE DUMP (.gsa) THAT YthobocfpfolhiaaDoorProg.lean LOADS. Nothing in Lean hashes anything: it is a label: what it is worth is what the hold of that sum in a sandbox is worth. -/
noncomputable def Tryd.pinned : Pinned := { name := "ythobocfpfolhiaadoor", sum := "3e648019563299497ea62c9b374d47110b88dc4c9c965cca3f22c020499ef9c3", checked := Tryd.checked }
namespace Rows
def none {H : Type} : Left H := { results := [], args := [] }

/- WHAT THE LISTED PACKAGE-LEVEL VARIABLES READ AS WHEN THE CALL BEGINS. Each datum BY PROGRAM (the guide's laid-datum.mjs) off the statement by which the dump's own 'gosem.cut.vars' lays the variable. In a bare row this is a premise. The card (YthobocfpfolhiaaDoorCards.lean) ties it to the program's text. -/
def laid_usher_sums_crcSteps {H : Type} : DataW H := .agg [.lit (.int .u32 0), .lit (.int .u32 498536548), .lit (.int .u32 997073096), .lit (.int .u32 651767980), .lit (.int .u32 1994146192), .lit (.int .u32 1802195444), .lit (.int .u32 1303535960), .lit (.int .u32 1342533948), .lit (.int .u32 3988292384), .lit (.int .u32 4027552580), .lit (.int .u32 3604390888), .lit (.int .u32 3412177804), .lit (.int .u32 2607071920), .lit (.int .u32 2262029012), .lit (.int .u32 2685067896), .lit (.int .u32 3183342108)]
def laid_usher_api_ErrArg {H : Type} : DataW H := .iface "*errors.errorString" (.ptr (.agg [.lit (.string [97, 114, 103, 117, 109, 101, 110, 116])]))
def laid_usher_api_ErrText {H : Type} : DataW H := .iface "*errors.errorString" (.ptr (.agg [.lit (.string [116, 101, 120, 116])]))
def laid_usher_api_ErrMany {H : Type} : DataW H := .iface "*errors.errorString" (.ptr (.agg [.lit (.string [109, 97, 110, 121])]))
def laid_usher_api_ErrTwice {H : Type} : DataW H := .iface "*errors.errorString" (.ptr (.agg [.lit (.string [116, 119, 105, 99, 101])]))
def laid_usher_api_ErrScheme {H : Type} : DataW H := .iface "*errors.errorString" (.ptr (.agg [.lit (.string [115, 99, 104, 101, 109, 101])]))
def laid_usher_api_ErrShort {H : Type} : DataW H := .iface "*errors.errorString" (.ptr (.agg [.lit (.string [115, 104, 111, 114, 116])]))
def laid_usher_api_ErrDry {H : Type} : DataW H := .iface "*errors.errorString" (.ptr (.agg [.lit (.string [100, 114, 121])]))
def laid_usher_api_ErrTaken {H : Type} : DataW H := .iface "*errors.errorString" (.ptr (.agg [.lit (.string [116, 97, 107, 101, 110])]))
def laid_usher_api_ErrFull {H : Type} : DataW H := .iface "*errors.errorString" (.ptr (.agg [.lit (.string [102, 117, 108, 108])]))
def laid_usher_api_ErrDead {H : Type} : DataW H := .iface "*errors.errorString" (.ptr (.agg [.lit (.string [100, 101, 97, 100])]))
def laid_usher_api_ErrLog {H : Type} : DataW H := .iface "*errors.errorString" (.ptr (.agg [.lit (.string [108, 111, 103])]))
def laid_usher_api_ErrLost {H : Type} : DataW H := .iface "*errors.errorString" (.ptr (.agg [.lit (.string [108, 111, 115, 116])]))
def laid_usher_api_ErrDenied {H : Type} : DataW H := .iface "*errors.errorString" (.ptr (.agg [.lit (.string [100, 101, 110, 105, 101, 100])]))
def laid_usher_usherlaw0_limits {H : Type} : DataW H := .agg [.lit (.int .i64 1000), .lit (.int .i64 1000), .lit (.int .i64 32), .lit (.int .i64 32), .lit (.int .i64 16), .lit (.int .i64 64), .lit (.int .i64 64), .lit (.int .i64 32), .lit (.int .i64 16), .lit (.int .i64 512), .lit (.int .i64 512), .lit (.int .i64 8), .lit (.int .i64 64), .lit (.int .i64 64), .lit (.int .i64 64), .lit (.int .i64 1073741824), .lit (.int .i64 1073741824), .lit (.int .i64 65536), .lit (.int .i64 65536), .lit (.int .i64 1048576), .lit (.int .i64 262144), .lit (.int .i64 32), .lit (.int .i64 1024), .lit (.int .i64 43), .lit (.int .i64 4), .lit (.int .i64 8192), .lit (.int .i64 8), .lit (.int .i64 16), .lit (.int .i64 1099511627776), .lit (.int .i64 10), .lit (.int .i64 256), .lit (.int .i64 253402300799)]
def laid_usher_usherlaw0_wanted {H : Type} : DataW H := .agg [.lit (.int .i64 1000), .lit (.int .i64 1000), .lit (.int .i64 32), .lit (.int .i64 32), .lit (.int .i64 16), .lit (.int .i64 64), .lit (.int .i64 64), .lit (.int .i64 32), .lit (.int .i64 16), .lit (.int .i64 512), .lit (.int .i64 512), .lit (.int .i64 8), .lit (.int .i64 64), .lit (.int .i64 64), .lit (.int .i64 64), .lit (.int .i64 1073741824), .lit (.int .i64 1073741824), .lit (.int .i64 65536), .lit (.int .i64 65536), .lit (.int .i64 1048576), .lit (.int .i64 262144), .lit (.int .i64 32), .lit (.int .i64 1024), .lit (.int .i64 43), .lit (.int .i64 4), .lit (.int .i64 8192), .lit (.int .i64 8), .lit (.int .i64 16), .lit (.int .i64 1099511627776), .lit (.int .i64 10), .lit (.int .i64 256), .lit (.int .i64 253402300799)]
def laid_usher_usherlaw0_kinds {H : Type} : DataW H := .agg [.lit (.int .i64 1), .lit (.int .i64 2), .lit (.int .i64 3), .lit (.int .i64 1), .lit (.int .i64 2), .lit (.int .i64 3), .lit (.int .i64 4), .lit (.int .i64 1), .lit (.int .i64 2), .lit (.int .i64 3), .lit (.int .i64 4), .lit (.int .i64 5), .lit (.int .i64 6), .lit (.int .i64 7), .lit (.int .i64 8), .lit (.int .i64 9), .lit (.int .i64 10), .lit (.int .i64 11), .lit (.int .i64 1), .lit (.int .i64 2), .lit (.int .i64 3), .lit (.int .i64 4), .lit (.int .i64 5), .lit (.int .i64 6), .lit (.int .i64 1), .lit (.int .i64 2), .lit (.int .i64 3), .lit (.int .i64 4), .lit (.int .i64 5), .lit (.int .i64 6), .lit (.int .i64 0), .lit (.int .i64 1), .lit (.int .i64 2), .lit (.int .i64 3)]
def laid_usher_usherlaw0_numbers {H : Type} : DataW H := .agg [.lit (.int .i64 1), .lit (.int .i64 2), .lit (.int .i64 3), .lit (.int .i64 1), .lit (.int .i64 2), .lit (.int .i64 3), .lit (.int .i64 4), .lit (.int .i64 1), .lit (.int .i64 2), .lit (.int .i64 3), .lit (.int .i64 4), .lit (.int .i64 5), .lit (.int .i64 6), .lit (.int .i64 7), .lit (.int .i64 8), .lit (.int .i64 9), .lit (.int .i64 10), .lit (.int .i64 11), .lit (.int .i64 1), .lit (.int .i64 2), .lit (.int .i64 3), .lit (.int .i64 4), .lit (.int .i64 5), .lit (.int .i64 6), .lit (.int .i64 1), .lit (.int .i64 2), .lit (.int .i64 3), .lit (.int .i64 4), .lit (.int .i64 5), .lit (.int .i64 6), .lit (.int .i64 0), .lit (.int .i64 1), .lit (.int .i64 2), .lit (.int .i64 3)]
def laid_usher_usherlaw0_words {H : Type} : DataW H := .agg [.lit (.string [105, 110, 118, 97, 108, 105, 100, 95, 114, 101, 113, 117, 101, 115, 116]), .lit (.string [105, 110, 118, 97, 108, 105, 100, 95, 99, 108, 105, 101, 110, 116]), .lit (.string [105, 110, 118, 97, 108, 105, 100, 95, 103, 114, 97, 110, 116]), .lit (.string [105, 110, 118, 97, 108, 105, 100, 95, 115, 99, 111, 112, 101]), .lit (.string [117, 110, 97, 117, 116, 104, 111, 114, 105, 122, 101, 100, 95, 99, 108, 105, 101, 110, 116]), .lit (.string [117, 110, 115, 117, 112, 112, 111, 114, 116, 101, 100, 95, 103, 114, 97, 110, 116, 95, 116, 121, 112, 101]), .lit (.string [117, 110, 115, 117, 112, 112, 111, 114, 116, 101, 100, 95, 114, 101, 115, 112, 111, 110, 115, 101, 95, 116, 121, 112, 101]), .lit (.string [97, 99, 99, 101, 115, 115, 95, 100, 101, 110, 105, 101, 100]), .lit (.string [115, 101, 114, 118, 101, 114, 95, 101, 114, 114, 111, 114]), .lit (.string [116, 101, 109, 112, 111, 114, 97, 114, 105, 108, 121, 95, 117, 110, 97, 118, 97, 105, 108, 97, 98, 108, 101]), .lit (.string [111, 102, 102, 108, 105, 110, 101, 95, 97, 99, 99, 101, 115, 115]), .lit (.string [105, 110, 118, 97, 108, 105, 100, 95, 116, 111, 107, 101, 110]), .lit (.string [105, 110, 115, 117, 102, 102, 105, 99, 105, 101, 110, 116, 95, 115, 99, 111, 112, 101])]
def laid_usher_usherlaw0_spelt {H : Type} : DataW H := .agg [.lit (.string [105, 110, 118, 97, 108, 105, 100, 95, 114, 101, 113, 117, 101, 115, 116]), .lit (.string [105, 110, 118, 97, 108, 105, 100, 95, 99, 108, 105, 101, 110, 116]), .lit (.string [105, 110, 118, 97, 108, 105, 100, 95, 103, 114, 97, 110, 116]), .lit (.string [105, 110, 118, 97, 108, 105, 100, 95, 115, 99, 111, 112, 101]), .lit (.string [117, 110, 97, 117, 116, 104, 111, 114, 105, 122, 101, 100, 95, 99, 108, 105, 101, 110, 116]), .lit (.string [117, 110, 115, 117, 112, 112, 111, 114, 116, 101, 100, 95, 103, 114, 97, 110, 116, 95, 116, 121, 112, 101]), .lit (.string [117, 110, 115, 117, 112, 112, 111, 114, 116, 101, 100, 95, 114, 101, 115, 112, 111, 110, 115, 101, 95, 116, 121, 112, 101]), .lit (.string [97, 99, 99, 101, 115, 115, 95, 100, 101, 110, 105, 101, 100]), .lit (.string [115, 101, 114, 118, 101, 114, 95, 101, 114, 114, 111, 114]), .lit (.string [116, 101, 109, 112, 111, 114, 97, 114, 105, 108, 121, 95, 117, 110, 97, 118, 97, 105, 108, 97, 98, 108, 101]), .lit (.string [111, 102, 102, 108, 105, 110, 101, 95, 97, 99, 99, 101, 115, 115]), .lit (.string [105, 110, 118, 97, 108, 105, 100, 95, 116, 111, 107, 101, 110]), .lit (.string [105, 110, 115, 117, 102, 102, 105, 99, 105, 101, 110, 116, 95, 115, 99, 111, 112, 101])]
def laid_usher_sums_firstWords {H : Type} : DataW H := .agg [.lit (.int .u32 1779033703), .lit (.int .u32 3144134277), .lit (.int .u32 1013904242), .lit (.int .u32 2773480762), .lit (.int .u32 1359893119), .lit (.int .u32 2600822924), .lit (.int .u32 528734635), .lit (.int .u32 1541459225)]
def laid_usher_sums_roundWords {H : Type} : DataW H := .agg [.lit (.int .u32 1116352408), .lit (.int .u32 1899447441), .lit (.int .u32 3049323471), .lit (.int .u32 3921009573), .lit (.int .u32 961987163), .lit (.int .u32 1508970993), .lit (.int .u32 2453635748), .lit (.int .u32 2870763221), .lit (.int .u32 3624381080), .lit (.int .u32 310598401), .lit (.int .u32 607225278), .lit (.int .u32 1426881987), .lit (.int .u32 1925078388), .lit (.int .u32 2162078206), .lit (.int .u32 2614888103), .lit (.int .u32 3248222580), .lit (.int .u32 3835390401), .lit (.int .u32 4022224774), .lit (.int .u32 264347078), .lit (.int .u32 604807628), .lit (.int .u32 770255983), .lit (.int .u32 1249150122), .lit (.int .u32 1555081692), .lit (.int .u32 1996064986), .lit (.int .u32 2554220882), .lit (.int .u32 2821834349), .lit (.int .u32 2952996808), .lit (.int .u32 3210313671), .lit (.int .u32 3336571891), .lit (.int .u32 3584528711), .lit (.int .u32 113926993), .lit (.int .u32 338241895), .lit (.int .u32 666307205), .lit (.int .u32 773529912), .lit (.int .u32 1294757372), .lit (.int .u32 1396182291), .lit (.int .u32 1695183700), .lit (.int .u32 1986661051), .lit (.int .u32 2177026350), .lit (.int .u32 2456956037), .lit (.int .u32 2730485921), .lit (.int .u32 2820302411), .lit (.int .u32 3259730800), .lit (.int .u32 3345764771), .lit (.int .u32 3516065817), .lit (.int .u32 3600352804), .lit (.int .u32 4094571909), .lit (.int .u32 275423344), .lit (.int .u32 430227734), .lit (.int .u32 506948616), .lit (.int .u32 659060556), .lit (.int .u32 883997877), .lit (.int .u32 958139571), .lit (.int .u32 1322822218), .lit (.int .u32 1537002063), .lit (.int .u32 1747873779), .lit (.int .u32 1955562222), .lit (.int .u32 2024104815), .lit (.int .u32 2227730452), .lit (.int .u32 2361852424), .lit (.int .u32 2428436474), .lit (.int .u32 2756734187), .lit (.int .u32 3204031479), .lit (.int .u32 3329325298)]

/-- 'usherlaw1.SumsAffine': WHATEVER THE INPUT: true; the input reads as it did. -/
def sumsAffineSpec : ChangeSpec := { name := "sumsAffine", fn := fun _ => fun
  | [d] => { results := [.lit (.bool true)], args := [d] }
  | _ => none }
def sumsAffineRow : OpenClaim := { program := "ythobocfpfolhiaadoor", sum := "3e648019563299497ea62c9b374d47110b88dc4c9c965cca3f22c020499ef9c3", func := "usher/usherlaw1.SumsAffine", spec := "sumsAffine", named := ["usher/sums.crcSteps"], apart := false, laid := [("usher/sums.crcSteps", laid_usher_sums_crcSteps)] }
def SumsAffineSaid : Prop := sumsAffineRow.holds Tryd.pinned (OpenSpec.ofChange sumsAffineSpec)

/-- ITS FALSE NEIGHBOUR: 'it returns false'. Refute it at one input. -/
def sumsAffineWrong : ChangeSpec := { name := "sumsAffine", fn := fun _ => fun
  | [d] => { results := [.lit (.bool false)], args := [d] }
  | _ => none }
def SumsAffineWrongFalsely : Prop := sumsAffineRow.holds Tryd.pinned (OpenSpec.ofChange sumsAffineWrong)

/-- 'usherlaw1.SumsCrc': WHATEVER THE INPUT: true; the input reads as it did. -/
def sumsCrcSpec : ChangeSpec := { name := "sumsCrc", fn := fun _ => fun
  | [d] => { results := [.lit (.bool true)], args := [d] }
  | _ => none }
def sumsCrcRow : OpenClaim := { program := "ythobocfpfolhiaadoor", sum := "3e648019563299497ea62c9b374d47110b88dc4c9c965cca3f22c020499ef9c3", func := "usher/usherlaw1.SumsCrc", spec := "sumsCrc", named := ["usher/sums.crcSteps"], apart := false, laid := [("usher/sums.crcSteps", laid_usher_sums_crcSteps)] }
def SumsCrcSaid : Prop := sumsCrcRow.holds Tryd.pinned (OpenSpec.ofChange sumsCrcSpec)

/-- ITS FALSE NEIGHBOUR: 'it returns false'. Refute it at one input. -/
def sumsCrcWrong : ChangeSpec := { name := "sumsCrc", fn := fun _ => fun
  | [d] => { results := [.lit (.bool false)], args := [d] }
  | _ => none }
def SumsCrcWrongFalsely : Prop := sumsCrcRow.holds Tryd.pinned (OpenSpec.ofChange sumsCrcWrong)

/-- 'usherlaw1.SumsMore': WHATEVER THE INPUT: true; the input reads as it did. -/
def sumsMoreSpec : ChangeSpec := { name := "sumsMore", fn := fun _ => fun
  | [d] => { results := [.lit (.bool true)], args := [d] }
  | _ => none }
def sumsMoreRow : OpenClaim := { program := "ythobocfpfolhiaadoor", sum := "3e648019563299497ea62c9b374d47110b88dc4c9c965cca3f22c020499ef9c3", func := "usher/usherlaw1.SumsMore", spec := "sumsMore", named := ["usher/sums.crcSteps"], apart := false, laid := [("usher/sums.crcSteps", laid_usher_sums_crcSteps)] }
def SumsMoreSaid : Prop := sumsMoreRow.holds Tryd.pinned (OpenSpec.ofChange sumsMoreSpec)

/-- ITS FALSE NEIGHBOUR: 'it returns false'. Refute it at one input. -/
def sumsMoreWrong : ChangeSpec := { name := "sumsMore", fn := fun _ => fun
  | [d] => { results := [.lit (.bool false)], args := [d] }
  | _ => none }
def SumsMoreWrongFalsely : Prop := sumsMoreRow.holds Tryd.pinned (OpenSpec.ofChange sumsMoreWrong)

/-- 'usherlaw1.SumsBurst': WHATEVER THE INPUT: true; the input reads as it did. -/
def sumsBurstSpec : ChangeSpec := { name := "sumsBurst", fn := fun _ => fun
  | [d] => { results := [.lit (.bool true)], args := [d] }
  | _ => none }
def sumsBurstRow : OpenClaim := { program := "ythobocfpfolhiaadoor", sum := "3e648019563299497ea62c9b374d47110b88dc4c9c965cca3f22c020499ef9c3", func := "usher/usherlaw1.SumsBurst", spec := "sumsBurst", named := ["usher/sums.crcSteps"], apart := false, laid := [("usher/sums.crcSteps", laid_usher_sums_crcSteps)] }
def SumsBurstSaid : Prop := sumsBurstRow.holds Tryd.pinned (OpenSpec.ofChange sumsBurstSpec)

/-- ITS FALSE NEIGHBOUR: 'it returns false'. Refute it at one input. -/
def sumsBurstWrong : ChangeSpec := { name := "sumsBurst", fn := fun _ => fun
  | [d] => { results := [.lit (.bool false)], args := [d] }
  | _ => none }
def SumsBurstWrongFalsely : Prop := sumsBurstRow.holds Tryd.pinned (OpenSpec.ofChange sumsBurstWrong)

/-- 'usherlaw0.Names': WHATEVER THE INPUT: true; the input reads as it did. -/
def namesSpec : ChangeSpec := { name := "names", fn := fun _ => fun
  | [] => { results := [.lit (.bool true)], args := [] }
  | _ => none }
def namesRow : OpenClaim := { program := "ythobocfpfolhiaadoor", sum := "3e648019563299497ea62c9b374d47110b88dc4c9c965cca3f22c020499ef9c3", func := "usher/usherlaw0.Names", spec := "names", named := ["usher/usherlaw0.limits", "usher/usherlaw0.wanted", "usher/usherlaw0.kinds", "usher/usherlaw0.numbers", "usher/usherlaw0.words", "usher/usherlaw0.spelt", "usher/api.ErrArg", "usher/api.ErrText", "usher/api.ErrMany", "usher/api.ErrTwice", "usher/api.ErrScheme", "usher/api.ErrShort", "usher/api.ErrDry", "usher/api.ErrTaken", "usher/api.ErrFull", "usher/api.ErrDead", "usher/api.ErrLog", "usher/api.ErrLost", "usher/api.ErrDenied"], apart := false, laid := [("usher/api.ErrArg", laid_usher_api_ErrArg), ("usher/api.ErrText", laid_usher_api_ErrText), ("usher/api.ErrMany", laid_usher_api_ErrMany), ("usher/api.ErrTwice", laid_usher_api_ErrTwice), ("usher/api.ErrScheme", laid_usher_api_ErrScheme), ("usher/api.ErrShort", laid_usher_api_ErrShort), ("usher/api.ErrDry", laid_usher_api_ErrDry), ("usher/api.ErrTaken", laid_usher_api_ErrTaken), ("usher/api.ErrFull", laid_usher_api_ErrFull), ("usher/api.ErrDead", laid_usher_api_ErrDead), ("usher/api.ErrLog", laid_usher_api_ErrLog), ("usher/api.ErrLost", laid_usher_api_ErrLost), ("usher/api.ErrDenied", laid_usher_api_ErrDenied), ("usher/usherlaw0.limits", laid_usher_usherlaw0_limits), ("usher/usherlaw0.wanted", laid_usher_usherlaw0_wanted), ("usher/usherlaw0.kinds", laid_usher_usherlaw0_kinds), ("usher/usherlaw0.numbers", laid_usher_usherlaw0_numbers), ("usher/usherlaw0.words", laid_usher_usherlaw0_words), ("usher/usherlaw0.spelt", laid_usher_usherlaw0_spelt)] }
def NamesSaid : Prop := namesRow.holds Tryd.pinned (OpenSpec.ofChange namesSpec)

/-- ITS FALSE NEIGHBOUR: 'it returns false'. Refute it at one input. -/
def namesWrong : ChangeSpec := { name := "names", fn := fun _ => fun
  | [] => { results := [.lit (.bool false)], args := [] }
  | _ => none }
def NamesWrongFalsely : Prop := namesRow.holds Tryd.pinned (OpenSpec.ofChange namesWrong)

/-- 'usherlaw1.SumsKeys': WHATEVER THE INPUT: true; the input reads as it did. -/
def sumsKeysSpec : ChangeSpec := { name := "sumsKeys", fn := fun _ => fun
  | [d] => { results := [.lit (.bool true)], args := [d] }
  | _ => none }
def sumsKeysRow : OpenClaim := { program := "ythobocfpfolhiaadoor", sum := "3e648019563299497ea62c9b374d47110b88dc4c9c965cca3f22c020499ef9c3", func := "usher/usherlaw1.SumsKeys", spec := "sumsKeys", named := ["usher/sums.firstWords", "usher/sums.roundWords"], apart := false, laid := [("usher/sums.firstWords", laid_usher_sums_firstWords), ("usher/sums.roundWords", laid_usher_sums_roundWords)] }
def SumsKeysSaid : Prop := sumsKeysRow.holds Tryd.pinned (OpenSpec.ofChange sumsKeysSpec)

/-- ITS FALSE NEIGHBOUR: 'it returns false'. Refute it at one input. -/
def sumsKeysWrong : ChangeSpec := { name := "sumsKeys", fn := fun _ => fun
  | [d] => { results := [.lit (.bool false)], args := [d] }
  | _ => none }
def SumsKeysWrongFalsely : Prop := sumsKeysRow.holds Tryd.pinned (OpenSpec.ofChange sumsKeysWrong)

/- THE SECOND FORM. 'bulk': how many values and letters a reading holds, each counted each time it is reached (what is shared counts as often as it is met; a slice's spare places count too). A statement '..UptoSaid' is the law's where the arguments, and the package variables that the reading takes, are together of bulk at most 1048576: NARROWER than '..Said'. Prove '..Said' where nothing that the law and all that it calls make is longer than what came in: it says more and counts as full. Else prove '..UptoSaid'. A law counts once. -/
mutual
def uptoBulk {H : Type} : DataW H → Nat
  | .lit (.string bytes) => bytes.length + 1
  | .lit _ => 1
  | .nil => 1
  | .ptr d => uptoBulk d + 1
  | .slice elems spare => uptoBulkAll elems + uptoBulkAll spare + 1
  | .agg parts => uptoBulkAll parts + 1
  | .iface _ d => uptoBulk d + 1
  | .map entries => uptoBulkEntries entries + 1
  | .held _ => 1
def uptoBulkAll {H : Type} : List (DataW H) → Nat
  | [] => 0
  | d :: r => uptoBulk d + uptoBulkAll r
def uptoBulkEntries {H : Type} : List (Lit × DataW H) → Nat
  | [] => 0
  | x :: r => uptoBulkEntry x + uptoBulkEntries r
def uptoBulkEntry {H : Type} : Lit × DataW H → Nat
  | (.string bytes, d) => bytes.length + uptoBulk d + 1
  | (_, d) => uptoBulk d + 1
 end
def uptoSmall : (H : Type) → List (DataW H) → Bool := fun _ ds => decide (uptoBulkAll ds ≤ 1048576)
def OpenSpec.upto (s : _root_.Go.ChangeSpec) : _root_.Go.OpenSpec := { _root_.Go.OpenSpec.ofChange s with cond := some uptoSmall }

/-- 'usherlaw1.SumsAffine', WHERE WHAT IT READS IS OF BULK AT MOST 1048576: true; the input reads as it did. -/
def sumsAffineUptoRow : OpenClaim := { program := "ythobocfpfolhiaadoor", sum := "3e648019563299497ea62c9b374d47110b88dc4c9c965cca3f22c020499ef9c3", func := "usher/usherlaw1.SumsAffine", spec := "sumsAffine", named := ["usher/sums.crcSteps"], apart := false, laid := [("usher/sums.crcSteps", laid_usher_sums_crcSteps)], narrowed := true }
def SumsAffineUptoSaid : Prop := sumsAffineUptoRow.holds Tryd.pinned (OpenSpec.upto sumsAffineSpec)

/-- 'usherlaw1.SumsCrc', WHERE WHAT IT READS IS OF BULK AT MOST 1048576: true; the input reads as it did. -/
def sumsCrcUptoRow : OpenClaim := { program := "ythobocfpfolhiaadoor", sum := "3e648019563299497ea62c9b374d47110b88dc4c9c965cca3f22c020499ef9c3", func := "usher/usherlaw1.SumsCrc", spec := "sumsCrc", named := ["usher/sums.crcSteps"], apart := false, laid := [("usher/sums.crcSteps", laid_usher_sums_crcSteps)], narrowed := true }
def SumsCrcUptoSaid : Prop := sumsCrcUptoRow.holds Tryd.pinned (OpenSpec.upto sumsCrcSpec)

/-- 'usherlaw1.SumsMore', WHERE WHAT IT READS IS OF BULK AT MOST 1048576: true; the input reads as it did. -/
def sumsMoreUptoRow : OpenClaim := { program := "ythobocfpfolhiaadoor", sum := "3e648019563299497ea62c9b374d47110b88dc4c9c965cca3f22c020499ef9c3", func := "usher/usherlaw1.SumsMore", spec := "sumsMore", named := ["usher/sums.crcSteps"], apart := false, laid := [("usher/sums.crcSteps", laid_usher_sums_crcSteps)], narrowed := true }
def SumsMoreUptoSaid : Prop := sumsMoreUptoRow.holds Tryd.pinned (OpenSpec.upto sumsMoreSpec)

/-- 'usherlaw1.SumsBurst', WHERE WHAT IT READS IS OF BULK AT MOST 1048576: true; the input reads as it did. -/
def sumsBurstUptoRow : OpenClaim := { program := "ythobocfpfolhiaadoor", sum := "3e648019563299497ea62c9b374d47110b88dc4c9c965cca3f22c020499ef9c3", func := "usher/usherlaw1.SumsBurst", spec := "sumsBurst", named := ["usher/sums.crcSteps"], apart := false, laid := [("usher/sums.crcSteps", laid_usher_sums_crcSteps)], narrowed := true }
def SumsBurstUptoSaid : Prop := sumsBurstUptoRow.holds Tryd.pinned (OpenSpec.upto sumsBurstSpec)

/-- 'usherlaw0.Names', WHERE WHAT IT READS IS OF BULK AT MOST 1048576: true; the input reads as it did. -/
def namesUptoRow : OpenClaim := { program := "ythobocfpfolhiaadoor", sum := "3e648019563299497ea62c9b374d47110b88dc4c9c965cca3f22c020499ef9c3", func := "usher/usherlaw0.Names", spec := "names", named := ["usher/usherlaw0.limits", "usher/usherlaw0.wanted", "usher/usherlaw0.kinds", "usher/usherlaw0.numbers", "usher/usherlaw0.words", "usher/usherlaw0.spelt", "usher/api.ErrArg", "usher/api.ErrText", "usher/api.ErrMany", "usher/api.ErrTwice", "usher/api.ErrScheme", "usher/api.ErrShort", "usher/api.ErrDry", "usher/api.ErrTaken", "usher/api.ErrFull", "usher/api.ErrDead", "usher/api.ErrLog", "usher/api.ErrLost", "usher/api.ErrDenied"], apart := false, laid := [("usher/api.ErrArg", laid_usher_api_ErrArg), ("usher/api.ErrText", laid_usher_api_ErrText), ("usher/api.ErrMany", laid_usher_api_ErrMany), ("usher/api.ErrTwice", laid_usher_api_ErrTwice), ("usher/api.ErrScheme", laid_usher_api_ErrScheme), ("usher/api.ErrShort", laid_usher_api_ErrShort), ("usher/api.ErrDry", laid_usher_api_ErrDry), ("usher/api.ErrTaken", laid_usher_api_ErrTaken), ("usher/api.ErrFull", laid_usher_api_ErrFull), ("usher/api.ErrDead", laid_usher_api_ErrDead), ("usher/api.ErrLog", laid_usher_api_ErrLog), ("usher/api.ErrLost", laid_usher_api_ErrLost), ("usher/api.ErrDenied", laid_usher_api_ErrDenied), ("usher/usherlaw0.limits", laid_usher_usherlaw0_limits), ("usher/usherlaw0.wanted", laid_usher_usherlaw0_wanted), ("usher/usherlaw0.kinds", laid_usher_usherlaw0_kinds), ("usher/usherlaw0.numbers", laid_usher_usherlaw0_numbers), ("usher/usherlaw0.words", laid_usher_usherlaw0_words), ("usher/usherlaw0.spelt", laid_usher_usherlaw0_spelt)], narrowed := true }
def NamesUptoSaid : Prop := namesUptoRow.holds Tryd.pinned (OpenSpec.upto namesSpec)

/-- 'usherlaw1.SumsKeys', WHERE WHAT IT READS IS OF BULK AT MOST 1048576: true; the input reads as it did. -/
def sumsKeysUptoRow : OpenClaim := { program := "ythobocfpfolhiaadoor", sum := "3e648019563299497ea62c9b374d47110b88dc4c9c965cca3f22c020499ef9c3", func := "usher/usherlaw1.SumsKeys", spec := "sumsKeys", named := ["usher/sums.firstWords", "usher/sums.roundWords"], apart := false, laid := [("usher/sums.firstWords", laid_usher_sums_firstWords), ("usher/sums.roundWords", laid_usher_sums_roundWords)], narrowed := true }
def SumsKeysUptoSaid : Prop := sumsKeysUptoRow.holds Tryd.pinned (OpenSpec.upto sumsKeysSpec)

end Rows
end Go.Proofs.YthobocfpfolhiaaDoor
