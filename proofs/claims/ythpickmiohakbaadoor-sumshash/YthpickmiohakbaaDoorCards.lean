/-
  DERIVED. GIVEN WITH THE SEED: THE CARDS: each row of YthpickmiohakbaaDoorRows.lean that lists a variable, with what it lists TIED to the program's text (the seventh form; the later family's looks); each row that meets fmt, with fmt's text TOLD by the authors' own Lean function (tested against real Go, not proved from fmt's source: count such statements apart). THE CARD IS WHAT COUNTS. Prove the row's statement (the work); the ties are given (YthpickmiohakbaaDoorTie.lean); close each card by the builder's one call (the guide's Derived/Test/ToyasCard.lean, 'card_holds'). Laid BY PROGRAM, IN A SANDBOX (cutbox-door.mjs). By AI agents, Wed Nov 11 2026. No macro, syntax, notation, axiom, sorry.
-/
import Derived.Test.YthpickmiohakbaaDoorRows
import GoSem.ClaimSeven
namespace Go.Proofs.YthpickmiohakbaaDoor
namespace Rows

/-- THE TIED CARD OF 'usherlaw1.SumsKeys'. -/
def sumsKeysCard : Claim7 := { stood := { row := sumsKeysRow, standIns := [], harness := (true, "62042c99f348834dd8d4409649eef0107d014fc6cf95a0d86c00f7b744e338bf"), looks := true }, kinds := [], alts := [], laidByText := true, laidKinds := [.data, .data], laidTests := true, laidLooks := .later }
def SumsKeysCardSaid : Prop := Claim7.holds Tryd.pinned (.plain (OpenSpec.ofChange sumsKeysSpec)) sumsKeysCard

/-- THE TIED CARD OF 'usherlaw1.SumsMacIs'. -/
def sumsMacIsCard : Claim7 := { stood := { row := sumsMacIsRow, standIns := [], harness := (true, "62042c99f348834dd8d4409649eef0107d014fc6cf95a0d86c00f7b744e338bf"), looks := true }, kinds := [], alts := [], laidByText := true, laidKinds := [.data, .data], laidTests := true, laidLooks := .later }
def SumsMacIsCardSaid : Prop := Claim7.holds Tryd.pinned (.plain (OpenSpec.ofChange sumsMacIsSpec)) sumsMacIsCard

/-- THE TIED CARD OF 'usherlaw1.SumsHash'. -/
def sumsHashCard : Claim7 := { stood := { row := sumsHashRow, standIns := [], harness := (true, "62042c99f348834dd8d4409649eef0107d014fc6cf95a0d86c00f7b744e338bf"), looks := true }, kinds := [], alts := [], laidByText := true, laidKinds := [.data, .data, .data, .data], laidTests := true, laidLooks := .later }
def SumsHashCardSaid : Prop := Claim7.holds Tryd.pinned (.plain (OpenSpec.ofChange sumsHashSpec)) sumsHashCard

/-- THE TIED CARD OF 'usherlaw1.SumsFold'. -/
def sumsFoldCard : Claim7 := { stood := { row := sumsFoldRow, standIns := [], harness := (true, "62042c99f348834dd8d4409649eef0107d014fc6cf95a0d86c00f7b744e338bf"), looks := true }, kinds := [], alts := [], laidByText := true, laidKinds := [.sentinel, .sentinel, .sentinel, .sentinel, .sentinel, .sentinel, .sentinel, .sentinel, .sentinel, .sentinel, .sentinel, .sentinel, .sentinel, .data, .data], laidTests := true, laidLooks := .later }
def SumsFoldCardSaid : Prop := Claim7.holds Tryd.pinned (.plain (OpenSpec.ofChange sumsFoldSpec)) sumsFoldCard

/-- THE TIED CARD OF 'usherlaw1.SumsMac'. -/
def sumsMacCard : Claim7 := { stood := { row := sumsMacRow, standIns := [], harness := (true, "62042c99f348834dd8d4409649eef0107d014fc6cf95a0d86c00f7b744e338bf"), looks := true }, kinds := [], alts := [], laidByText := true, laidKinds := [.data, .data, .data, .data], laidTests := true, laidLooks := .later }
def SumsMacCardSaid : Prop := Claim7.holds Tryd.pinned (.plain (OpenSpec.ofChange sumsMacSpec)) sumsMacCard

/-- THE TIED CARD OF 'usherlaw1.SumsStretch'. -/
def sumsStretchCard : Claim7 := { stood := { row := sumsStretchRow, standIns := [], harness := (true, "62042c99f348834dd8d4409649eef0107d014fc6cf95a0d86c00f7b744e338bf"), looks := true }, kinds := [], alts := [], laidByText := true, laidKinds := [.sentinel, .sentinel, .sentinel, .sentinel, .sentinel, .sentinel, .sentinel, .sentinel, .sentinel, .sentinel, .sentinel, .sentinel, .sentinel, .data, .data, .data, .data], laidTests := true, laidLooks := .later }
def SumsStretchCardSaid : Prop := Claim7.holds Tryd.pinned (.plain (OpenSpec.ofChange sumsStretchSpec)) sumsStretchCard

/-- THE SECOND FORM's CARD OF 'usherlaw1.SumsKeys'. -/
def sumsKeysUptoCard : Claim7 := { stood := { row := sumsKeysUptoRow, standIns := [], harness := (true, "62042c99f348834dd8d4409649eef0107d014fc6cf95a0d86c00f7b744e338bf"), looks := true }, kinds := [], alts := [], laidByText := true, laidKinds := [.data, .data], laidTests := true, laidLooks := .later }
def SumsKeysUptoCardSaid : Prop := Claim7.holds Tryd.pinned (.plain (OpenSpec.upto sumsKeysSpec)) sumsKeysUptoCard

/-- THE SECOND FORM's CARD OF 'usherlaw1.SumsMacIs'. -/
def sumsMacIsUptoCard : Claim7 := { stood := { row := sumsMacIsUptoRow, standIns := [], harness := (true, "62042c99f348834dd8d4409649eef0107d014fc6cf95a0d86c00f7b744e338bf"), looks := true }, kinds := [], alts := [], laidByText := true, laidKinds := [.data, .data], laidTests := true, laidLooks := .later }
def SumsMacIsUptoCardSaid : Prop := Claim7.holds Tryd.pinned (.plain (OpenSpec.upto sumsMacIsSpec)) sumsMacIsUptoCard

/-- THE SECOND FORM's CARD OF 'usherlaw1.SumsHash'. -/
def sumsHashUptoCard : Claim7 := { stood := { row := sumsHashUptoRow, standIns := [], harness := (true, "62042c99f348834dd8d4409649eef0107d014fc6cf95a0d86c00f7b744e338bf"), looks := true }, kinds := [], alts := [], laidByText := true, laidKinds := [.data, .data, .data, .data], laidTests := true, laidLooks := .later }
def SumsHashUptoCardSaid : Prop := Claim7.holds Tryd.pinned (.plain (OpenSpec.upto sumsHashSpec)) sumsHashUptoCard

/-- THE SECOND FORM's CARD OF 'usherlaw1.SumsFold'. -/
def sumsFoldUptoCard : Claim7 := { stood := { row := sumsFoldUptoRow, standIns := [], harness := (true, "62042c99f348834dd8d4409649eef0107d014fc6cf95a0d86c00f7b744e338bf"), looks := true }, kinds := [], alts := [], laidByText := true, laidKinds := [.sentinel, .sentinel, .sentinel, .sentinel, .sentinel, .sentinel, .sentinel, .sentinel, .sentinel, .sentinel, .sentinel, .sentinel, .sentinel, .data, .data], laidTests := true, laidLooks := .later }
def SumsFoldUptoCardSaid : Prop := Claim7.holds Tryd.pinned (.plain (OpenSpec.upto sumsFoldSpec)) sumsFoldUptoCard

/-- THE SECOND FORM's CARD OF 'usherlaw1.SumsMac'. -/
def sumsMacUptoCard : Claim7 := { stood := { row := sumsMacUptoRow, standIns := [], harness := (true, "62042c99f348834dd8d4409649eef0107d014fc6cf95a0d86c00f7b744e338bf"), looks := true }, kinds := [], alts := [], laidByText := true, laidKinds := [.data, .data, .data, .data], laidTests := true, laidLooks := .later }
def SumsMacUptoCardSaid : Prop := Claim7.holds Tryd.pinned (.plain (OpenSpec.upto sumsMacSpec)) sumsMacUptoCard

/-- THE SECOND FORM's CARD OF 'usherlaw1.SumsStretch'. -/
def sumsStretchUptoCard : Claim7 := { stood := { row := sumsStretchUptoRow, standIns := [], harness := (true, "62042c99f348834dd8d4409649eef0107d014fc6cf95a0d86c00f7b744e338bf"), looks := true }, kinds := [], alts := [], laidByText := true, laidKinds := [.sentinel, .sentinel, .sentinel, .sentinel, .sentinel, .sentinel, .sentinel, .sentinel, .sentinel, .sentinel, .sentinel, .sentinel, .sentinel, .data, .data, .data, .data], laidTests := true, laidLooks := .later }
def SumsStretchUptoCardSaid : Prop := Claim7.holds Tryd.pinned (.plain (OpenSpec.upto sumsStretchSpec)) sumsStretchUptoCard
end Rows
end Go.Proofs.YthpickmiohakbaaDoor
