/-
  DERIVED. GIVEN WITH THE SEED: THE CARDS: each row of YtdkbjefphihplacDoorRows.lean that lists a variable, with what it lists TIED to the program's text (the seventh form; the later family's looks); each row that meets fmt, with fmt's text TOLD by the authors' own Lean function (tested against real Go, not proved from fmt's source: count such statements apart). THE CARD IS WHAT COUNTS. Prove the row's statement (the work); the ties are given (YtdkbjefphihplacDoorTie.lean); close each card by the builder's one call (the guide's Derived/Test/ToyasCard.lean, 'card_holds'). Laid BY PROGRAM, IN A SANDBOX (cutbox-door.mjs). By AI agents, Wed Nov 11 2026. No macro, syntax, notation, axiom, sorry.
-/
import Derived.Test.YtdkbjefphihplacDoorRows
import GoSem.ClaimSeven
namespace Go.Proofs.YtdkbjefphihplacDoor
namespace Rows

/-- THE TIED CARD OF 'usherlaw6.FieldBasics'. -/
def fieldBasicsCard : Claim7 := { stood := { row := fieldBasicsRow, standIns := [], harness := (true, "1b893f432e1238eb41f413622f0fc5feb00f157f3445f10618325f06238bfd5d"), looks := true }, kinds := [], alts := [], laidByText := true, laidKinds := [.data, .sentinel, .sentinel, .sentinel, .sentinel, .sentinel, .sentinel, .sentinel, .sentinel, .sentinel, .sentinel, .sentinel, .sentinel, .sentinel, .data, .pinned], laidTests := true, laidLooks := .later }
def FieldBasicsCardSaid : Prop := Claim7.holds Tryd.pinned (.plain (OpenSpec.ofChange fieldBasicsSpec)) fieldBasicsCard

/-- THE TIED CARD OF 'usherlaw6.FieldSetBack'. -/
def fieldSetBackCard : Claim7 := { stood := { row := fieldSetBackRow, standIns := [], harness := (true, "1b893f432e1238eb41f413622f0fc5feb00f157f3445f10618325f06238bfd5d"), looks := true }, kinds := [], alts := [], laidByText := true, laidKinds := [.data, .data, .data, .sentinel, .sentinel, .sentinel], laidTests := true, laidLooks := .later }
def FieldSetBackCardSaid : Prop := Claim7.holds Tryd.pinned (.plain (OpenSpec.ofChange fieldSetBackSpec)) fieldSetBackCard

/-- THE TIED CARD OF 'usherlaw6.FieldReads'. -/
def fieldReadsCard : Claim7 := { stood := { row := fieldReadsRow, standIns := [], harness := (true, "1b893f432e1238eb41f413622f0fc5feb00f157f3445f10618325f06238bfd5d"), looks := true }, kinds := [], alts := [], laidByText := true, laidKinds := [.data, .data, .data, .sentinel, .sentinel, .sentinel, .sentinel, .sentinel, .sentinel, .sentinel, .sentinel, .sentinel, .sentinel, .sentinel, .sentinel, .sentinel, .sentinel, .sentinel], laidTests := true, laidLooks := .later }
def FieldReadsCardSaid : Prop := Claim7.holds Tryd.pinned (.plain (OpenSpec.ofChange fieldReadsSpec)) fieldReadsCard

/-- THE SECOND FORM's CARD OF 'usherlaw6.FieldBasics'. -/
def fieldBasicsUptoCard : Claim7 := { stood := { row := fieldBasicsUptoRow, standIns := [], harness := (true, "1b893f432e1238eb41f413622f0fc5feb00f157f3445f10618325f06238bfd5d"), looks := true }, kinds := [], alts := [], laidByText := true, laidKinds := [.data, .sentinel, .sentinel, .sentinel, .sentinel, .sentinel, .sentinel, .sentinel, .sentinel, .sentinel, .sentinel, .sentinel, .sentinel, .sentinel, .data, .pinned], laidTests := true, laidLooks := .later }
def FieldBasicsUptoCardSaid : Prop := Claim7.holds Tryd.pinned (.plain (OpenSpec.upto fieldBasicsSpec)) fieldBasicsUptoCard

/-- THE SECOND FORM's CARD OF 'usherlaw6.FieldSetBack'. -/
def fieldSetBackUptoCard : Claim7 := { stood := { row := fieldSetBackUptoRow, standIns := [], harness := (true, "1b893f432e1238eb41f413622f0fc5feb00f157f3445f10618325f06238bfd5d"), looks := true }, kinds := [], alts := [], laidByText := true, laidKinds := [.data, .data, .data, .sentinel, .sentinel, .sentinel], laidTests := true, laidLooks := .later }
def FieldSetBackUptoCardSaid : Prop := Claim7.holds Tryd.pinned (.plain (OpenSpec.upto fieldSetBackSpec)) fieldSetBackUptoCard

/-- THE SECOND FORM's CARD OF 'usherlaw6.FieldReads'. -/
def fieldReadsUptoCard : Claim7 := { stood := { row := fieldReadsUptoRow, standIns := [], harness := (true, "1b893f432e1238eb41f413622f0fc5feb00f157f3445f10618325f06238bfd5d"), looks := true }, kinds := [], alts := [], laidByText := true, laidKinds := [.data, .data, .data, .sentinel, .sentinel, .sentinel, .sentinel, .sentinel, .sentinel, .sentinel, .sentinel, .sentinel, .sentinel, .sentinel, .sentinel, .sentinel, .sentinel, .sentinel], laidTests := true, laidLooks := .later }
def FieldReadsUptoCardSaid : Prop := Claim7.holds Tryd.pinned (.plain (OpenSpec.upto fieldReadsSpec)) fieldReadsUptoCard
end Rows
end Go.Proofs.YtdkbjefphihplacDoor
