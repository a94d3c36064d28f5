/-
  DERIVED. GIVEN WITH THE SEED: THE CARDS: each row of YtimbhneegphhbaaGreatDoorRows.lean that lists a variable, with what it lists TIED to the program's text (the seventh form; the later family's looks); each row that meets fmt, with fmt's text TOLD by the authors' own Lean function (tested against real Go, not proved from fmt's source: count such statements apart). THE CARD IS WHAT COUNTS. Prove the row's statement (the work); the ties are given (YtimbhneegphhbaaGreatDoorTie.lean); close each card by the builder's one call (the guide's Derived/Test/ToyasCard.lean, 'card_holds'). Laid BY PROGRAM, IN A SANDBOX (cutbox-door.mjs). By AI agents, Wed Nov 11 2026. No macro, syntax, notation, axiom, sorry.
-/
import Derived.Test.YtimbhneegphhbaaGreatDoorRows
import GoSem.ClaimSeven
namespace Go.Proofs.YtimbhneegphhbaaGreatDoor
namespace Rows

/-- THE TIED CARD OF 'usherlaw14.RecordPackExact'. -/
def recordPackExactCard : Claim7 := { stood := { row := recordPackExactRow, standIns := [], harness := (true, "32da95b60ec36606baa04db47004773e97cd505a2c1880a28714a2ba9c5774d3"), looks := true }, kinds := [], alts := [], laidByText := true, laidKinds := [.data, .data, .data, .data, .sentinel, .sentinel, .sentinel, .sentinel, .sentinel, .sentinel, .sentinel, .sentinel, .sentinel, .sentinel, .sentinel, .sentinel, .sentinel, .sentinel, .sentinel, .data, .data, .data, .data, .data, .data, .data, .data, .data, .data, .data, .data, .pinned], laidTests := true, laidLooks := .later }
def RecordPackExactCardSaid : Prop := Claim7.holds Tryz.pinned (.plain (OpenSpec.ofChange recordPackExactSpec)) recordPackExactCard

/-- THE TIED CARD OF 'usherlaw14.RecordDecodeExact'. -/
def recordDecodeExactCard : Claim7 := { stood := { row := recordDecodeExactRow, standIns := [], harness := (true, "32da95b60ec36606baa04db47004773e97cd505a2c1880a28714a2ba9c5774d3"), looks := true }, kinds := [], alts := [], laidByText := true, laidKinds := [.data, .data, .data, .data, .sentinel, .sentinel, .sentinel, .sentinel, .sentinel, .sentinel, .sentinel, .sentinel, .sentinel, .sentinel, .sentinel, .sentinel, .sentinel, .sentinel, .sentinel, .data, .data, .data, .data, .data, .data, .data, .data, .data, .data, .data, .data, .pinned], laidTests := true, laidLooks := .later }
def RecordDecodeExactCardSaid : Prop := Claim7.holds Tryz.pinned (.plain (OpenSpec.ofChange recordDecodeExactSpec)) recordDecodeExactCard

/-- THE TIED CARD OF 'usherlaw14.RecordUnpackExact'. -/
def recordUnpackExactCard : Claim7 := { stood := { row := recordUnpackExactRow, standIns := [], harness := (true, "32da95b60ec36606baa04db47004773e97cd505a2c1880a28714a2ba9c5774d3"), looks := true }, kinds := [], alts := [], laidByText := true, laidKinds := [.data, .data, .data, .data, .sentinel, .sentinel, .sentinel, .sentinel, .sentinel, .sentinel, .sentinel, .sentinel, .sentinel, .sentinel, .sentinel, .sentinel, .sentinel, .sentinel, .sentinel, .data, .data, .data, .data, .data, .data, .data, .data, .data, .data, .data, .data, .pinned], laidTests := true, laidLooks := .later }
def RecordUnpackExactCardSaid : Prop := Claim7.holds Tryz.pinned (.plain (OpenSpec.ofChange recordUnpackExactSpec)) recordUnpackExactCard

/-- THE SECOND FORM's CARD OF 'usherlaw14.RecordPackExact'. -/
def recordPackExactUptoCard : Claim7 := { stood := { row := recordPackExactUptoRow, standIns := [], harness := (true, "32da95b60ec36606baa04db47004773e97cd505a2c1880a28714a2ba9c5774d3"), looks := true }, kinds := [], alts := [], laidByText := true, laidKinds := [.data, .data, .data, .data, .sentinel, .sentinel, .sentinel, .sentinel, .sentinel, .sentinel, .sentinel, .sentinel, .sentinel, .sentinel, .sentinel, .sentinel, .sentinel, .sentinel, .sentinel, .data, .data, .data, .data, .data, .data, .data, .data, .data, .data, .data, .data, .pinned], laidTests := true, laidLooks := .later }
def RecordPackExactUptoCardSaid : Prop := Claim7.holds Tryz.pinned (.plain (OpenSpec.upto recordPackExactSpec)) recordPackExactUptoCard

/-- THE SECOND FORM's CARD OF 'usherlaw14.RecordDecodeExact'. -/
def recordDecodeExactUptoCard : Claim7 := { stood := { row := recordDecodeExactUptoRow, standIns := [], harness := (true, "32da95b60ec36606baa04db47004773e97cd505a2c1880a28714a2ba9c5774d3"), looks := true }, kinds := [], alts := [], laidByText := true, laidKinds := [.data, .data, .data, .data, .sentinel, .sentinel, .sentinel, .sentinel, .sentinel, .sentinel, .sentinel, .sentinel, .sentinel, .sentinel, .sentinel, .sentinel, .sentinel, .sentinel, .sentinel, .data, .data, .data, .data, .data, .data, .data, .data, .data, .data, .data, .data, .pinned], laidTests := true, laidLooks := .later }
def RecordDecodeExactUptoCardSaid : Prop := Claim7.holds Tryz.pinned (.plain (OpenSpec.upto recordDecodeExactSpec)) recordDecodeExactUptoCard

/-- THE SECOND FORM's CARD OF 'usherlaw14.RecordUnpackExact'. -/
def recordUnpackExactUptoCard : Claim7 := { stood := { row := recordUnpackExactUptoRow, standIns := [], harness := (true, "32da95b60ec36606baa04db47004773e97cd505a2c1880a28714a2ba9c5774d3"), looks := true }, kinds := [], alts := [], laidByText := true, laidKinds := [.data, .data, .data, .data, .sentinel, .sentinel, .sentinel, .sentinel, .sentinel, .sentinel, .sentinel, .sentinel, .sentinel, .sentinel, .sentinel, .sentinel, .sentinel, .sentinel, .sentinel, .data, .data, .data, .data, .data, .data, .data, .data, .data, .data, .data, .data, .pinned], laidTests := true, laidLooks := .later }
def RecordUnpackExactUptoCardSaid : Prop := Claim7.holds Tryz.pinned (.plain (OpenSpec.upto recordUnpackExactSpec)) recordUnpackExactUptoCard
end Rows
end Go.Proofs.YtimbhneegphhbaaGreatDoor
