/-
  DERIVED. GIVEN WITH THE SEED: THE CARDS: each row of YtobflealcldgnaaGreatDoorRows.lean that lists a variable, with what it lists TIED to the program's text (the seventh form; the later family's looks); each row that meets fmt, with fmt's text TOLD by the authors' own Lean function (tested against real Go, not proved from fmt's source: count such statements apart). THE CARD IS WHAT COUNTS. Prove the row's statement (the work); the ties are given (YtobflealcldgnaaGreatDoorTie.lean); close each card by the builder's one call (the guide's Derived/Test/ToyasCard.lean, 'card_holds'). Laid BY PROGRAM, IN A SANDBOX (cutbox-door.mjs). By AI agents, Wed Nov 11 2026. No macro, syntax, notation, axiom, sorry.
-/
import Derived.Test.YtobflealcldgnaaGreatDoorRows
import GoSem.ClaimSeven
namespace Go.Proofs.YtobflealcldgnaaGreatDoor
namespace Rows

/-- THE TIED CARD OF 'usherlaw14.RecordPackExact'. -/
def recordPackExactCard : Claim7 := { stood := { row := recordPackExactRow, standIns := [], harness := (true, "02884ab26685f5999428b88cd33143dce013d7003413507ce5906e761139502e"), looks := true }, kinds := [], alts := [], laidByText := true, laidKinds := [.data, .data, .data, .data, .sentinel, .sentinel, .sentinel, .sentinel, .sentinel, .sentinel, .sentinel, .sentinel, .sentinel, .sentinel, .sentinel, .sentinel, .sentinel, .sentinel, .sentinel, .data, .data, .data, .data, .data, .data, .data, .data, .data, .data, .data, .data, .pinned], laidTests := true, laidLooks := .later }
def RecordPackExactCardSaid : Prop := Claim7.holds Tryz.pinned (.plain (OpenSpec.ofChange recordPackExactSpec)) recordPackExactCard

/-- THE SECOND FORM's CARD OF 'usherlaw14.RecordPackExact'. -/
def recordPackExactUptoCard : Claim7 := { stood := { row := recordPackExactUptoRow, standIns := [], harness := (true, "02884ab26685f5999428b88cd33143dce013d7003413507ce5906e761139502e"), looks := true }, kinds := [], alts := [], laidByText := true, laidKinds := [.data, .data, .data, .data, .sentinel, .sentinel, .sentinel, .sentinel, .sentinel, .sentinel, .sentinel, .sentinel, .sentinel, .sentinel, .sentinel, .sentinel, .sentinel, .sentinel, .sentinel, .data, .data, .data, .data, .data, .data, .data, .data, .data, .data, .data, .data, .pinned], laidTests := true, laidLooks := .later }
def RecordPackExactUptoCardSaid : Prop := Claim7.holds Tryz.pinned (.plain (OpenSpec.upto recordPackExactSpec)) recordPackExactUptoCard
end Rows
end Go.Proofs.YtobflealcldgnaaGreatDoor
