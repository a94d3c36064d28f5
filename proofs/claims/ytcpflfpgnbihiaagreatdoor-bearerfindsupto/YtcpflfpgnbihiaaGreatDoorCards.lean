/-
  DERIVED. GIVEN WITH THE SEED: THE CARDS: each row of YtcpflfpgnbihiaaGreatDoorRows.lean that lists a variable, with what it lists TIED to the program's text (the seventh form; the later family's looks); each row that meets fmt, with fmt's text TOLD by the authors' own Lean function (tested against real Go, not proved from fmt's source: count such statements apart). THE CARD IS WHAT COUNTS. Prove the row's statement (the work); the ties are given (YtcpflfpgnbihiaaGreatDoorTie.lean); close each card by the builder's one call (the guide's Derived/Test/ToyasCard.lean, 'card_holds'). Laid BY PROGRAM, IN A SANDBOX (cutbox-door.mjs). By AI agents, Wed Nov 11 2026. No macro, syntax, notation, axiom, sorry.
-/
import Derived.Test.YtcpflfpgnbihiaaGreatDoorRows
import GoSem.ClaimSeven
namespace Go.Proofs.YtcpflfpgnbihiaaGreatDoor
namespace Rows

/-- THE TIED CARD OF 'usherlaw22.BearerFinds'. -/
def bearerFindsCard : Claim7 := { stood := { row := bearerFindsRow, standIns := [], harness := (true, "79508fa437f62698c0f8c6b8c60768495ab1b2e4e5ae86555b0a717a6b51978d"), looks := true }, kinds := [], alts := [], laidByText := true, laidKinds := [.data, .data, .data, .sentinel, .sentinel, .sentinel, .sentinel, .sentinel, .sentinel, .sentinel, .sentinel, .sentinel, .sentinel, .sentinel, .sentinel, .sentinel, .pinned, .pinned], laidTests := true, laidLooks := .later }
def BearerFindsCardSaid : Prop := Claim7.holds Tryz.pinned (.plain (OpenSpec.ofChange bearerFindsSpec)) bearerFindsCard

/-- THE SECOND FORM's CARD OF 'usherlaw22.BearerFinds'. -/
def bearerFindsUptoCard : Claim7 := { stood := { row := bearerFindsUptoRow, standIns := [], harness := (true, "79508fa437f62698c0f8c6b8c60768495ab1b2e4e5ae86555b0a717a6b51978d"), looks := true }, kinds := [], alts := [], laidByText := true, laidKinds := [.data, .data, .data, .sentinel, .sentinel, .sentinel, .sentinel, .sentinel, .sentinel, .sentinel, .sentinel, .sentinel, .sentinel, .sentinel, .sentinel, .sentinel, .pinned, .pinned], laidTests := true, laidLooks := .later }
def BearerFindsUptoCardSaid : Prop := Claim7.holds Tryz.pinned (.plain (OpenSpec.upto bearerFindsSpec)) bearerFindsUptoCard
end Rows
end Go.Proofs.YtcpflfpgnbihiaaGreatDoor
