/-
  DERIVED. GIVEN WITH THE SEED: THE CARDS: each row of YtefdofmllgofeaaGreatDoorRows.lean that lists a variable, with what it lists TIED to the program's text (the seventh form; the later family's looks); each row that meets fmt, with fmt's text TOLD by the authors' own Lean function (tested against real Go, not proved from fmt's source: count such statements apart). THE CARD IS WHAT COUNTS. Prove the row's statement (the work); the ties are given (YtefdofmllgofeaaGreatDoorTie.lean); close each card by the builder's one call (the guide's Derived/Test/ToyasCard.lean, 'card_holds'). Laid BY PROGRAM, IN A SANDBOX (cutbox-door.mjs). By AI agents, Wed Nov 11 2026. No macro, syntax, notation, axiom, sorry.
-/
import Derived.Test.YtefdofmllgofeaaGreatDoorRows
import GoSem.ClaimSeven
namespace Go.Proofs.YtefdofmllgofeaaGreatDoor
namespace Rows

/-- THE TIED CARD OF 'usherlaw23.AgentHops'. -/
def agentHopsCard : Claim7 := { stood := { row := agentHopsRow, standIns := [], harness := (true, "87ee98e3b40bc0961e8154cbf2487b2f1ee00d7b6ba97c80e2497fc9a992170d"), looks := true }, kinds := [], alts := [], laidByText := true, laidKinds := [.data, .data, .data, .data, .sentinel, .sentinel, .sentinel, .sentinel, .sentinel, .sentinel, .sentinel, .sentinel, .sentinel, .sentinel, .sentinel, .sentinel, .sentinel, .sentinel, .sentinel, .data, .pinned, .pinned], laidTests := true, laidLooks := .later }
def AgentHopsCardSaid : Prop := Claim7.holds Tryz.pinned (.plain (OpenSpec.ofChange agentHopsSpec)) agentHopsCard

/-- THE SECOND FORM's CARD OF 'usherlaw23.AgentHops'. -/
def agentHopsUptoCard : Claim7 := { stood := { row := agentHopsUptoRow, standIns := [], harness := (true, "87ee98e3b40bc0961e8154cbf2487b2f1ee00d7b6ba97c80e2497fc9a992170d"), looks := true }, kinds := [], alts := [], laidByText := true, laidKinds := [.data, .data, .data, .data, .sentinel, .sentinel, .sentinel, .sentinel, .sentinel, .sentinel, .sentinel, .sentinel, .sentinel, .sentinel, .sentinel, .sentinel, .sentinel, .sentinel, .sentinel, .data, .pinned, .pinned], laidTests := true, laidLooks := .later }
def AgentHopsUptoCardSaid : Prop := Claim7.holds Tryz.pinned (.plain (OpenSpec.upto agentHopsSpec)) agentHopsUptoCard
end Rows
end Go.Proofs.YtefdofmllgofeaaGreatDoor
