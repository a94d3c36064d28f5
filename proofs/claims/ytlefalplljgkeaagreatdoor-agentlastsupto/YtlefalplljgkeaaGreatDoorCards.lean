/-
  DERIVED. GIVEN WITH THE SEED: THE CARDS: each row of YtlefalplljgkeaaGreatDoorRows.lean that lists a variable, with what it lists TIED to the program's text (the seventh form; the later family's looks); each row that meets fmt, with fmt's text TOLD by the authors' own Lean function (tested against real Go, not proved from fmt's source: count such statements apart). THE CARD IS WHAT COUNTS. Prove the row's statement (the work); the ties are given (YtlefalplljgkeaaGreatDoorTie.lean); close each card by the builder's one call (the guide's Derived/Test/ToyasCard.lean, 'card_holds'). Laid BY PROGRAM, IN A SANDBOX (cutbox-door.mjs). By AI agents, Wed Nov 11 2026. No macro, syntax, notation, axiom, sorry.
-/
import Derived.Test.YtlefalplljgkeaaGreatDoorRows
import GoSem.ClaimSeven
namespace Go.Proofs.YtlefalplljgkeaaGreatDoor
namespace Rows

/-- THE TIED CARD OF 'usherlaw23.AgentLasts'. -/
def agentLastsCard : Claim7 := { stood := { row := agentLastsRow, standIns := [], harness := (true, "973a4d2781db078b9fa13ddb705bb43fedef559ebc7ef97e22005c91f7c52202"), looks := true }, kinds := [], alts := [], laidByText := true, laidKinds := [.data, .data, .data, .data, .sentinel, .sentinel, .sentinel, .sentinel, .sentinel, .data, .pinned, .pinned], laidTests := true, laidLooks := .later }
def AgentLastsCardSaid : Prop := Claim7.holds Tryz.pinned (.plain (OpenSpec.ofChange agentLastsSpec)) agentLastsCard

/-- THE SECOND FORM's CARD OF 'usherlaw23.AgentLasts'. -/
def agentLastsUptoCard : Claim7 := { stood := { row := agentLastsUptoRow, standIns := [], harness := (true, "973a4d2781db078b9fa13ddb705bb43fedef559ebc7ef97e22005c91f7c52202"), looks := true }, kinds := [], alts := [], laidByText := true, laidKinds := [.data, .data, .data, .data, .sentinel, .sentinel, .sentinel, .sentinel, .sentinel, .data, .pinned, .pinned], laidTests := true, laidLooks := .later }
def AgentLastsUptoCardSaid : Prop := Claim7.holds Tryz.pinned (.plain (OpenSpec.upto agentLastsSpec)) agentLastsUptoCard
end Rows
end Go.Proofs.YtlefalplljgkeaaGreatDoor
