/-
  DERIVED. GIVEN WITH THE SEED: THE CARDS: each row of YtkmhhodapnlkiaaDoorRows.lean that lists a variable, with what it lists TIED to the program's text (the seventh form; the later family's looks); each row that meets fmt, with fmt's text TOLD by the authors' own Lean function (tested against real Go, not proved from fmt's source: count such statements apart). THE CARD IS WHAT COUNTS. Prove the row's statement (the work); the ties are given (YtkmhhodapnlkiaaDoorTie.lean); close each card by the builder's one call (the guide's Derived/Test/ToyasCard.lean, 'card_holds'). Laid BY PROGRAM, IN A SANDBOX (cutbox-door.mjs). By AI agents, Wed Nov 11 2026. No macro, syntax, notation, axiom, sorry.
-/
import Derived.Test.YtkmhhodapnlkiaaDoorRows
import GoSem.ClaimSeven
namespace Go.Proofs.YtkmhhodapnlkiaaDoor
namespace Rows

/-- THE TIED CARD OF 'usherlaw16.GrantTicket'. -/
def grantTicketCard : Claim7 := { stood := { row := grantTicketRow, standIns := [], harness := (true, "09f9f56e2e373e20e54666fc16bdd93d2431434e7cdb8a8ce71429c3a8a6c66a"), looks := false }, kinds := [], alts := [], laidByText := true, laidKinds := [.data, .data, .data, .data, .data, .data], laidTests := true, laidLooks := .later }
def GrantTicketCardSaid : Prop := Claim7.holds Tryd.pinned (.plain (OpenSpec.ofChange grantTicketSpec)) grantTicketCard

/-- THE SECOND FORM's CARD OF 'usherlaw16.GrantTicket'. -/
def grantTicketUptoCard : Claim7 := { stood := { row := grantTicketUptoRow, standIns := [], harness := (true, "09f9f56e2e373e20e54666fc16bdd93d2431434e7cdb8a8ce71429c3a8a6c66a"), looks := false }, kinds := [], alts := [], laidByText := true, laidKinds := [.data, .data, .data, .data, .data, .data], laidTests := true, laidLooks := .later }
def GrantTicketUptoCardSaid : Prop := Claim7.holds Tryd.pinned (.plain (OpenSpec.upto grantTicketSpec)) grantTicketUptoCard
end Rows
end Go.Proofs.YtkmhhodapnlkiaaDoor
