/-
  DERIVED. GIVEN WITH THE SEED: THE CARDS: each row of YtmdjppjfjkgnpaaGreatDoorRows.lean that lists a variable, with what it lists TIED to the program's text (the seventh form; the later family's looks); each row that meets fmt, with fmt's text TOLD by the authors' own Lean function (tested against real Go, not proved from fmt's source: count such statements apart). THE CARD IS WHAT COUNTS. Prove the row's statement (the work); the ties are given (YtmdjppjfjkgnpaaGreatDoorTie.lean); close each card by the builder's one call (the guide's Derived/Test/ToyasCard.lean, 'card_holds'). Laid BY PROGRAM, IN A SANDBOX (cutbox-door.mjs). By AI agents, Wed Nov 11 2026. No macro, syntax, notation, axiom, sorry.
-/
import Derived.Test.YtmdjppjfjkgnpaaGreatDoorRows
import GoSem.ClaimSeven
namespace Go.Proofs.YtmdjppjfjkgnpaaGreatDoor
namespace Rows

/-- THE TIED CARD OF 'usherlaw9.TermsAnswers'. -/
def termsAnswersCard : Claim7 := { stood := { row := termsAnswersRow, standIns := [], harness := (true, "16736bd3aaa3b5008813c2898bb2da489cac7218c2f0288710a42b4c2bf8b503"), looks := true }, kinds := [], alts := [], laidByText := true, laidKinds := [.data, .data, .data, .data, .sentinel, .sentinel, .sentinel, .sentinel, .sentinel, .sentinel, .sentinel, .sentinel, .sentinel, .sentinel, .sentinel, .sentinel, .sentinel, .sentinel, .sentinel, .data, .data, .pinned], laidTests := true, laidLooks := .later }
def TermsAnswersCardSaid : Prop := Claim7.holds Tryz.pinned (.plain (OpenSpec.ofChange termsAnswersSpec)) termsAnswersCard

/-- THE SECOND FORM's CARD OF 'usherlaw9.TermsAnswers'. -/
def termsAnswersUptoCard : Claim7 := { stood := { row := termsAnswersUptoRow, standIns := [], harness := (true, "16736bd3aaa3b5008813c2898bb2da489cac7218c2f0288710a42b4c2bf8b503"), looks := true }, kinds := [], alts := [], laidByText := true, laidKinds := [.data, .data, .data, .data, .sentinel, .sentinel, .sentinel, .sentinel, .sentinel, .sentinel, .sentinel, .sentinel, .sentinel, .sentinel, .sentinel, .sentinel, .sentinel, .sentinel, .sentinel, .data, .data, .pinned], laidTests := true, laidLooks := .later }
def TermsAnswersUptoCardSaid : Prop := Claim7.holds Tryz.pinned (.plain (OpenSpec.upto termsAnswersSpec)) termsAnswersUptoCard
end Rows
end Go.Proofs.YtmdjppjfjkgnpaaGreatDoor
