/-
  DERIVED. GIVEN WITH THE SEED: THE CARDS: each row of YtpadnllngbjbnaaDoorRows.lean that lists a variable, with what it lists TIED to the program's text (the seventh form; the later family's looks); each row that meets fmt, with fmt's text TOLD by the authors' own Lean function (tested against real Go, not proved from fmt's source: count such statements apart). THE CARD IS WHAT COUNTS. Prove the row's statement (the work); the ties are given (YtpadnllngbjbnaaDoorTie.lean); close each card by the builder's one call (the guide's Derived/Test/ToyasCard.lean, 'card_holds'). Laid BY PROGRAM, IN A SANDBOX (cutbox-door.mjs). By AI agents, Wed Nov 11 2026. No macro, syntax, notation, axiom, sorry.
-/
import Derived.Test.YtpadnllngbjbnaaDoorRows
import GoSem.ClaimSeven
namespace Go.Proofs.YtpadnllngbjbnaaDoor
namespace Rows

/-- THE TIED CARD OF 'usherlaw8.ReplyReasonExact'. -/
def replyReasonExactCard : Claim7 := { stood := { row := replyReasonExactRow, standIns := [], harness := (true, "1023125e7284f670b71eb6e3d62e091ef9867f53920f8d1b0e58843da12b8e76"), looks := false }, kinds := [], alts := [], laidByText := true, laidKinds := [.data], laidTests := true, laidLooks := .later }
def ReplyReasonExactCardSaid : Prop := Claim7.holds Tryd.pinned (.plain (OpenSpec.ofChange replyReasonExactSpec)) replyReasonExactCard

/-- THE SECOND FORM's CARD OF 'usherlaw8.ReplyReasonExact'. -/
def replyReasonExactUptoCard : Claim7 := { stood := { row := replyReasonExactUptoRow, standIns := [], harness := (true, "1023125e7284f670b71eb6e3d62e091ef9867f53920f8d1b0e58843da12b8e76"), looks := false }, kinds := [], alts := [], laidByText := true, laidKinds := [.data], laidTests := true, laidLooks := .later }
def ReplyReasonExactUptoCardSaid : Prop := Claim7.holds Tryd.pinned (.plain (OpenSpec.upto replyReasonExactSpec)) replyReasonExactUptoCard
end Rows
end Go.Proofs.YtpadnllngbjbnaaDoor
