/-
  DERIVED. GIVEN WITH THE SEED: THE CARDS: each row of YtdgjlpcmpklghaaDoorRows.lean that lists a variable, with what it lists TIED to the program's text (the seventh form; the later family's looks); each row that meets fmt, with fmt's text TOLD by the authors' own Lean function (tested against real Go, not proved from fmt's source: count such statements apart). THE CARD IS WHAT COUNTS. Prove the row's statement (the work); the ties are given (YtdgjlpcmpklghaaDoorTie.lean); close each card by the builder's one call (the guide's Derived/Test/ToyasCard.lean, 'card_holds'). Laid BY PROGRAM, IN A SANDBOX (cutbox-door.mjs). By AI agents, Wed Nov 11 2026. No macro, syntax, notation, axiom, sorry.
-/
import Derived.Test.YtdgjlpcmpklghaaDoorRows
import GoSem.ClaimSeven
namespace Go.Proofs.YtdgjlpcmpklghaaDoor
namespace Rows

/-- THE TIED CARD OF 'usherlaw5.PageEscapeExact'. -/
def pageEscapeExactCard : Claim7 := { stood := { row := pageEscapeExactRow, standIns := [], harness := (true, "c284cad29fb3db8d8c6e394990b66725677d9685340e4ed9ffa9fb274ad771e1"), looks := true }, kinds := [], alts := [], laidByText := true, laidKinds := [.data], laidTests := true, laidLooks := .later }
def PageEscapeExactCardSaid : Prop := Claim7.holds Tryd.pinned (.plain (OpenSpec.ofChange pageEscapeExactSpec)) pageEscapeExactCard

/-- THE TIED CARD OF 'usherlaw5.PageEscapeBack'. -/
def pageEscapeBackCard : Claim7 := { stood := { row := pageEscapeBackRow, standIns := [], harness := (true, "c284cad29fb3db8d8c6e394990b66725677d9685340e4ed9ffa9fb274ad771e1"), looks := true }, kinds := [], alts := [], laidByText := true, laidKinds := [.sentinel, .data], laidTests := true, laidLooks := .later }
def PageEscapeBackCardSaid : Prop := Claim7.holds Tryd.pinned (.plain (OpenSpec.ofChange pageEscapeBackSpec)) pageEscapeBackCard

/-- THE TIED CARD OF 'usherlaw5.PageUnescapeExact'. -/
def pageUnescapeExactCard : Claim7 := { stood := { row := pageUnescapeExactRow, standIns := [], harness := (true, "c284cad29fb3db8d8c6e394990b66725677d9685340e4ed9ffa9fb274ad771e1"), looks := true }, kinds := [], alts := [], laidByText := true, laidKinds := [.sentinel, .sentinel, .sentinel, .sentinel, .sentinel, .sentinel, .sentinel, .sentinel, .sentinel, .sentinel, .sentinel, .sentinel, .sentinel, .data], laidTests := true, laidLooks := .later }
def PageUnescapeExactCardSaid : Prop := Claim7.holds Tryd.pinned (.plain (OpenSpec.ofChange pageUnescapeExactSpec)) pageUnescapeExactCard

/-- THE TIED CARD OF 'usherlaw5.PageEscapeOnly'. -/
def pageEscapeOnlyCard : Claim7 := { stood := { row := pageEscapeOnlyRow, standIns := [], harness := (true, "c284cad29fb3db8d8c6e394990b66725677d9685340e4ed9ffa9fb274ad771e1"), looks := true }, kinds := [], alts := [], laidByText := true, laidKinds := [.sentinel, .sentinel, .sentinel, .sentinel, .sentinel, .sentinel, .sentinel, .sentinel, .sentinel, .sentinel, .sentinel, .sentinel, .sentinel, .data], laidTests := true, laidLooks := .later }
def PageEscapeOnlyCardSaid : Prop := Claim7.holds Tryd.pinned (.plain (OpenSpec.ofChange pageEscapeOnlySpec)) pageEscapeOnlyCard

/-- THE SECOND FORM's CARD OF 'usherlaw5.PageEscapeExact'. -/
def pageEscapeExactUptoCard : Claim7 := { stood := { row := pageEscapeExactUptoRow, standIns := [], harness := (true, "c284cad29fb3db8d8c6e394990b66725677d9685340e4ed9ffa9fb274ad771e1"), looks := true }, kinds := [], alts := [], laidByText := true, laidKinds := [.data], laidTests := true, laidLooks := .later }
def PageEscapeExactUptoCardSaid : Prop := Claim7.holds Tryd.pinned (.plain (OpenSpec.upto pageEscapeExactSpec)) pageEscapeExactUptoCard

/-- THE SECOND FORM's CARD OF 'usherlaw5.PageEscapeBack'. -/
def pageEscapeBackUptoCard : Claim7 := { stood := { row := pageEscapeBackUptoRow, standIns := [], harness := (true, "c284cad29fb3db8d8c6e394990b66725677d9685340e4ed9ffa9fb274ad771e1"), looks := true }, kinds := [], alts := [], laidByText := true, laidKinds := [.sentinel, .data], laidTests := true, laidLooks := .later }
def PageEscapeBackUptoCardSaid : Prop := Claim7.holds Tryd.pinned (.plain (OpenSpec.upto pageEscapeBackSpec)) pageEscapeBackUptoCard

/-- THE SECOND FORM's CARD OF 'usherlaw5.PageUnescapeExact'. -/
def pageUnescapeExactUptoCard : Claim7 := { stood := { row := pageUnescapeExactUptoRow, standIns := [], harness := (true, "c284cad29fb3db8d8c6e394990b66725677d9685340e4ed9ffa9fb274ad771e1"), looks := true }, kinds := [], alts := [], laidByText := true, laidKinds := [.sentinel, .sentinel, .sentinel, .sentinel, .sentinel, .sentinel, .sentinel, .sentinel, .sentinel, .sentinel, .sentinel, .sentinel, .sentinel, .data], laidTests := true, laidLooks := .later }
def PageUnescapeExactUptoCardSaid : Prop := Claim7.holds Tryd.pinned (.plain (OpenSpec.upto pageUnescapeExactSpec)) pageUnescapeExactUptoCard

/-- THE SECOND FORM's CARD OF 'usherlaw5.PageEscapeOnly'. -/
def pageEscapeOnlyUptoCard : Claim7 := { stood := { row := pageEscapeOnlyUptoRow, standIns := [], harness := (true, "c284cad29fb3db8d8c6e394990b66725677d9685340e4ed9ffa9fb274ad771e1"), looks := true }, kinds := [], alts := [], laidByText := true, laidKinds := [.sentinel, .sentinel, .sentinel, .sentinel, .sentinel, .sentinel, .sentinel, .sentinel, .sentinel, .sentinel, .sentinel, .sentinel, .sentinel, .data], laidTests := true, laidLooks := .later }
def PageEscapeOnlyUptoCardSaid : Prop := Claim7.holds Tryd.pinned (.plain (OpenSpec.upto pageEscapeOnlySpec)) pageEscapeOnlyUptoCard
end Rows
end Go.Proofs.YtdgjlpcmpklghaaDoor
