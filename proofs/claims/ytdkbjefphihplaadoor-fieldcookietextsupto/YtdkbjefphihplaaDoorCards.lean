/-
  DERIVED. GIVEN WITH THE SEED: THE CARDS: each row of YtdkbjefphihplaaDoorRows.lean that lists a variable, with what it lists TIED to the program's text (the seventh form; the later family's looks); each row that meets fmt, with fmt's text TOLD by the authors' own Lean function (tested against real Go, not proved from fmt's source: count such statements apart). THE CARD IS WHAT COUNTS. Prove the row's statement (the work); the ties are given (YtdkbjefphihplaaDoorTie.lean); close each card by the builder's one call (the guide's Derived/Test/ToyasCard.lean, 'card_holds'). Laid BY PROGRAM, IN A SANDBOX (cutbox-door.mjs). By AI agents, Wed Nov 11 2026. No macro, syntax, notation, axiom, sorry.
-/
import Derived.Test.YtdkbjefphihplaaDoorRows
import GoSem.ClaimSeven
namespace Go.Proofs.YtdkbjefphihplaaDoor
namespace Rows

/-- THE TIED CARD OF 'usherlaw6.FieldBasicOfs'. -/
def fieldBasicOfsCard : Claim7 := { stood := { row := fieldBasicOfsRow, standIns := [], harness := (true, "4256c27ee44defc40a10832d82fac8f20286964f289d105cb0822d99099464d4"), looks := true }, kinds := [], alts := [], laidByText := true, laidKinds := [.data, .data], laidTests := true, laidLooks := .later }
def FieldBasicOfsCardSaid : Prop := Claim7.holds Tryd.pinned (.plain (OpenSpec.ofChange fieldBasicOfsSpec)) fieldBasicOfsCard

/-- THE TIED CARD OF 'usherlaw6.FieldGrammars'. -/
def fieldGrammarsCard : Claim7 := { stood := { row := fieldGrammarsRow, standIns := [], harness := (true, "4256c27ee44defc40a10832d82fac8f20286964f289d105cb0822d99099464d4"), looks := true }, kinds := [], alts := [], laidByText := true, laidKinds := [.data, .pinned], laidTests := true, laidLooks := .later }
def FieldGrammarsCardSaid : Prop := Claim7.holds Tryd.pinned (.plain (OpenSpec.ofChange fieldGrammarsSpec)) fieldGrammarsCard

/-- THE TIED CARD OF 'usherlaw6.FieldMediaQuoted'. -/
def fieldMediaQuotedCard : Claim7 := { stood := { row := fieldMediaQuotedRow, standIns := [], harness := (true, "4256c27ee44defc40a10832d82fac8f20286964f289d105cb0822d99099464d4"), looks := true }, kinds := [], alts := [], laidByText := true, laidKinds := [.data, .sentinel, .pinned, .pinned], laidTests := true, laidLooks := .later }
def FieldMediaQuotedCardSaid : Prop := Claim7.holds Tryd.pinned (.plain (OpenSpec.ofChange fieldMediaQuotedSpec)) fieldMediaQuotedCard

/-- THE TIED CARD OF 'usherlaw6.FieldCookieTexts'. -/
def fieldCookieTextsCard : Claim7 := { stood := { row := fieldCookieTextsRow, standIns := [], harness := (true, "4256c27ee44defc40a10832d82fac8f20286964f289d105cb0822d99099464d4"), looks := true }, kinds := [], alts := [], laidByText := true, laidKinds := [.sentinel, .sentinel, .sentinel, .sentinel, .sentinel, .sentinel, .sentinel, .sentinel, .sentinel, .sentinel, .sentinel, .sentinel, .sentinel], laidTests := true, laidLooks := .later }
def FieldCookieTextsCardSaid : Prop := Claim7.holds Tryd.pinned (.plain (OpenSpec.ofChange fieldCookieTextsSpec)) fieldCookieTextsCard

/-- THE SECOND FORM's CARD OF 'usherlaw6.FieldBasicOfs'. -/
def fieldBasicOfsUptoCard : Claim7 := { stood := { row := fieldBasicOfsUptoRow, standIns := [], harness := (true, "4256c27ee44defc40a10832d82fac8f20286964f289d105cb0822d99099464d4"), looks := true }, kinds := [], alts := [], laidByText := true, laidKinds := [.data, .data], laidTests := true, laidLooks := .later }
def FieldBasicOfsUptoCardSaid : Prop := Claim7.holds Tryd.pinned (.plain (OpenSpec.upto fieldBasicOfsSpec)) fieldBasicOfsUptoCard

/-- THE SECOND FORM's CARD OF 'usherlaw6.FieldGrammars'. -/
def fieldGrammarsUptoCard : Claim7 := { stood := { row := fieldGrammarsUptoRow, standIns := [], harness := (true, "4256c27ee44defc40a10832d82fac8f20286964f289d105cb0822d99099464d4"), looks := true }, kinds := [], alts := [], laidByText := true, laidKinds := [.data, .pinned], laidTests := true, laidLooks := .later }
def FieldGrammarsUptoCardSaid : Prop := Claim7.holds Tryd.pinned (.plain (OpenSpec.upto fieldGrammarsSpec)) fieldGrammarsUptoCard

/-- THE SECOND FORM's CARD OF 'usherlaw6.FieldMediaQuoted'. -/
def fieldMediaQuotedUptoCard : Claim7 := { stood := { row := fieldMediaQuotedUptoRow, standIns := [], harness := (true, "4256c27ee44defc40a10832d82fac8f20286964f289d105cb0822d99099464d4"), looks := true }, kinds := [], alts := [], laidByText := true, laidKinds := [.data, .sentinel, .pinned, .pinned], laidTests := true, laidLooks := .later }
def FieldMediaQuotedUptoCardSaid : Prop := Claim7.holds Tryd.pinned (.plain (OpenSpec.upto fieldMediaQuotedSpec)) fieldMediaQuotedUptoCard

/-- THE SECOND FORM's CARD OF 'usherlaw6.FieldCookieTexts'. -/
def fieldCookieTextsUptoCard : Claim7 := { stood := { row := fieldCookieTextsUptoRow, standIns := [], harness := (true, "4256c27ee44defc40a10832d82fac8f20286964f289d105cb0822d99099464d4"), looks := true }, kinds := [], alts := [], laidByText := true, laidKinds := [.sentinel, .sentinel, .sentinel, .sentinel, .sentinel, .sentinel, .sentinel, .sentinel, .sentinel, .sentinel, .sentinel, .sentinel, .sentinel], laidTests := true, laidLooks := .later }
def FieldCookieTextsUptoCardSaid : Prop := Claim7.holds Tryd.pinned (.plain (OpenSpec.upto fieldCookieTextsSpec)) fieldCookieTextsUptoCard
end Rows
end Go.Proofs.YtdkbjefphihplaaDoor
