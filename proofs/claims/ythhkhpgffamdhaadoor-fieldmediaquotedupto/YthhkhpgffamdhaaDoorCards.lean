/-
  DERIVED. GIVEN WITH THE SEED: THE CARDS: each row of YthhkhpgffamdhaaDoorRows.lean that lists a variable, with what it lists TIED to the program's text (the seventh form; the later family's looks); each row that meets fmt, with fmt's text TOLD by the authors' own Lean function (tested against real Go, not proved from fmt's source: count such statements apart). THE CARD IS WHAT COUNTS. Prove the row's statement (the work); the ties are given (YthhkhpgffamdhaaDoorTie.lean); close each card by the builder's one call (the guide's Derived/Test/ToyasCard.lean, 'card_holds'). Laid BY PROGRAM, IN A SANDBOX (cutbox-door.mjs). By AI agents, Wed Nov 11 2026. No macro, syntax, notation, axiom, sorry.
-/
import Derived.Test.YthhkhpgffamdhaaDoorRows
import GoSem.ClaimSeven
namespace Go.Proofs.YthhkhpgffamdhaaDoor
namespace Rows

/-- THE TIED CARD OF 'usherlaw6.FieldMediaQuoted'. -/
def fieldMediaQuotedCard : Claim7 := { stood := { row := fieldMediaQuotedRow, standIns := [], harness := (true, "eb557454463fe8f49c3eb14e2ff0086d2790bb2004e0ca687a519e8b9dad0f95"), looks := true }, kinds := [], alts := [], laidByText := true, laidKinds := [.data, .sentinel, .pinned, .pinned], laidTests := true, laidLooks := .later }
def FieldMediaQuotedCardSaid : Prop := Claim7.holds Tryd.pinned (.plain (OpenSpec.ofChange fieldMediaQuotedSpec)) fieldMediaQuotedCard

/-- THE TIED CARD OF 'usherlaw6.FieldMedias'. -/
def fieldMediasCard : Claim7 := { stood := { row := fieldMediasRow, standIns := [], harness := (true, "eb557454463fe8f49c3eb14e2ff0086d2790bb2004e0ca687a519e8b9dad0f95"), looks := true }, kinds := [], alts := [], laidByText := true, laidKinds := [.data, .sentinel, .sentinel, .sentinel, .sentinel, .sentinel, .sentinel, .sentinel, .sentinel, .sentinel, .sentinel, .sentinel, .sentinel, .sentinel, .pinned, .pinned], laidTests := true, laidLooks := .later }
def FieldMediasCardSaid : Prop := Claim7.holds Tryd.pinned (.plain (OpenSpec.ofChange fieldMediasSpec)) fieldMediasCard

/-- THE TIED CARD OF 'usherlaw6.FieldCookieBack'. -/
def fieldCookieBackCard : Claim7 := { stood := { row := fieldCookieBackRow, standIns := [], harness := (true, "eb557454463fe8f49c3eb14e2ff0086d2790bb2004e0ca687a519e8b9dad0f95"), looks := true }, kinds := [], alts := [], laidByText := true, laidKinds := [.data, .sentinel, .sentinel, .pinned], laidTests := true, laidLooks := .later }
def FieldCookieBackCardSaid : Prop := Claim7.holds Tryd.pinned (.plain (OpenSpec.ofChange fieldCookieBackSpec)) fieldCookieBackCard

/-- THE TIED CARD OF 'usherlaw6.FieldCookies'. -/
def fieldCookiesCard : Claim7 := { stood := { row := fieldCookiesRow, standIns := [], harness := (true, "eb557454463fe8f49c3eb14e2ff0086d2790bb2004e0ca687a519e8b9dad0f95"), looks := true }, kinds := [], alts := [], laidByText := true, laidKinds := [.data, .sentinel, .sentinel, .sentinel, .sentinel, .sentinel, .sentinel, .sentinel, .sentinel, .sentinel, .sentinel, .sentinel, .sentinel, .sentinel, .pinned], laidTests := true, laidLooks := .later }
def FieldCookiesCardSaid : Prop := Claim7.holds Tryd.pinned (.plain (OpenSpec.ofChange fieldCookiesSpec)) fieldCookiesCard

/-- THE TIED CARD OF 'usherlaw6.FieldSetBack'. -/
def fieldSetBackCard : Claim7 := { stood := { row := fieldSetBackRow, standIns := [], harness := (true, "eb557454463fe8f49c3eb14e2ff0086d2790bb2004e0ca687a519e8b9dad0f95"), looks := true }, kinds := [], alts := [], laidByText := true, laidKinds := [.data, .data, .data, .sentinel, .sentinel, .sentinel], laidTests := true, laidLooks := .later }
def FieldSetBackCardSaid : Prop := Claim7.holds Tryd.pinned (.plain (OpenSpec.ofChange fieldSetBackSpec)) fieldSetBackCard

/-- THE TIED CARD OF 'usherlaw6.FieldReads'. -/
def fieldReadsCard : Claim7 := { stood := { row := fieldReadsRow, standIns := [], harness := (true, "eb557454463fe8f49c3eb14e2ff0086d2790bb2004e0ca687a519e8b9dad0f95"), looks := true }, kinds := [], alts := [], laidByText := true, laidKinds := [.data, .data, .data, .sentinel, .sentinel, .sentinel, .sentinel, .sentinel, .sentinel, .sentinel, .sentinel, .sentinel, .sentinel, .sentinel, .sentinel, .sentinel, .sentinel, .sentinel], laidTests := true, laidLooks := .later }
def FieldReadsCardSaid : Prop := Claim7.holds Tryd.pinned (.plain (OpenSpec.ofChange fieldReadsSpec)) fieldReadsCard

/-- THE SECOND FORM's CARD OF 'usherlaw6.FieldMediaQuoted'. -/
def fieldMediaQuotedUptoCard : Claim7 := { stood := { row := fieldMediaQuotedUptoRow, standIns := [], harness := (true, "eb557454463fe8f49c3eb14e2ff0086d2790bb2004e0ca687a519e8b9dad0f95"), looks := true }, kinds := [], alts := [], laidByText := true, laidKinds := [.data, .sentinel, .pinned, .pinned], laidTests := true, laidLooks := .later }
def FieldMediaQuotedUptoCardSaid : Prop := Claim7.holds Tryd.pinned (.plain (OpenSpec.upto fieldMediaQuotedSpec)) fieldMediaQuotedUptoCard

/-- THE SECOND FORM's CARD OF 'usherlaw6.FieldMedias'. -/
def fieldMediasUptoCard : Claim7 := { stood := { row := fieldMediasUptoRow, standIns := [], harness := (true, "eb557454463fe8f49c3eb14e2ff0086d2790bb2004e0ca687a519e8b9dad0f95"), looks := true }, kinds := [], alts := [], laidByText := true, laidKinds := [.data, .sentinel, .sentinel, .sentinel, .sentinel, .sentinel, .sentinel, .sentinel, .sentinel, .sentinel, .sentinel, .sentinel, .sentinel, .sentinel, .pinned, .pinned], laidTests := true, laidLooks := .later }
def FieldMediasUptoCardSaid : Prop := Claim7.holds Tryd.pinned (.plain (OpenSpec.upto fieldMediasSpec)) fieldMediasUptoCard

/-- THE SECOND FORM's CARD OF 'usherlaw6.FieldCookieBack'. -/
def fieldCookieBackUptoCard : Claim7 := { stood := { row := fieldCookieBackUptoRow, standIns := [], harness := (true, "eb557454463fe8f49c3eb14e2ff0086d2790bb2004e0ca687a519e8b9dad0f95"), looks := true }, kinds := [], alts := [], laidByText := true, laidKinds := [.data, .sentinel, .sentinel, .pinned], laidTests := true, laidLooks := .later }
def FieldCookieBackUptoCardSaid : Prop := Claim7.holds Tryd.pinned (.plain (OpenSpec.upto fieldCookieBackSpec)) fieldCookieBackUptoCard

/-- THE SECOND FORM's CARD OF 'usherlaw6.FieldCookies'. -/
def fieldCookiesUptoCard : Claim7 := { stood := { row := fieldCookiesUptoRow, standIns := [], harness := (true, "eb557454463fe8f49c3eb14e2ff0086d2790bb2004e0ca687a519e8b9dad0f95"), looks := true }, kinds := [], alts := [], laidByText := true, laidKinds := [.data, .sentinel, .sentinel, .sentinel, .sentinel, .sentinel, .sentinel, .sentinel, .sentinel, .sentinel, .sentinel, .sentinel, .sentinel, .sentinel, .pinned], laidTests := true, laidLooks := .later }
def FieldCookiesUptoCardSaid : Prop := Claim7.holds Tryd.pinned (.plain (OpenSpec.upto fieldCookiesSpec)) fieldCookiesUptoCard

/-- THE SECOND FORM's CARD OF 'usherlaw6.FieldSetBack'. -/
def fieldSetBackUptoCard : Claim7 := { stood := { row := fieldSetBackUptoRow, standIns := [], harness := (true, "eb557454463fe8f49c3eb14e2ff0086d2790bb2004e0ca687a519e8b9dad0f95"), looks := true }, kinds := [], alts := [], laidByText := true, laidKinds := [.data, .data, .data, .sentinel, .sentinel, .sentinel], laidTests := true, laidLooks := .later }
def FieldSetBackUptoCardSaid : Prop := Claim7.holds Tryd.pinned (.plain (OpenSpec.upto fieldSetBackSpec)) fieldSetBackUptoCard

/-- THE SECOND FORM's CARD OF 'usherlaw6.FieldReads'. -/
def fieldReadsUptoCard : Claim7 := { stood := { row := fieldReadsUptoRow, standIns := [], harness := (true, "eb557454463fe8f49c3eb14e2ff0086d2790bb2004e0ca687a519e8b9dad0f95"), looks := true }, kinds := [], alts := [], laidByText := true, laidKinds := [.data, .data, .data, .sentinel, .sentinel, .sentinel, .sentinel, .sentinel, .sentinel, .sentinel, .sentinel, .sentinel, .sentinel, .sentinel, .sentinel, .sentinel, .sentinel, .sentinel], laidTests := true, laidLooks := .later }
def FieldReadsUptoCardSaid : Prop := Claim7.holds Tryd.pinned (.plain (OpenSpec.upto fieldReadsSpec)) fieldReadsUptoCard
end Rows
end Go.Proofs.YthhkhpgffamdhaaDoor
