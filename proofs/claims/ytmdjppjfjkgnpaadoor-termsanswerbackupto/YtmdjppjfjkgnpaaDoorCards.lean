/-
  DERIVED. GIVEN WITH THE SEED: THE CARDS: each row of YtmdjppjfjkgnpaaDoorRows.lean that lists a variable, with what it lists TIED to the program's text (the seventh form; the later family's looks); each row that meets fmt, with fmt's text TOLD by the authors' own Lean function (tested against real Go, not proved from fmt's source: count such statements apart). THE CARD IS WHAT COUNTS. Prove the row's statement (the work); the ties are given (YtmdjppjfjkgnpaaDoorTie.lean); close each card by the builder's one call (the guide's Derived/Test/ToyasCard.lean, 'card_holds'). Laid BY PROGRAM, IN A SANDBOX (cutbox-door.mjs). By AI agents, Wed Nov 11 2026. No macro, syntax, notation, axiom, sorry.
-/
import Derived.Test.YtmdjppjfjkgnpaaDoorRows
import GoSem.ClaimSeven
namespace Go.Proofs.YtmdjppjfjkgnpaaDoor
namespace Rows

/-- THE TIED CARD OF 'usherlaw9.TermsRedirectSafe'. -/
def termsRedirectSafeCard : Claim7 := { stood := { row := termsRedirectSafeRow, standIns := [], harness := (true, "8c457ffb1dd534e6219e537b71eda8614205f4d16af4a83ceb5ef7c6eb1accde"), looks := true }, kinds := [], alts := [], laidByText := true, laidKinds := [.data, .data, .data, .data, .sentinel, .sentinel, .data, .pinned], laidTests := true, laidLooks := .later }
def TermsRedirectSafeCardSaid : Prop := Claim7.holds Tryd.pinned (.plain (OpenSpec.ofChange termsRedirectSafeSpec)) termsRedirectSafeCard

/-- THE TIED CARD OF 'usherlaw9.TermsAnswerIn'. -/
def termsAnswerInCard : Claim7 := { stood := { row := termsAnswerInRow, standIns := [], harness := (true, "8c457ffb1dd534e6219e537b71eda8614205f4d16af4a83ceb5ef7c6eb1accde"), looks := true }, kinds := [], alts := [], laidByText := true, laidKinds := [.data, .data, .data, .data, .sentinel, .sentinel, .sentinel, .sentinel, .data, .data, .pinned], laidTests := true, laidLooks := .later }
def TermsAnswerInCardSaid : Prop := Claim7.holds Tryd.pinned (.plain (OpenSpec.ofChange termsAnswerInSpec)) termsAnswerInCard

/-- THE TIED CARD OF 'usherlaw9.TermsAnswerBack'. -/
def termsAnswerBackCard : Claim7 := { stood := { row := termsAnswerBackRow, standIns := [], harness := (true, "8c457ffb1dd534e6219e537b71eda8614205f4d16af4a83ceb5ef7c6eb1accde"), looks := true }, kinds := [], alts := [], laidByText := true, laidKinds := [.data, .data, .data, .data, .sentinel, .sentinel, .sentinel, .sentinel, .data, .data, .pinned], laidTests := true, laidLooks := .later }
def TermsAnswerBackCardSaid : Prop := Claim7.holds Tryd.pinned (.plain (OpenSpec.ofChange termsAnswerBackSpec)) termsAnswerBackCard

/-- THE TIED CARD OF 'usherlaw9.TermsRedirects'. -/
def termsRedirectsCard : Claim7 := { stood := { row := termsRedirectsRow, standIns := [], harness := (true, "8c457ffb1dd534e6219e537b71eda8614205f4d16af4a83ceb5ef7c6eb1accde"), looks := true }, kinds := [], alts := [], laidByText := true, laidKinds := [.data, .data, .data, .data, .sentinel, .sentinel, .data, .pinned], laidTests := true, laidLooks := .later }
def TermsRedirectsCardSaid : Prop := Claim7.holds Tryd.pinned (.plain (OpenSpec.ofChange termsRedirectsSpec)) termsRedirectsCard

/-- THE SECOND FORM's CARD OF 'usherlaw9.TermsRedirectSafe'. -/
def termsRedirectSafeUptoCard : Claim7 := { stood := { row := termsRedirectSafeUptoRow, standIns := [], harness := (true, "8c457ffb1dd534e6219e537b71eda8614205f4d16af4a83ceb5ef7c6eb1accde"), looks := true }, kinds := [], alts := [], laidByText := true, laidKinds := [.data, .data, .data, .data, .sentinel, .sentinel, .data, .pinned], laidTests := true, laidLooks := .later }
def TermsRedirectSafeUptoCardSaid : Prop := Claim7.holds Tryd.pinned (.plain (OpenSpec.upto termsRedirectSafeSpec)) termsRedirectSafeUptoCard

/-- THE SECOND FORM's CARD OF 'usherlaw9.TermsAnswerIn'. -/
def termsAnswerInUptoCard : Claim7 := { stood := { row := termsAnswerInUptoRow, standIns := [], harness := (true, "8c457ffb1dd534e6219e537b71eda8614205f4d16af4a83ceb5ef7c6eb1accde"), looks := true }, kinds := [], alts := [], laidByText := true, laidKinds := [.data, .data, .data, .data, .sentinel, .sentinel, .sentinel, .sentinel, .data, .data, .pinned], laidTests := true, laidLooks := .later }
def TermsAnswerInUptoCardSaid : Prop := Claim7.holds Tryd.pinned (.plain (OpenSpec.upto termsAnswerInSpec)) termsAnswerInUptoCard

/-- THE SECOND FORM's CARD OF 'usherlaw9.TermsAnswerBack'. -/
def termsAnswerBackUptoCard : Claim7 := { stood := { row := termsAnswerBackUptoRow, standIns := [], harness := (true, "8c457ffb1dd534e6219e537b71eda8614205f4d16af4a83ceb5ef7c6eb1accde"), looks := true }, kinds := [], alts := [], laidByText := true, laidKinds := [.data, .data, .data, .data, .sentinel, .sentinel, .sentinel, .sentinel, .data, .data, .pinned], laidTests := true, laidLooks := .later }
def TermsAnswerBackUptoCardSaid : Prop := Claim7.holds Tryd.pinned (.plain (OpenSpec.upto termsAnswerBackSpec)) termsAnswerBackUptoCard

/-- THE SECOND FORM's CARD OF 'usherlaw9.TermsRedirects'. -/
def termsRedirectsUptoCard : Claim7 := { stood := { row := termsRedirectsUptoRow, standIns := [], harness := (true, "8c457ffb1dd534e6219e537b71eda8614205f4d16af4a83ceb5ef7c6eb1accde"), looks := true }, kinds := [], alts := [], laidByText := true, laidKinds := [.data, .data, .data, .data, .sentinel, .sentinel, .data, .pinned], laidTests := true, laidLooks := .later }
def TermsRedirectsUptoCardSaid : Prop := Claim7.holds Tryd.pinned (.plain (OpenSpec.upto termsRedirectsSpec)) termsRedirectsUptoCard
end Rows
end Go.Proofs.YtmdjppjfjkgnpaaDoor
