/-
  DERIVED. GIVEN WITH THE SEED: THE CARDS: each row of YtgppnklildhmbaaDoorRows.lean that lists a variable, with what it lists TIED to the program's text (the seventh form; the later family's looks); each row that meets fmt, with fmt's text TOLD by the authors' own Lean function (tested against real Go, not proved from fmt's source: count such statements apart). THE CARD IS WHAT COUNTS. Prove the row's statement (the work); the ties are given (YtgppnklildhmbaaDoorTie.lean); close each card by the builder's one call (the guide's Derived/Test/ToyasCard.lean, 'card_holds'). Laid BY PROGRAM, IN A SANDBOX (cutbox-door.mjs). By AI agents, Wed Nov 11 2026. No macro, syntax, notation, axiom, sorry.
-/
import Derived.Test.YtgppnklildhmbaaDoorRows
import GoSem.ClaimSeven
namespace Go.Proofs.YtgppnklildhmbaaDoor
namespace Rows

/-- THE TIED CARD OF 'usherlaw10.PkceGrammar'. -/
def pkceGrammarCard : Claim7 := { stood := { row := pkceGrammarRow, standIns := [], harness := (true, "b5e7dd13685a7cba7cd5704d73b807fd9927298f20100ea20fc577c989d67718"), looks := false }, kinds := [], alts := [], laidByText := true, laidKinds := [.data], laidTests := true, laidLooks := .later }
def PkceGrammarCardSaid : Prop := Claim7.holds Tryd.pinned (.plain (OpenSpec.ofChange pkceGrammarSpec)) pkceGrammarCard

/-- THE TIED CARD OF 'usherlaw10.PkceOnly'. -/
def pkceOnlyCard : Claim7 := { stood := { row := pkceOnlyRow, standIns := [], harness := (true, "b5e7dd13685a7cba7cd5704d73b807fd9927298f20100ea20fc577c989d67718"), looks := false }, kinds := [], alts := [], laidByText := true, laidKinds := [.data, .data, .data, .data], laidTests := true, laidLooks := .later }
def PkceOnlyCardSaid : Prop := Claim7.holds Tryd.pinned (.plain (OpenSpec.ofChange pkceOnlySpec)) pkceOnlyCard

/-- THE TIED CARD OF 'usherlaw10.PkceBound'. -/
def pkceBoundCard : Claim7 := { stood := { row := pkceBoundRow, standIns := [], harness := (true, "b5e7dd13685a7cba7cd5704d73b807fd9927298f20100ea20fc577c989d67718"), looks := false }, kinds := [], alts := [], laidByText := true, laidKinds := [.sentinel, .data, .data, .data, .data], laidTests := true, laidLooks := .later }
def PkceBoundCardSaid : Prop := Claim7.holds Tryd.pinned (.plain (OpenSpec.ofChange pkceBoundSpec)) pkceBoundCard

/-- THE TIED CARD OF 'usherlaw10.PkceS256'. -/
def pkceS256Card : Claim7 := { stood := { row := pkceS256Row, standIns := [], harness := (true, "b5e7dd13685a7cba7cd5704d73b807fd9927298f20100ea20fc577c989d67718"), looks := false }, kinds := [], alts := [], laidByText := true, laidKinds := [.data, .data, .data, .data, .data], laidTests := true, laidLooks := .later }
def PkceS256CardSaid : Prop := Claim7.holds Tryd.pinned (.plain (OpenSpec.ofChange pkceS256Spec)) pkceS256Card

/-- THE TIED CARD OF 'usherlaw10.PkceMatch'. -/
def pkceMatchCard : Claim7 := { stood := { row := pkceMatchRow, standIns := [], harness := (true, "b5e7dd13685a7cba7cd5704d73b807fd9927298f20100ea20fc577c989d67718"), looks := false }, kinds := [], alts := [], laidByText := true, laidKinds := [.data, .data, .data, .data, .data, .data], laidTests := true, laidLooks := .later }
def PkceMatchCardSaid : Prop := Claim7.holds Tryd.pinned (.plain (OpenSpec.ofChange pkceMatchSpec)) pkceMatchCard

/-- THE SECOND FORM's CARD OF 'usherlaw10.PkceGrammar'. -/
def pkceGrammarUptoCard : Claim7 := { stood := { row := pkceGrammarUptoRow, standIns := [], harness := (true, "b5e7dd13685a7cba7cd5704d73b807fd9927298f20100ea20fc577c989d67718"), looks := false }, kinds := [], alts := [], laidByText := true, laidKinds := [.data], laidTests := true, laidLooks := .later }
def PkceGrammarUptoCardSaid : Prop := Claim7.holds Tryd.pinned (.plain (OpenSpec.upto pkceGrammarSpec)) pkceGrammarUptoCard

/-- THE SECOND FORM's CARD OF 'usherlaw10.PkceOnly'. -/
def pkceOnlyUptoCard : Claim7 := { stood := { row := pkceOnlyUptoRow, standIns := [], harness := (true, "b5e7dd13685a7cba7cd5704d73b807fd9927298f20100ea20fc577c989d67718"), looks := false }, kinds := [], alts := [], laidByText := true, laidKinds := [.data, .data, .data, .data], laidTests := true, laidLooks := .later }
def PkceOnlyUptoCardSaid : Prop := Claim7.holds Tryd.pinned (.plain (OpenSpec.upto pkceOnlySpec)) pkceOnlyUptoCard

/-- THE SECOND FORM's CARD OF 'usherlaw10.PkceBound'. -/
def pkceBoundUptoCard : Claim7 := { stood := { row := pkceBoundUptoRow, standIns := [], harness := (true, "b5e7dd13685a7cba7cd5704d73b807fd9927298f20100ea20fc577c989d67718"), looks := false }, kinds := [], alts := [], laidByText := true, laidKinds := [.sentinel, .data, .data, .data, .data], laidTests := true, laidLooks := .later }
def PkceBoundUptoCardSaid : Prop := Claim7.holds Tryd.pinned (.plain (OpenSpec.upto pkceBoundSpec)) pkceBoundUptoCard

/-- THE SECOND FORM's CARD OF 'usherlaw10.PkceS256'. -/
def pkceS256UptoCard : Claim7 := { stood := { row := pkceS256UptoRow, standIns := [], harness := (true, "b5e7dd13685a7cba7cd5704d73b807fd9927298f20100ea20fc577c989d67718"), looks := false }, kinds := [], alts := [], laidByText := true, laidKinds := [.data, .data, .data, .data, .data], laidTests := true, laidLooks := .later }
def PkceS256UptoCardSaid : Prop := Claim7.holds Tryd.pinned (.plain (OpenSpec.upto pkceS256Spec)) pkceS256UptoCard

/-- THE SECOND FORM's CARD OF 'usherlaw10.PkceMatch'. -/
def pkceMatchUptoCard : Claim7 := { stood := { row := pkceMatchUptoRow, standIns := [], harness := (true, "b5e7dd13685a7cba7cd5704d73b807fd9927298f20100ea20fc577c989d67718"), looks := false }, kinds := [], alts := [], laidByText := true, laidKinds := [.data, .data, .data, .data, .data, .data], laidTests := true, laidLooks := .later }
def PkceMatchUptoCardSaid : Prop := Claim7.holds Tryd.pinned (.plain (OpenSpec.upto pkceMatchSpec)) pkceMatchUptoCard
end Rows
end Go.Proofs.YtgppnklildhmbaaDoor
