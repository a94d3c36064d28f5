/-
  DERIVED. GIVEN WITH THE SEED: THE CARDS: each row of YtbibfneofcphkaaDoorRows.lean that lists a variable, with what it lists TIED to the program's text (the seventh form; the later family's looks); each row that meets fmt, with fmt's text TOLD by the authors' own Lean function (tested against real Go, not proved from fmt's source: count such statements apart). THE CARD IS WHAT COUNTS. Prove the row's statement (the work); the ties are given (YtbibfneofcphkaaDoorTie.lean); close each card by the builder's one call (the guide's Derived/Test/ToyasCard.lean, 'card_holds'). Laid BY PROGRAM, IN A SANDBOX (cutbox-door.mjs). By AI agents, Wed Nov 11 2026. No macro, syntax, notation, axiom, sorry.
-/
import Derived.Test.YtbibfneofcphkaaDoorRows
import GoSem.ClaimSeven
namespace Go.Proofs.YtbibfneofcphkaaDoor
namespace Rows

/-- THE TIED CARD OF 'usherlaw21.JournalNext'. -/
def journalNextCard : Claim7 := { stood := { row := journalNextRow, standIns := [], harness := (true, "e8a454c255e10d4befce1ed5f009b3dece264002d7e9f0b25ede6e562e9c5178"), looks := true }, kinds := [], alts := [], laidByText := true, laidKinds := [.sentinel, .sentinel, .sentinel, .sentinel, .sentinel, .sentinel, .sentinel, .sentinel, .sentinel, .sentinel, .sentinel, .sentinel, .sentinel, .data, .data], laidTests := true, laidLooks := .later }
def JournalNextCardSaid : Prop := Claim7.holds Tryd.pinned (.plain (OpenSpec.ofChange journalNextSpec)) journalNextCard

/-- THE TIED CARD OF 'usherlaw21.JournalForms'. -/
def journalFormsCard : Claim7 := { stood := { row := journalFormsRow, standIns := [], harness := (true, "e8a454c255e10d4befce1ed5f009b3dece264002d7e9f0b25ede6e562e9c5178"), looks := true }, kinds := [], alts := [], laidByText := true, laidKinds := [.data, .data, .data, .sentinel, .sentinel, .data, .data, .data, .data, .data], laidTests := true, laidLooks := .later }
def JournalFormsCardSaid : Prop := Claim7.holds Tryd.pinned (.plain (OpenSpec.ofChange journalFormsSpec)) journalFormsCard

/-- THE TIED CARD OF 'usherlaw21.JournalCivil'. -/
def journalCivilCard : Claim7 := { stood := { row := journalCivilRow, standIns := [], harness := (true, "e8a454c255e10d4befce1ed5f009b3dece264002d7e9f0b25ede6e562e9c5178"), looks := true }, kinds := [], alts := [], laidByText := true, laidKinds := [.data, .data, .data, .sentinel, .sentinel, .sentinel, .sentinel, .sentinel, .sentinel, .sentinel, .sentinel, .sentinel, .sentinel, .sentinel, .sentinel, .sentinel, .data, .data, .data, .data], laidTests := true, laidLooks := .later }
def JournalCivilCardSaid : Prop := Claim7.holds Tryd.pinned (.plain (OpenSpec.ofChange journalCivilSpec)) journalCivilCard

/-- THE TIED CARD OF 'usherlaw21.JournalDates'. -/
def journalDatesCard : Claim7 := { stood := { row := journalDatesRow, standIns := [], harness := (true, "e8a454c255e10d4befce1ed5f009b3dece264002d7e9f0b25ede6e562e9c5178"), looks := true }, kinds := [], alts := [], laidByText := true, laidKinds := [.sentinel, .sentinel, .sentinel, .sentinel, .sentinel, .sentinel, .sentinel, .sentinel, .sentinel, .sentinel, .sentinel, .sentinel, .sentinel, .data, .data, .data, .data, .data, .data], laidTests := true, laidLooks := .later }
def JournalDatesCardSaid : Prop := Claim7.holds Tryd.pinned (.plain (OpenSpec.ofChange journalDatesSpec)) journalDatesCard

/-- THE SECOND FORM's CARD OF 'usherlaw21.JournalNext'. -/
def journalNextUptoCard : Claim7 := { stood := { row := journalNextUptoRow, standIns := [], harness := (true, "e8a454c255e10d4befce1ed5f009b3dece264002d7e9f0b25ede6e562e9c5178"), looks := true }, kinds := [], alts := [], laidByText := true, laidKinds := [.sentinel, .sentinel, .sentinel, .sentinel, .sentinel, .sentinel, .sentinel, .sentinel, .sentinel, .sentinel, .sentinel, .sentinel, .sentinel, .data, .data], laidTests := true, laidLooks := .later }
def JournalNextUptoCardSaid : Prop := Claim7.holds Tryd.pinned (.plain (OpenSpec.upto journalNextSpec)) journalNextUptoCard

/-- THE SECOND FORM's CARD OF 'usherlaw21.JournalForms'. -/
def journalFormsUptoCard : Claim7 := { stood := { row := journalFormsUptoRow, standIns := [], harness := (true, "e8a454c255e10d4befce1ed5f009b3dece264002d7e9f0b25ede6e562e9c5178"), looks := true }, kinds := [], alts := [], laidByText := true, laidKinds := [.data, .data, .data, .sentinel, .sentinel, .data, .data, .data, .data, .data], laidTests := true, laidLooks := .later }
def JournalFormsUptoCardSaid : Prop := Claim7.holds Tryd.pinned (.plain (OpenSpec.upto journalFormsSpec)) journalFormsUptoCard

/-- THE SECOND FORM's CARD OF 'usherlaw21.JournalCivil'. -/
def journalCivilUptoCard : Claim7 := { stood := { row := journalCivilUptoRow, standIns := [], harness := (true, "e8a454c255e10d4befce1ed5f009b3dece264002d7e9f0b25ede6e562e9c5178"), looks := true }, kinds := [], alts := [], laidByText := true, laidKinds := [.data, .data, .data, .sentinel, .sentinel, .sentinel, .sentinel, .sentinel, .sentinel, .sentinel, .sentinel, .sentinel, .sentinel, .sentinel, .sentinel, .sentinel, .data, .data, .data, .data], laidTests := true, laidLooks := .later }
def JournalCivilUptoCardSaid : Prop := Claim7.holds Tryd.pinned (.plain (OpenSpec.upto journalCivilSpec)) journalCivilUptoCard

/-- THE SECOND FORM's CARD OF 'usherlaw21.JournalDates'. -/
def journalDatesUptoCard : Claim7 := { stood := { row := journalDatesUptoRow, standIns := [], harness := (true, "e8a454c255e10d4befce1ed5f009b3dece264002d7e9f0b25ede6e562e9c5178"), looks := true }, kinds := [], alts := [], laidByText := true, laidKinds := [.sentinel, .sentinel, .sentinel, .sentinel, .sentinel, .sentinel, .sentinel, .sentinel, .sentinel, .sentinel, .sentinel, .sentinel, .sentinel, .data, .data, .data, .data, .data, .data], laidTests := true, laidLooks := .later }
def JournalDatesUptoCardSaid : Prop := Claim7.holds Tryd.pinned (.plain (OpenSpec.upto journalDatesSpec)) journalDatesUptoCard
end Rows
end Go.Proofs.YtbibfneofcphkaaDoor
