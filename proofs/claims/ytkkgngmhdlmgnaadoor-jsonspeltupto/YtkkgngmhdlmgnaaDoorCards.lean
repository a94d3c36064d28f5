/-
  DERIVED. GIVEN WITH THE SEED: THE CARDS: each row of YtkkgngmhdlmgnaaDoorRows.lean that lists a variable, with what it lists TIED to the program's text (the seventh form; the later family's looks); each row that meets fmt, with fmt's text TOLD by the authors' own Lean function (tested against real Go, not proved from fmt's source: count such statements apart). THE CARD IS WHAT COUNTS. Prove the row's statement (the work); the ties are given (YtkkgngmhdlmgnaaDoorTie.lean); close each card by the builder's one call (the guide's Derived/Test/ToyasCard.lean, 'card_holds'). Laid BY PROGRAM, IN A SANDBOX (cutbox-door.mjs). By AI agents, Wed Nov 11 2026. No macro, syntax, notation, axiom, sorry.
-/
import Derived.Test.YtkkgngmhdlmgnaaDoorRows
import GoSem.ClaimSeven
namespace Go.Proofs.YtkkgngmhdlmgnaaDoor
namespace Rows

/-- THE TIED CARD OF 'usherlaw4.JsonRead'. -/
def jsonReadCard : Claim7 := { stood := { row := jsonReadRow, standIns := [], harness := (true, "ed52690a7f41ec561d6dc4e6a5fc8180e2b1489047ebce2dba07f511018790f5"), looks := true }, kinds := [], alts := [], laidByText := true, laidKinds := [.data, .data, .data, .data, .sentinel, .sentinel, .sentinel, .sentinel, .sentinel, .sentinel, .sentinel, .sentinel, .sentinel, .sentinel, .sentinel, .sentinel, .sentinel, .sentinel, .sentinel, .data, .pinned], laidTests := true, laidLooks := .later }
def JsonReadCardSaid : Prop := Claim7.holds Tryd.pinned (.plain (OpenSpec.ofChange jsonReadSpec)) jsonReadCard

/-- THE TIED CARD OF 'usherlaw4.JsonNew'. -/
def jsonNewCard : Claim7 := { stood := { row := jsonNewRow, standIns := [], harness := (true, "ed52690a7f41ec561d6dc4e6a5fc8180e2b1489047ebce2dba07f511018790f5"), looks := true }, kinds := [], alts := [], laidByText := true, laidKinds := [.data, .data, .data, .data, .sentinel, .sentinel, .sentinel, .sentinel, .sentinel, .sentinel, .sentinel, .sentinel, .sentinel, .sentinel, .sentinel, .sentinel, .sentinel, .sentinel, .sentinel, .data, .pinned], laidTests := true, laidLooks := .later }
def JsonNewCardSaid : Prop := Claim7.holds Tryd.pinned (.plain (OpenSpec.ofChange jsonNewSpec)) jsonNewCard

/-- THE TIED CARD OF 'usherlaw4.JsonSpelt'. -/
def jsonSpeltCard : Claim7 := { stood := { row := jsonSpeltRow, standIns := [], harness := (true, "ed52690a7f41ec561d6dc4e6a5fc8180e2b1489047ebce2dba07f511018790f5"), looks := true }, kinds := [], alts := [], laidByText := true, laidKinds := [.data, .data, .data, .data, .sentinel, .sentinel, .sentinel, .sentinel, .sentinel, .sentinel, .sentinel, .sentinel, .sentinel, .sentinel, .sentinel, .sentinel, .sentinel, .sentinel, .sentinel, .data, .data, .pinned], laidTests := true, laidLooks := .later }
def JsonSpeltCardSaid : Prop := Claim7.holds Tryd.pinned (.plain (OpenSpec.ofChange jsonSpeltSpec)) jsonSpeltCard

/-- THE SECOND FORM's CARD OF 'usherlaw4.JsonRead'. -/
def jsonReadUptoCard : Claim7 := { stood := { row := jsonReadUptoRow, standIns := [], harness := (true, "ed52690a7f41ec561d6dc4e6a5fc8180e2b1489047ebce2dba07f511018790f5"), looks := true }, kinds := [], alts := [], laidByText := true, laidKinds := [.data, .data, .data, .data, .sentinel, .sentinel, .sentinel, .sentinel, .sentinel, .sentinel, .sentinel, .sentinel, .sentinel, .sentinel, .sentinel, .sentinel, .sentinel, .sentinel, .sentinel, .data, .pinned], laidTests := true, laidLooks := .later }
def JsonReadUptoCardSaid : Prop := Claim7.holds Tryd.pinned (.plain (OpenSpec.upto jsonReadSpec)) jsonReadUptoCard

/-- THE SECOND FORM's CARD OF 'usherlaw4.JsonNew'. -/
def jsonNewUptoCard : Claim7 := { stood := { row := jsonNewUptoRow, standIns := [], harness := (true, "ed52690a7f41ec561d6dc4e6a5fc8180e2b1489047ebce2dba07f511018790f5"), looks := true }, kinds := [], alts := [], laidByText := true, laidKinds := [.data, .data, .data, .data, .sentinel, .sentinel, .sentinel, .sentinel, .sentinel, .sentinel, .sentinel, .sentinel, .sentinel, .sentinel, .sentinel, .sentinel, .sentinel, .sentinel, .sentinel, .data, .pinned], laidTests := true, laidLooks := .later }
def JsonNewUptoCardSaid : Prop := Claim7.holds Tryd.pinned (.plain (OpenSpec.upto jsonNewSpec)) jsonNewUptoCard

/-- THE SECOND FORM's CARD OF 'usherlaw4.JsonSpelt'. -/
def jsonSpeltUptoCard : Claim7 := { stood := { row := jsonSpeltUptoRow, standIns := [], harness := (true, "ed52690a7f41ec561d6dc4e6a5fc8180e2b1489047ebce2dba07f511018790f5"), looks := true }, kinds := [], alts := [], laidByText := true, laidKinds := [.data, .data, .data, .data, .sentinel, .sentinel, .sentinel, .sentinel, .sentinel, .sentinel, .sentinel, .sentinel, .sentinel, .sentinel, .sentinel, .sentinel, .sentinel, .sentinel, .sentinel, .data, .data, .pinned], laidTests := true, laidLooks := .later }
def JsonSpeltUptoCardSaid : Prop := Claim7.holds Tryd.pinned (.plain (OpenSpec.upto jsonSpeltSpec)) jsonSpeltUptoCard
end Rows
end Go.Proofs.YtkkgngmhdlmgnaaDoor
