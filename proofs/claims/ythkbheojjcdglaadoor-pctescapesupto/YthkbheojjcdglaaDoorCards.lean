/-
  DERIVED. GIVEN WITH THE SEED: THE CARDS: each row of YthkbheojjcdglaaDoorRows.lean that lists a variable, with what it lists TIED to the program's text (the seventh form; the later family's looks); each row that meets fmt, with fmt's text TOLD by the authors' own Lean function (tested against real Go, not proved from fmt's source: count such statements apart). THE CARD IS WHAT COUNTS. Prove the row's statement (the work); the ties are given (YthkbheojjcdglaaDoorTie.lean); close each card by the builder's one call (the guide's Derived/Test/ToyasCard.lean, 'card_holds'). Laid BY PROGRAM, IN A SANDBOX (cutbox-door.mjs). By AI agents, Wed Nov 11 2026. No macro, syntax, notation, axiom, sorry.
-/
import Derived.Test.YthkbheojjcdglaaDoorRows
import GoSem.ClaimSeven
namespace Go.Proofs.YthkbheojjcdglaaDoor
namespace Rows

/-- THE TIED CARD OF 'usherlaw3.PctRefuses'. -/
def pctRefusesCard : Claim7 := { stood := { row := pctRefusesRow, standIns := [], harness := (true, "ad6eb867289055cb03a5de9a42d406c6a5241271088ca9ddbd1e138d53a60bbe"), looks := true }, kinds := [], alts := [], laidByText := true, laidKinds := [.sentinel], laidTests := true, laidLooks := .later }
def PctRefusesCardSaid : Prop := Claim7.holds Tryd.pinned (.plain (OpenSpec.ofChange pctRefusesSpec)) pctRefusesCard

/-- THE TIED CARD OF 'usherlaw3.PctCase'. -/
def pctCaseCard : Claim7 := { stood := { row := pctCaseRow, standIns := [], harness := (true, "ad6eb867289055cb03a5de9a42d406c6a5241271088ca9ddbd1e138d53a60bbe"), looks := true }, kinds := [], alts := [], laidByText := true, laidKinds := [.sentinel, .sentinel, .sentinel, .sentinel, .sentinel, .sentinel, .sentinel, .sentinel, .sentinel, .sentinel, .sentinel, .sentinel, .sentinel], laidTests := true, laidLooks := .later }
def PctCaseCardSaid : Prop := Claim7.holds Tryd.pinned (.plain (OpenSpec.ofChange pctCaseSpec)) pctCaseCard

/-- THE TIED CARD OF 'usherlaw3.PctUnescapes'. -/
def pctUnescapesCard : Claim7 := { stood := { row := pctUnescapesRow, standIns := [], harness := (true, "ad6eb867289055cb03a5de9a42d406c6a5241271088ca9ddbd1e138d53a60bbe"), looks := true }, kinds := [], alts := [], laidByText := true, laidKinds := [.sentinel, .sentinel, .sentinel, .sentinel, .sentinel, .sentinel, .sentinel, .sentinel, .sentinel, .sentinel, .sentinel, .sentinel, .sentinel], laidTests := true, laidLooks := .later }
def PctUnescapesCardSaid : Prop := Claim7.holds Tryd.pinned (.plain (OpenSpec.ofChange pctUnescapesSpec)) pctUnescapesCard

/-- THE TIED CARD OF 'usherlaw3.PctShape'. -/
def pctShapeCard : Claim7 := { stood := { row := pctShapeRow, standIns := [], harness := (true, "ad6eb867289055cb03a5de9a42d406c6a5241271088ca9ddbd1e138d53a60bbe"), looks := true }, kinds := [], alts := [], laidByText := true, laidKinds := [.data], laidTests := true, laidLooks := .later }
def PctShapeCardSaid : Prop := Claim7.holds Tryd.pinned (.plain (OpenSpec.ofChange pctShapeSpec)) pctShapeCard

/-- THE TIED CARD OF 'usherlaw3.PctBack'. -/
def pctBackCard : Claim7 := { stood := { row := pctBackRow, standIns := [], harness := (true, "ad6eb867289055cb03a5de9a42d406c6a5241271088ca9ddbd1e138d53a60bbe"), looks := true }, kinds := [], alts := [], laidByText := true, laidKinds := [.sentinel, .data], laidTests := true, laidLooks := .later }
def PctBackCardSaid : Prop := Claim7.holds Tryd.pinned (.plain (OpenSpec.ofChange pctBackSpec)) pctBackCard

/-- THE TIED CARD OF 'usherlaw3.PctEscapes'. -/
def pctEscapesCard : Claim7 := { stood := { row := pctEscapesRow, standIns := [], harness := (true, "ad6eb867289055cb03a5de9a42d406c6a5241271088ca9ddbd1e138d53a60bbe"), looks := true }, kinds := [], alts := [], laidByText := true, laidKinds := [.data], laidTests := true, laidLooks := .later }
def PctEscapesCardSaid : Prop := Claim7.holds Tryd.pinned (.plain (OpenSpec.ofChange pctEscapesSpec)) pctEscapesCard

/-- THE SECOND FORM's CARD OF 'usherlaw3.PctRefuses'. -/
def pctRefusesUptoCard : Claim7 := { stood := { row := pctRefusesUptoRow, standIns := [], harness := (true, "ad6eb867289055cb03a5de9a42d406c6a5241271088ca9ddbd1e138d53a60bbe"), looks := true }, kinds := [], alts := [], laidByText := true, laidKinds := [.sentinel], laidTests := true, laidLooks := .later }
def PctRefusesUptoCardSaid : Prop := Claim7.holds Tryd.pinned (.plain (OpenSpec.upto pctRefusesSpec)) pctRefusesUptoCard

/-- THE SECOND FORM's CARD OF 'usherlaw3.PctCase'. -/
def pctCaseUptoCard : Claim7 := { stood := { row := pctCaseUptoRow, standIns := [], harness := (true, "ad6eb867289055cb03a5de9a42d406c6a5241271088ca9ddbd1e138d53a60bbe"), looks := true }, kinds := [], alts := [], laidByText := true, laidKinds := [.sentinel, .sentinel, .sentinel, .sentinel, .sentinel, .sentinel, .sentinel, .sentinel, .sentinel, .sentinel, .sentinel, .sentinel, .sentinel], laidTests := true, laidLooks := .later }
def PctCaseUptoCardSaid : Prop := Claim7.holds Tryd.pinned (.plain (OpenSpec.upto pctCaseSpec)) pctCaseUptoCard

/-- THE SECOND FORM's CARD OF 'usherlaw3.PctUnescapes'. -/
def pctUnescapesUptoCard : Claim7 := { stood := { row := pctUnescapesUptoRow, standIns := [], harness := (true, "ad6eb867289055cb03a5de9a42d406c6a5241271088ca9ddbd1e138d53a60bbe"), looks := true }, kinds := [], alts := [], laidByText := true, laidKinds := [.sentinel, .sentinel, .sentinel, .sentinel, .sentinel, .sentinel, .sentinel, .sentinel, .sentinel, .sentinel, .sentinel, .sentinel, .sentinel], laidTests := true, laidLooks := .later }
def PctUnescapesUptoCardSaid : Prop := Claim7.holds Tryd.pinned (.plain (OpenSpec.upto pctUnescapesSpec)) pctUnescapesUptoCard

/-- THE SECOND FORM's CARD OF 'usherlaw3.PctShape'. -/
def pctShapeUptoCard : Claim7 := { stood := { row := pctShapeUptoRow, standIns := [], harness := (true, "ad6eb867289055cb03a5de9a42d406c6a5241271088ca9ddbd1e138d53a60bbe"), looks := true }, kinds := [], alts := [], laidByText := true, laidKinds := [.data], laidTests := true, laidLooks := .later }
def PctShapeUptoCardSaid : Prop := Claim7.holds Tryd.pinned (.plain (OpenSpec.upto pctShapeSpec)) pctShapeUptoCard

/-- THE SECOND FORM's CARD OF 'usherlaw3.PctBack'. -/
def pctBackUptoCard : Claim7 := { stood := { row := pctBackUptoRow, standIns := [], harness := (true, "ad6eb867289055cb03a5de9a42d406c6a5241271088ca9ddbd1e138d53a60bbe"), looks := true }, kinds := [], alts := [], laidByText := true, laidKinds := [.sentinel, .data], laidTests := true, laidLooks := .later }
def PctBackUptoCardSaid : Prop := Claim7.holds Tryd.pinned (.plain (OpenSpec.upto pctBackSpec)) pctBackUptoCard

/-- THE SECOND FORM's CARD OF 'usherlaw3.PctEscapes'. -/
def pctEscapesUptoCard : Claim7 := { stood := { row := pctEscapesUptoRow, standIns := [], harness := (true, "ad6eb867289055cb03a5de9a42d406c6a5241271088ca9ddbd1e138d53a60bbe"), looks := true }, kinds := [], alts := [], laidByText := true, laidKinds := [.data], laidTests := true, laidLooks := .later }
def PctEscapesUptoCardSaid : Prop := Claim7.holds Tryd.pinned (.plain (OpenSpec.upto pctEscapesSpec)) pctEscapesUptoCard
end Rows
end Go.Proofs.YthkbheojjcdglaaDoor
