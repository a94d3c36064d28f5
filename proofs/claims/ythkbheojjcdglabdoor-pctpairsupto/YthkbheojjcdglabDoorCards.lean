/-
  DERIVED. GIVEN WITH THE SEED: THE CARDS: each row of YthkbheojjcdglabDoorRows.lean that lists a variable, with what it lists TIED to the program's text (the seventh form; the later family's looks); each row that meets fmt, with fmt's text TOLD by the authors' own Lean function (tested against real Go, not proved from fmt's source: count such statements apart). THE CARD IS WHAT COUNTS. Prove the row's statement (the work); the ties are given (YthkbheojjcdglabDoorTie.lean); close each card by the builder's one call (the guide's Derived/Test/ToyasCard.lean, 'card_holds'). Laid BY PROGRAM, IN A SANDBOX (cutbox-door.mjs). By AI agents, Wed Nov 11 2026. No macro, syntax, notation, axiom, sorry.
-/
import Derived.Test.YthkbheojjcdglabDoorRows
import GoSem.ClaimSeven
namespace Go.Proofs.YthkbheojjcdglabDoor
namespace Rows

/-- THE TIED CARD OF 'usherlaw3.PctForms'. -/
def pctFormsCard : Claim7 := { stood := { row := pctFormsRow, standIns := [], harness := (true, "5903dadffb9d04262b01d35474072a049d9ff81394a55c89ddc77b801050080c"), looks := true }, kinds := [], alts := [], laidByText := true, laidKinds := [.data], laidTests := true, laidLooks := .later }
def PctFormsCardSaid : Prop := Claim7.holds Tryd.pinned (.plain (OpenSpec.ofChange pctFormsSpec)) pctFormsCard

/-- THE TIED CARD OF 'usherlaw3.PctJoin'. -/
def pctJoinCard : Claim7 := { stood := { row := pctJoinRow, standIns := [], harness := (true, "5903dadffb9d04262b01d35474072a049d9ff81394a55c89ddc77b801050080c"), looks := true }, kinds := [], alts := [], laidByText := true, laidKinds := [.data, .sentinel, .sentinel, .pinned], laidTests := true, laidLooks := .later }
def PctJoinCardSaid : Prop := Claim7.holds Tryd.pinned (.plain (OpenSpec.ofChange pctJoinSpec)) pctJoinCard

/-- THE TIED CARD OF 'usherlaw3.PctFormBack'. -/
def pctFormBackCard : Claim7 := { stood := { row := pctFormBackRow, standIns := [], harness := (true, "5903dadffb9d04262b01d35474072a049d9ff81394a55c89ddc77b801050080c"), looks := true }, kinds := [], alts := [], laidByText := true, laidKinds := [.data, .sentinel, .sentinel, .data, .pinned], laidTests := true, laidLooks := .later }
def PctFormBackCardSaid : Prop := Claim7.holds Tryd.pinned (.plain (OpenSpec.ofChange pctFormBackSpec)) pctFormBackCard

/-- THE TIED CARD OF 'usherlaw3.PctOnce'. -/
def pctOnceCard : Claim7 := { stood := { row := pctOnceRow, standIns := [], harness := (true, "5903dadffb9d04262b01d35474072a049d9ff81394a55c89ddc77b801050080c"), looks := true }, kinds := [], alts := [], laidByText := true, laidKinds := [.data, .sentinel, .sentinel, .data, .pinned], laidTests := true, laidLooks := .later }
def PctOnceCardSaid : Prop := Claim7.holds Tryd.pinned (.plain (OpenSpec.ofChange pctOnceSpec)) pctOnceCard

/-- THE TIED CARD OF 'usherlaw3.PctPairs'. -/
def pctPairsCard : Claim7 := { stood := { row := pctPairsRow, standIns := [], harness := (true, "5903dadffb9d04262b01d35474072a049d9ff81394a55c89ddc77b801050080c"), looks := true }, kinds := [], alts := [], laidByText := true, laidKinds := [.data, .sentinel, .sentinel, .sentinel, .sentinel, .sentinel, .sentinel, .sentinel, .sentinel, .sentinel, .sentinel, .sentinel, .sentinel, .sentinel, .pinned], laidTests := true, laidLooks := .later }
def PctPairsCardSaid : Prop := Claim7.holds Tryd.pinned (.plain (OpenSpec.ofChange pctPairsSpec)) pctPairsCard

/-- THE SECOND FORM's CARD OF 'usherlaw3.PctForms'. -/
def pctFormsUptoCard : Claim7 := { stood := { row := pctFormsUptoRow, standIns := [], harness := (true, "5903dadffb9d04262b01d35474072a049d9ff81394a55c89ddc77b801050080c"), looks := true }, kinds := [], alts := [], laidByText := true, laidKinds := [.data], laidTests := true, laidLooks := .later }
def PctFormsUptoCardSaid : Prop := Claim7.holds Tryd.pinned (.plain (OpenSpec.upto pctFormsSpec)) pctFormsUptoCard

/-- THE SECOND FORM's CARD OF 'usherlaw3.PctJoin'. -/
def pctJoinUptoCard : Claim7 := { stood := { row := pctJoinUptoRow, standIns := [], harness := (true, "5903dadffb9d04262b01d35474072a049d9ff81394a55c89ddc77b801050080c"), looks := true }, kinds := [], alts := [], laidByText := true, laidKinds := [.data, .sentinel, .sentinel, .pinned], laidTests := true, laidLooks := .later }
def PctJoinUptoCardSaid : Prop := Claim7.holds Tryd.pinned (.plain (OpenSpec.upto pctJoinSpec)) pctJoinUptoCard

/-- THE SECOND FORM's CARD OF 'usherlaw3.PctFormBack'. -/
def pctFormBackUptoCard : Claim7 := { stood := { row := pctFormBackUptoRow, standIns := [], harness := (true, "5903dadffb9d04262b01d35474072a049d9ff81394a55c89ddc77b801050080c"), looks := true }, kinds := [], alts := [], laidByText := true, laidKinds := [.data, .sentinel, .sentinel, .data, .pinned], laidTests := true, laidLooks := .later }
def PctFormBackUptoCardSaid : Prop := Claim7.holds Tryd.pinned (.plain (OpenSpec.upto pctFormBackSpec)) pctFormBackUptoCard

/-- THE SECOND FORM's CARD OF 'usherlaw3.PctOnce'. -/
def pctOnceUptoCard : Claim7 := { stood := { row := pctOnceUptoRow, standIns := [], harness := (true, "5903dadffb9d04262b01d35474072a049d9ff81394a55c89ddc77b801050080c"), looks := true }, kinds := [], alts := [], laidByText := true, laidKinds := [.data, .sentinel, .sentinel, .data, .pinned], laidTests := true, laidLooks := .later }
def PctOnceUptoCardSaid : Prop := Claim7.holds Tryd.pinned (.plain (OpenSpec.upto pctOnceSpec)) pctOnceUptoCard

/-- THE SECOND FORM's CARD OF 'usherlaw3.PctPairs'. -/
def pctPairsUptoCard : Claim7 := { stood := { row := pctPairsUptoRow, standIns := [], harness := (true, "5903dadffb9d04262b01d35474072a049d9ff81394a55c89ddc77b801050080c"), looks := true }, kinds := [], alts := [], laidByText := true, laidKinds := [.data, .sentinel, .sentinel, .sentinel, .sentinel, .sentinel, .sentinel, .sentinel, .sentinel, .sentinel, .sentinel, .sentinel, .sentinel, .sentinel, .pinned], laidTests := true, laidLooks := .later }
def PctPairsUptoCardSaid : Prop := Claim7.holds Tryd.pinned (.plain (OpenSpec.upto pctPairsSpec)) pctPairsUptoCard
end Rows
end Go.Proofs.YthkbheojjcdglabDoor
