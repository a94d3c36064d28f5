/-
  DERIVED. GIVEN WITH THE SEED: THE CARDS: each row of YtopdabacbaijcaaDoorRows.lean that lists a variable, with what it lists TIED to the program's text (the seventh form; the later family's looks); each row that meets fmt, with fmt's text TOLD by the authors' own Lean function (tested against real Go, not proved from fmt's source: count such statements apart). THE CARD IS WHAT COUNTS. Prove the row's statement (the work); the ties are given (YtopdabacbaijcaaDoorTie.lean); close each card by the builder's one call (the guide's Derived/Test/ToyasCard.lean, 'card_holds'). Laid BY PROGRAM, IN A SANDBOX (cutbox-door.mjs). By AI agents, Wed Nov 11 2026. No macro, syntax, notation, axiom, sorry.
-/
import Derived.Test.YtopdabacbaijcaaDoorRows
import GoSem.ClaimSeven
namespace Go.Proofs.YtopdabacbaijcaaDoor
namespace Rows

/-- THE TIED CARD OF 'usherlaw13.WalTorn'. -/
def walTornCard : Claim7 := { stood := { row := walTornRow, standIns := [], harness := (true, "a380a7fa279f1d59e75b8b55479d585e837777d68612f30190fa9b1cc7f0b282"), looks := false }, kinds := [], alts := [], laidByText := true, laidKinds := [.sentinel, .data], laidTests := true, laidLooks := .later }
def WalTornCardSaid : Prop := Claim7.holds Tryd.pinned (.plain (OpenSpec.ofChange walTornSpec)) walTornCard

/-- THE TIED CARD OF 'usherlaw13.WalBurst'. -/
def walBurstCard : Claim7 := { stood := { row := walBurstRow, standIns := [], harness := (true, "a380a7fa279f1d59e75b8b55479d585e837777d68612f30190fa9b1cc7f0b282"), looks := false }, kinds := [], alts := [], laidByText := true, laidKinds := [.sentinel, .data], laidTests := true, laidLooks := .later }
def WalBurstCardSaid : Prop := Claim7.holds Tryd.pinned (.plain (OpenSpec.ofChange walBurstSpec)) walBurstCard

/-- THE TIED CARD OF 'usherlaw13.WalTwice'. -/
def walTwiceCard : Claim7 := { stood := { row := walTwiceRow, standIns := [], harness := (true, "a380a7fa279f1d59e75b8b55479d585e837777d68612f30190fa9b1cc7f0b282"), looks := false }, kinds := [], alts := [], laidByText := true, laidKinds := [.sentinel, .sentinel, .data], laidTests := true, laidLooks := .later }
def WalTwiceCardSaid : Prop := Claim7.holds Tryd.pinned (.plain (OpenSpec.ofChange walTwiceSpec)) walTwiceCard

/-- THE SECOND FORM's CARD OF 'usherlaw13.WalTorn'. -/
def walTornUptoCard : Claim7 := { stood := { row := walTornUptoRow, standIns := [], harness := (true, "a380a7fa279f1d59e75b8b55479d585e837777d68612f30190fa9b1cc7f0b282"), looks := false }, kinds := [], alts := [], laidByText := true, laidKinds := [.sentinel, .data], laidTests := true, laidLooks := .later }
def WalTornUptoCardSaid : Prop := Claim7.holds Tryd.pinned (.plain (OpenSpec.upto walTornSpec)) walTornUptoCard

/-- THE SECOND FORM's CARD OF 'usherlaw13.WalBurst'. -/
def walBurstUptoCard : Claim7 := { stood := { row := walBurstUptoRow, standIns := [], harness := (true, "a380a7fa279f1d59e75b8b55479d585e837777d68612f30190fa9b1cc7f0b282"), looks := false }, kinds := [], alts := [], laidByText := true, laidKinds := [.sentinel, .data], laidTests := true, laidLooks := .later }
def WalBurstUptoCardSaid : Prop := Claim7.holds Tryd.pinned (.plain (OpenSpec.upto walBurstSpec)) walBurstUptoCard

/-- THE SECOND FORM's CARD OF 'usherlaw13.WalTwice'. -/
def walTwiceUptoCard : Claim7 := { stood := { row := walTwiceUptoRow, standIns := [], harness := (true, "a380a7fa279f1d59e75b8b55479d585e837777d68612f30190fa9b1cc7f0b282"), looks := false }, kinds := [], alts := [], laidByText := true, laidKinds := [.sentinel, .sentinel, .data], laidTests := true, laidLooks := .later }
def WalTwiceUptoCardSaid : Prop := Claim7.holds Tryd.pinned (.plain (OpenSpec.upto walTwiceSpec)) walTwiceUptoCard
end Rows
end Go.Proofs.YtopdabacbaijcaaDoor
