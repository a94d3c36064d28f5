/-
  DERIVED. GIVEN WITH THE SEED: THE CARDS: each row of YticncaoecoehkaaDoorRows.lean that lists a variable, with what it lists TIED to the program's text (the seventh form; the later family's looks); each row that meets fmt, with fmt's text TOLD by the authors' own Lean function (tested against real Go, not proved from fmt's source: count such statements apart). THE CARD IS WHAT COUNTS. Prove the row's statement (the work); the ties are given (YticncaoecoehkaaDoorTie.lean); close each card by the builder's one call (the guide's Derived/Test/ToyasCard.lean, 'card_holds'). Laid BY PROGRAM, IN A SANDBOX (cutbox-door.mjs). By AI agents, Wed Nov 11 2026. No macro, syntax, notation, axiom, sorry.
-/
import Derived.Test.YticncaoecoehkaaDoorRows
import GoSem.ClaimSeven
namespace Go.Proofs.YticncaoecoehkaaDoor
namespace Rows

/-- THE TIED CARD OF 'usherlaw13.WalTwice'. -/
def walTwiceCard : Claim7 := { stood := { row := walTwiceRow, standIns := [], harness := (true, "9e9178211cfd311059a3bf462f354678ff8c7e9ebfabb022c1168b0f057bb8d6"), looks := true }, kinds := [], alts := [], laidByText := true, laidKinds := [.sentinel, .sentinel, .data], laidTests := true, laidLooks := .later }
def WalTwiceCardSaid : Prop := Claim7.holds Tryd.pinned (.plain (OpenSpec.ofChange walTwiceSpec)) walTwiceCard

/-- THE TIED CARD OF 'usherlaw13.WalFull'. -/
def walFullCard : Claim7 := { stood := { row := walFullRow, standIns := [], harness := (true, "9e9178211cfd311059a3bf462f354678ff8c7e9ebfabb022c1168b0f057bb8d6"), looks := true }, kinds := [], alts := [], laidByText := true, laidKinds := [.sentinel, .sentinel, .sentinel, .sentinel, .sentinel, .sentinel, .sentinel, .sentinel, .sentinel, .sentinel, .sentinel, .sentinel, .sentinel, .data], laidTests := true, laidLooks := .later }
def WalFullCardSaid : Prop := Claim7.holds Tryd.pinned (.plain (OpenSpec.ofChange walFullSpec)) walFullCard

/-- THE TIED CARD OF 'usherlaw13.WalNew'. -/
def walNewCard : Claim7 := { stood := { row := walNewRow, standIns := [], harness := (true, "9e9178211cfd311059a3bf462f354678ff8c7e9ebfabb022c1168b0f057bb8d6"), looks := true }, kinds := [], alts := [], laidByText := true, laidKinds := [.sentinel, .sentinel, .data], laidTests := true, laidLooks := .later }
def WalNewCardSaid : Prop := Claim7.holds Tryd.pinned (.plain (OpenSpec.ofChange walNewSpec)) walNewCard

/-- THE TIED CARD OF 'usherlaw13.WalCrash'. -/
def walCrashCard : Claim7 := { stood := { row := walCrashRow, standIns := [], harness := (true, "9e9178211cfd311059a3bf462f354678ff8c7e9ebfabb022c1168b0f057bb8d6"), looks := true }, kinds := [], alts := [], laidByText := true, laidKinds := [.sentinel, .sentinel, .sentinel, .sentinel, .sentinel, .sentinel, .sentinel, .sentinel, .sentinel, .sentinel, .sentinel, .sentinel, .sentinel, .data], laidTests := true, laidLooks := .later }
def WalCrashCardSaid : Prop := Claim7.holds Tryd.pinned (.plain (OpenSpec.ofChange walCrashSpec)) walCrashCard

/-- THE TIED CARD OF 'usherlaw13.WalPlay'. -/
def walPlayCard : Claim7 := { stood := { row := walPlayRow, standIns := [], harness := (true, "9e9178211cfd311059a3bf462f354678ff8c7e9ebfabb022c1168b0f057bb8d6"), looks := true }, kinds := [], alts := [], laidByText := true, laidKinds := [.sentinel, .sentinel, .sentinel, .sentinel, .sentinel, .sentinel, .sentinel, .sentinel, .sentinel, .sentinel, .sentinel, .sentinel, .sentinel, .data], laidTests := true, laidLooks := .later }
def WalPlayCardSaid : Prop := Claim7.holds Tryd.pinned (.plain (OpenSpec.ofChange walPlaySpec)) walPlayCard

/-- THE SECOND FORM's CARD OF 'usherlaw13.WalTwice'. -/
def walTwiceUptoCard : Claim7 := { stood := { row := walTwiceUptoRow, standIns := [], harness := (true, "9e9178211cfd311059a3bf462f354678ff8c7e9ebfabb022c1168b0f057bb8d6"), looks := true }, kinds := [], alts := [], laidByText := true, laidKinds := [.sentinel, .sentinel, .data], laidTests := true, laidLooks := .later }
def WalTwiceUptoCardSaid : Prop := Claim7.holds Tryd.pinned (.plain (OpenSpec.upto walTwiceSpec)) walTwiceUptoCard

/-- THE SECOND FORM's CARD OF 'usherlaw13.WalFull'. -/
def walFullUptoCard : Claim7 := { stood := { row := walFullUptoRow, standIns := [], harness := (true, "9e9178211cfd311059a3bf462f354678ff8c7e9ebfabb022c1168b0f057bb8d6"), looks := true }, kinds := [], alts := [], laidByText := true, laidKinds := [.sentinel, .sentinel, .sentinel, .sentinel, .sentinel, .sentinel, .sentinel, .sentinel, .sentinel, .sentinel, .sentinel, .sentinel, .sentinel, .data], laidTests := true, laidLooks := .later }
def WalFullUptoCardSaid : Prop := Claim7.holds Tryd.pinned (.plain (OpenSpec.upto walFullSpec)) walFullUptoCard

/-- THE SECOND FORM's CARD OF 'usherlaw13.WalNew'. -/
def walNewUptoCard : Claim7 := { stood := { row := walNewUptoRow, standIns := [], harness := (true, "9e9178211cfd311059a3bf462f354678ff8c7e9ebfabb022c1168b0f057bb8d6"), looks := true }, kinds := [], alts := [], laidByText := true, laidKinds := [.sentinel, .sentinel, .data], laidTests := true, laidLooks := .later }
def WalNewUptoCardSaid : Prop := Claim7.holds Tryd.pinned (.plain (OpenSpec.upto walNewSpec)) walNewUptoCard

/-- THE SECOND FORM's CARD OF 'usherlaw13.WalCrash'. -/
def walCrashUptoCard : Claim7 := { stood := { row := walCrashUptoRow, standIns := [], harness := (true, "9e9178211cfd311059a3bf462f354678ff8c7e9ebfabb022c1168b0f057bb8d6"), looks := true }, kinds := [], alts := [], laidByText := true, laidKinds := [.sentinel, .sentinel, .sentinel, .sentinel, .sentinel, .sentinel, .sentinel, .sentinel, .sentinel, .sentinel, .sentinel, .sentinel, .sentinel, .data], laidTests := true, laidLooks := .later }
def WalCrashUptoCardSaid : Prop := Claim7.holds Tryd.pinned (.plain (OpenSpec.upto walCrashSpec)) walCrashUptoCard

/-- THE SECOND FORM's CARD OF 'usherlaw13.WalPlay'. -/
def walPlayUptoCard : Claim7 := { stood := { row := walPlayUptoRow, standIns := [], harness := (true, "9e9178211cfd311059a3bf462f354678ff8c7e9ebfabb022c1168b0f057bb8d6"), looks := true }, kinds := [], alts := [], laidByText := true, laidKinds := [.sentinel, .sentinel, .sentinel, .sentinel, .sentinel, .sentinel, .sentinel, .sentinel, .sentinel, .sentinel, .sentinel, .sentinel, .sentinel, .data], laidTests := true, laidLooks := .later }
def WalPlayUptoCardSaid : Prop := Claim7.holds Tryd.pinned (.plain (OpenSpec.upto walPlaySpec)) walPlayUptoCard
end Rows
end Go.Proofs.YticncaoecoehkaaDoor
