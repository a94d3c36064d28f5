/-
  DERIVED. GIVEN WITH THE SEED: THE CARDS: each row of YtioemcikmaidoaaDoorRows.lean that lists a variable, with what it lists TIED to the program's text (the seventh form; the later family's looks); each row that meets fmt, with fmt's text TOLD by the authors' own Lean function (tested against real Go, not proved from fmt's source: count such statements apart). THE CARD IS WHAT COUNTS. Prove the row's statement (the work); the ties are given (YtioemcikmaidoaaDoorTie.lean); close each card by the builder's one call (the guide's Derived/Test/ToyasCard.lean, 'card_holds'). Laid BY PROGRAM, IN A SANDBOX (cutbox-door.mjs). By AI agents, Wed Nov 11 2026. No macro, syntax, notation, axiom, sorry.
-/
import Derived.Test.YtioemcikmaidoaaDoorRows
import GoSem.ClaimSeven
namespace Go.Proofs.YtioemcikmaidoaaDoor
namespace Rows

/-- THE TIED CARD OF 'usherlaw13.WalFrame'. -/
def walFrameCard : Claim7 := { stood := { row := walFrameRow, standIns := [], harness := (true, "449c07183113f8d3f08631c8fe4af8ab1088ce6d244e67adb9c6f101aac61177"), looks := true }, kinds := [], alts := [], laidByText := true, laidKinds := [.sentinel, .sentinel, .sentinel, .sentinel, .sentinel, .sentinel, .sentinel, .sentinel, .sentinel, .sentinel, .sentinel, .sentinel, .sentinel, .data], laidTests := true, laidLooks := .later }
def WalFrameCardSaid : Prop := Claim7.holds Tryd.pinned (.plain (OpenSpec.ofChange walFrameSpec)) walFrameCard

/-- THE TIED CARD OF 'usherlaw13.WalFrames'. -/
def walFramesCard : Claim7 := { stood := { row := walFramesRow, standIns := [], harness := (true, "449c07183113f8d3f08631c8fe4af8ab1088ce6d244e67adb9c6f101aac61177"), looks := true }, kinds := [], alts := [], laidByText := true, laidKinds := [.data], laidTests := true, laidLooks := .later }
def WalFramesCardSaid : Prop := Claim7.holds Tryd.pinned (.plain (OpenSpec.ofChange walFramesSpec)) walFramesCard

/-- THE TIED CARD OF 'usherlaw13.WalScan'. -/
def walScanCard : Claim7 := { stood := { row := walScanRow, standIns := [], harness := (true, "449c07183113f8d3f08631c8fe4af8ab1088ce6d244e67adb9c6f101aac61177"), looks := true }, kinds := [], alts := [], laidByText := true, laidKinds := [.data], laidTests := true, laidLooks := .later }
def WalScanCardSaid : Prop := Claim7.holds Tryd.pinned (.plain (OpenSpec.ofChange walScanSpec)) walScanCard

/-- THE SECOND FORM's CARD OF 'usherlaw13.WalFrame'. -/
def walFrameUptoCard : Claim7 := { stood := { row := walFrameUptoRow, standIns := [], harness := (true, "449c07183113f8d3f08631c8fe4af8ab1088ce6d244e67adb9c6f101aac61177"), looks := true }, kinds := [], alts := [], laidByText := true, laidKinds := [.sentinel, .sentinel, .sentinel, .sentinel, .sentinel, .sentinel, .sentinel, .sentinel, .sentinel, .sentinel, .sentinel, .sentinel, .sentinel, .data], laidTests := true, laidLooks := .later }
def WalFrameUptoCardSaid : Prop := Claim7.holds Tryd.pinned (.plain (OpenSpec.upto walFrameSpec)) walFrameUptoCard

/-- THE SECOND FORM's CARD OF 'usherlaw13.WalFrames'. -/
def walFramesUptoCard : Claim7 := { stood := { row := walFramesUptoRow, standIns := [], harness := (true, "449c07183113f8d3f08631c8fe4af8ab1088ce6d244e67adb9c6f101aac61177"), looks := true }, kinds := [], alts := [], laidByText := true, laidKinds := [.data], laidTests := true, laidLooks := .later }
def WalFramesUptoCardSaid : Prop := Claim7.holds Tryd.pinned (.plain (OpenSpec.upto walFramesSpec)) walFramesUptoCard

/-- THE SECOND FORM's CARD OF 'usherlaw13.WalScan'. -/
def walScanUptoCard : Claim7 := { stood := { row := walScanUptoRow, standIns := [], harness := (true, "449c07183113f8d3f08631c8fe4af8ab1088ce6d244e67adb9c6f101aac61177"), looks := true }, kinds := [], alts := [], laidByText := true, laidKinds := [.data], laidTests := true, laidLooks := .later }
def WalScanUptoCardSaid : Prop := Claim7.holds Tryd.pinned (.plain (OpenSpec.upto walScanSpec)) walScanUptoCard
end Rows
end Go.Proofs.YtioemcikmaidoaaDoor
