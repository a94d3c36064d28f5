/-
  DERIVED. GIVEN WITH THE SEED: THE CARDS: each row of YtdldhpncajelmabDoorRows.lean that lists a variable, with what it lists TIED to the program's text (the seventh form; the later family's looks); each row that meets fmt, with fmt's text TOLD by the authors' own Lean function (tested against real Go, not proved from fmt's source: count such statements apart). THE CARD IS WHAT COUNTS. Prove the row's statement (the work); the ties are given (YtdldhpncajelmabDoorTie.lean); close each card by the builder's one call (the guide's Derived/Test/ToyasCard.lean, 'card_holds'). Laid BY PROGRAM, IN A SANDBOX (cutbox-door.mjs). By AI agents, Wed Nov 11 2026. No macro, syntax, notation, axiom, sorry.
-/
import Derived.Test.YtdldhpncajelmabDoorRows
import GoSem.ClaimSeven
namespace Go.Proofs.YtdldhpncajelmabDoor
namespace Rows

/-- THE TIED CARD OF 'usherlaw2.RadixUnUrlExact'. -/
def radixUnUrlExactCard : Claim7 := { stood := { row := radixUnUrlExactRow, standIns := [], harness := (true, "f5a3ab71c26efb569eaf9232f137e4b518e694dde65ecb6dbf6d81e66cbfe143"), looks := true }, kinds := [], alts := [], laidByText := true, laidKinds := [.sentinel, .sentinel, .sentinel, .sentinel, .sentinel, .sentinel, .sentinel, .sentinel, .sentinel, .sentinel, .sentinel, .sentinel, .sentinel, .data], laidTests := true, laidLooks := .later }
def RadixUnUrlExactCardSaid : Prop := Claim7.holds Tryd.pinned (.plain (OpenSpec.ofChange radixUnUrlExactSpec)) radixUnUrlExactCard

/-- THE TIED CARD OF 'usherlaw2.RadixUnStdExact'. -/
def radixUnStdExactCard : Claim7 := { stood := { row := radixUnStdExactRow, standIns := [], harness := (true, "f5a3ab71c26efb569eaf9232f137e4b518e694dde65ecb6dbf6d81e66cbfe143"), looks := true }, kinds := [], alts := [], laidByText := true, laidKinds := [.data, .sentinel, .sentinel, .sentinel, .sentinel, .sentinel, .sentinel, .sentinel, .sentinel, .sentinel, .sentinel, .sentinel, .sentinel, .sentinel, .data, .pinned], laidTests := true, laidLooks := .later }
def RadixUnStdExactCardSaid : Prop := Claim7.holds Tryd.pinned (.plain (OpenSpec.ofChange radixUnStdExactSpec)) radixUnStdExactCard

/-- THE TIED CARD OF 'usherlaw2.RadixBack'. -/
def radixBackCard : Claim7 := { stood := { row := radixBackRow, standIns := [], harness := (true, "f5a3ab71c26efb569eaf9232f137e4b518e694dde65ecb6dbf6d81e66cbfe143"), looks := true }, kinds := [], alts := [], laidByText := true, laidKinds := [.data, .sentinel, .data, .data, .data, .pinned], laidTests := true, laidLooks := .later }
def RadixBackCardSaid : Prop := Claim7.holds Tryd.pinned (.plain (OpenSpec.ofChange radixBackSpec)) radixBackCard

/-- THE TIED CARD OF 'usherlaw2.RadixOnly'. -/
def radixOnlyCard : Claim7 := { stood := { row := radixOnlyRow, standIns := [], harness := (true, "f5a3ab71c26efb569eaf9232f137e4b518e694dde65ecb6dbf6d81e66cbfe143"), looks := true }, kinds := [], alts := [], laidByText := true, laidKinds := [.data, .sentinel, .sentinel, .sentinel, .sentinel, .sentinel, .sentinel, .sentinel, .sentinel, .sentinel, .sentinel, .sentinel, .sentinel, .sentinel, .data, .data, .data, .pinned], laidTests := true, laidLooks := .later }
def RadixOnlyCardSaid : Prop := Claim7.holds Tryd.pinned (.plain (OpenSpec.ofChange radixOnlySpec)) radixOnlyCard

/-- THE TIED CARD OF 'usherlaw2.RadixDigest'. -/
def radixDigestCard : Claim7 := { stood := { row := radixDigestRow, standIns := [], harness := (true, "f5a3ab71c26efb569eaf9232f137e4b518e694dde65ecb6dbf6d81e66cbfe143"), looks := true }, kinds := [], alts := [], laidByText := true, laidKinds := [.sentinel, .sentinel, .sentinel, .sentinel, .sentinel, .sentinel, .sentinel, .sentinel, .sentinel, .sentinel, .sentinel, .sentinel, .sentinel, .data, .data, .data, .data], laidTests := true, laidLooks := .later }
def RadixDigestCardSaid : Prop := Claim7.holds Tryd.pinned (.plain (OpenSpec.ofChange radixDigestSpec)) radixDigestCard

/-- THE SECOND FORM's CARD OF 'usherlaw2.RadixUnUrlExact'. -/
def radixUnUrlExactUptoCard : Claim7 := { stood := { row := radixUnUrlExactUptoRow, standIns := [], harness := (true, "f5a3ab71c26efb569eaf9232f137e4b518e694dde65ecb6dbf6d81e66cbfe143"), looks := true }, kinds := [], alts := [], laidByText := true, laidKinds := [.sentinel, .sentinel, .sentinel, .sentinel, .sentinel, .sentinel, .sentinel, .sentinel, .sentinel, .sentinel, .sentinel, .sentinel, .sentinel, .data], laidTests := true, laidLooks := .later }
def RadixUnUrlExactUptoCardSaid : Prop := Claim7.holds Tryd.pinned (.plain (OpenSpec.upto radixUnUrlExactSpec)) radixUnUrlExactUptoCard

/-- THE SECOND FORM's CARD OF 'usherlaw2.RadixUnStdExact'. -/
def radixUnStdExactUptoCard : Claim7 := { stood := { row := radixUnStdExactUptoRow, standIns := [], harness := (true, "f5a3ab71c26efb569eaf9232f137e4b518e694dde65ecb6dbf6d81e66cbfe143"), looks := true }, kinds := [], alts := [], laidByText := true, laidKinds := [.data, .sentinel, .sentinel, .sentinel, .sentinel, .sentinel, .sentinel, .sentinel, .sentinel, .sentinel, .sentinel, .sentinel, .sentinel, .sentinel, .data, .pinned], laidTests := true, laidLooks := .later }
def RadixUnStdExactUptoCardSaid : Prop := Claim7.holds Tryd.pinned (.plain (OpenSpec.upto radixUnStdExactSpec)) radixUnStdExactUptoCard

/-- THE SECOND FORM's CARD OF 'usherlaw2.RadixBack'. -/
def radixBackUptoCard : Claim7 := { stood := { row := radixBackUptoRow, standIns := [], harness := (true, "f5a3ab71c26efb569eaf9232f137e4b518e694dde65ecb6dbf6d81e66cbfe143"), looks := true }, kinds := [], alts := [], laidByText := true, laidKinds := [.data, .sentinel, .data, .data, .data, .pinned], laidTests := true, laidLooks := .later }
def RadixBackUptoCardSaid : Prop := Claim7.holds Tryd.pinned (.plain (OpenSpec.upto radixBackSpec)) radixBackUptoCard

/-- THE SECOND FORM's CARD OF 'usherlaw2.RadixOnly'. -/
def radixOnlyUptoCard : Claim7 := { stood := { row := radixOnlyUptoRow, standIns := [], harness := (true, "f5a3ab71c26efb569eaf9232f137e4b518e694dde65ecb6dbf6d81e66cbfe143"), looks := true }, kinds := [], alts := [], laidByText := true, laidKinds := [.data, .sentinel, .sentinel, .sentinel, .sentinel, .sentinel, .sentinel, .sentinel, .sentinel, .sentinel, .sentinel, .sentinel, .sentinel, .sentinel, .data, .data, .data, .pinned], laidTests := true, laidLooks := .later }
def RadixOnlyUptoCardSaid : Prop := Claim7.holds Tryd.pinned (.plain (OpenSpec.upto radixOnlySpec)) radixOnlyUptoCard

/-- THE SECOND FORM's CARD OF 'usherlaw2.RadixDigest'. -/
def radixDigestUptoCard : Claim7 := { stood := { row := radixDigestUptoRow, standIns := [], harness := (true, "f5a3ab71c26efb569eaf9232f137e4b518e694dde65ecb6dbf6d81e66cbfe143"), looks := true }, kinds := [], alts := [], laidByText := true, laidKinds := [.sentinel, .sentinel, .sentinel, .sentinel, .sentinel, .sentinel, .sentinel, .sentinel, .sentinel, .sentinel, .sentinel, .sentinel, .sentinel, .data, .data, .data, .data], laidTests := true, laidLooks := .later }
def RadixDigestUptoCardSaid : Prop := Claim7.holds Tryd.pinned (.plain (OpenSpec.upto radixDigestSpec)) radixDigestUptoCard
end Rows
end Go.Proofs.YtdldhpncajelmabDoor
