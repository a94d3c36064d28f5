/-
  DERIVED. GIVEN WITH THE SEED: THE CARDS: each row of YtdldhpncajelmaaDoorRows.lean that lists a variable, with what it lists TIED to the program's text (the seventh form; the later family's looks); each row that meets fmt, with fmt's text TOLD by the authors' own Lean function (tested against real Go, not proved from fmt's source: count such statements apart). THE CARD IS WHAT COUNTS. Prove the row's statement (the work); the ties are given (YtdldhpncajelmaaDoorTie.lean); close each card by the builder's one call (the guide's Derived/Test/ToyasCard.lean, 'card_holds'). Laid BY PROGRAM, IN A SANDBOX (cutbox-door.mjs). By AI agents, Wed Nov 11 2026. No macro, syntax, notation, axiom, sorry.
-/
import Derived.Test.YtdldhpncajelmaaDoorRows
import GoSem.ClaimSeven
namespace Go.Proofs.YtdldhpncajelmaaDoor
namespace Rows

/-- THE TIED CARD OF 'usherlaw2.RadixHexExact'. -/
def radixHexExactCard : Claim7 := { stood := { row := radixHexExactRow, standIns := [], harness := (true, "27871113f8a63b3be824cb24d52471ad317256ba19b300451e542cb40178ec49"), looks := true }, kinds := [], alts := [], laidByText := true, laidKinds := [.data], laidTests := true, laidLooks := .later }
def RadixHexExactCardSaid : Prop := Claim7.holds Tryd.pinned (.plain (OpenSpec.ofChange radixHexExactSpec)) radixHexExactCard

/-- THE TIED CARD OF 'usherlaw2.RadixApart'. -/
def radixApartCard : Claim7 := { stood := { row := radixApartRow, standIns := [], harness := (true, "27871113f8a63b3be824cb24d52471ad317256ba19b300451e542cb40178ec49"), looks := true }, kinds := [], alts := [], laidByText := true, laidKinds := [.data, .data, .data], laidTests := true, laidLooks := .later }
def RadixApartCardSaid : Prop := Claim7.holds Tryd.pinned (.plain (OpenSpec.ofChange radixApartSpec)) radixApartCard

/-- THE TIED CARD OF 'usherlaw2.RadixUrlExact'. -/
def radixUrlExactCard : Claim7 := { stood := { row := radixUrlExactRow, standIns := [], harness := (true, "27871113f8a63b3be824cb24d52471ad317256ba19b300451e542cb40178ec49"), looks := true }, kinds := [], alts := [], laidByText := true, laidKinds := [.data], laidTests := true, laidLooks := .later }
def RadixUrlExactCardSaid : Prop := Claim7.holds Tryd.pinned (.plain (OpenSpec.ofChange radixUrlExactSpec)) radixUrlExactCard

/-- THE TIED CARD OF 'usherlaw2.RadixStdExact'. -/
def radixStdExactCard : Claim7 := { stood := { row := radixStdExactRow, standIns := [], harness := (true, "27871113f8a63b3be824cb24d52471ad317256ba19b300451e542cb40178ec49"), looks := true }, kinds := [], alts := [], laidByText := true, laidKinds := [.data], laidTests := true, laidLooks := .later }
def RadixStdExactCardSaid : Prop := Claim7.holds Tryd.pinned (.plain (OpenSpec.ofChange radixStdExactSpec)) radixStdExactCard

/-- THE TIED CARD OF 'usherlaw2.RadixJoin'. -/
def radixJoinCard : Claim7 := { stood := { row := radixJoinRow, standIns := [], harness := (true, "27871113f8a63b3be824cb24d52471ad317256ba19b300451e542cb40178ec49"), looks := true }, kinds := [], alts := [], laidByText := true, laidKinds := [.data, .data, .data], laidTests := true, laidLooks := .later }
def RadixJoinCardSaid : Prop := Claim7.holds Tryd.pinned (.plain (OpenSpec.ofChange radixJoinSpec)) radixJoinCard

/-- THE TIED CARD OF 'usherlaw2.RadixUnHexExact'. -/
def radixUnHexExactCard : Claim7 := { stood := { row := radixUnHexExactRow, standIns := [], harness := (true, "27871113f8a63b3be824cb24d52471ad317256ba19b300451e542cb40178ec49"), looks := true }, kinds := [], alts := [], laidByText := true, laidKinds := [.sentinel, .sentinel, .sentinel, .sentinel, .sentinel, .sentinel, .sentinel, .sentinel, .sentinel, .sentinel, .sentinel, .sentinel, .sentinel, .data], laidTests := true, laidLooks := .later }
def RadixUnHexExactCardSaid : Prop := Claim7.holds Tryd.pinned (.plain (OpenSpec.ofChange radixUnHexExactSpec)) radixUnHexExactCard

/-- THE SECOND FORM's CARD OF 'usherlaw2.RadixHexExact'. -/
def radixHexExactUptoCard : Claim7 := { stood := { row := radixHexExactUptoRow, standIns := [], harness := (true, "27871113f8a63b3be824cb24d52471ad317256ba19b300451e542cb40178ec49"), looks := true }, kinds := [], alts := [], laidByText := true, laidKinds := [.data], laidTests := true, laidLooks := .later }
def RadixHexExactUptoCardSaid : Prop := Claim7.holds Tryd.pinned (.plain (OpenSpec.upto radixHexExactSpec)) radixHexExactUptoCard

/-- THE SECOND FORM's CARD OF 'usherlaw2.RadixApart'. -/
def radixApartUptoCard : Claim7 := { stood := { row := radixApartUptoRow, standIns := [], harness := (true, "27871113f8a63b3be824cb24d52471ad317256ba19b300451e542cb40178ec49"), looks := true }, kinds := [], alts := [], laidByText := true, laidKinds := [.data, .data, .data], laidTests := true, laidLooks := .later }
def RadixApartUptoCardSaid : Prop := Claim7.holds Tryd.pinned (.plain (OpenSpec.upto radixApartSpec)) radixApartUptoCard

/-- THE SECOND FORM's CARD OF 'usherlaw2.RadixUrlExact'. -/
def radixUrlExactUptoCard : Claim7 := { stood := { row := radixUrlExactUptoRow, standIns := [], harness := (true, "27871113f8a63b3be824cb24d52471ad317256ba19b300451e542cb40178ec49"), looks := true }, kinds := [], alts := [], laidByText := true, laidKinds := [.data], laidTests := true, laidLooks := .later }
def RadixUrlExactUptoCardSaid : Prop := Claim7.holds Tryd.pinned (.plain (OpenSpec.upto radixUrlExactSpec)) radixUrlExactUptoCard

/-- THE SECOND FORM's CARD OF 'usherlaw2.RadixStdExact'. -/
def radixStdExactUptoCard : Claim7 := { stood := { row := radixStdExactUptoRow, standIns := [], harness := (true, "27871113f8a63b3be824cb24d52471ad317256ba19b300451e542cb40178ec49"), looks := true }, kinds := [], alts := [], laidByText := true, laidKinds := [.data], laidTests := true, laidLooks := .later }
def RadixStdExactUptoCardSaid : Prop := Claim7.holds Tryd.pinned (.plain (OpenSpec.upto radixStdExactSpec)) radixStdExactUptoCard

/-- THE SECOND FORM's CARD OF 'usherlaw2.RadixJoin'. -/
def radixJoinUptoCard : Claim7 := { stood := { row := radixJoinUptoRow, standIns := [], harness := (true, "27871113f8a63b3be824cb24d52471ad317256ba19b300451e542cb40178ec49"), looks := true }, kinds := [], alts := [], laidByText := true, laidKinds := [.data, .data, .data], laidTests := true, laidLooks := .later }
def RadixJoinUptoCardSaid : Prop := Claim7.holds Tryd.pinned (.plain (OpenSpec.upto radixJoinSpec)) radixJoinUptoCard

/-- THE SECOND FORM's CARD OF 'usherlaw2.RadixUnHexExact'. -/
def radixUnHexExactUptoCard : Claim7 := { stood := { row := radixUnHexExactUptoRow, standIns := [], harness := (true, "27871113f8a63b3be824cb24d52471ad317256ba19b300451e542cb40178ec49"), looks := true }, kinds := [], alts := [], laidByText := true, laidKinds := [.sentinel, .sentinel, .sentinel, .sentinel, .sentinel, .sentinel, .sentinel, .sentinel, .sentinel, .sentinel, .sentinel, .sentinel, .sentinel, .data], laidTests := true, laidLooks := .later }
def RadixUnHexExactUptoCardSaid : Prop := Claim7.holds Tryd.pinned (.plain (OpenSpec.upto radixUnHexExactSpec)) radixUnHexExactUptoCard
end Rows
end Go.Proofs.YtdldhpncajelmaaDoor
