/-
  DERIVED. GIVEN WITH THE SEED: THE CARDS: each row of YtidccfflpcgkiaaGreatDoorRows.lean that lists a variable, with what it lists TIED to the program's text (the seventh form; the later family's looks); each row that meets fmt, with fmt's text TOLD by the authors' own Lean function (tested against real Go, not proved from fmt's source: count such statements apart). THE CARD IS WHAT COUNTS. Prove the row's statement (the work); the ties are given (YtidccfflpcgkiaaGreatDoorTie.lean); close each card by the builder's one call (the guide's Derived/Test/ToyasCard.lean, 'card_holds'). Laid BY PROGRAM, IN A SANDBOX (cutbox-door.mjs). By AI agents, Wed Nov 11 2026. No macro, syntax, notation, axiom, sorry.
-/
import Derived.Test.YtidccfflpcgkiaaGreatDoorRows
import GoSem.ClaimSeven
namespace Go.Proofs.YtidccfflpcgkiaaGreatDoor
namespace Rows

/-- THE TIED CARD OF 'usherlaw14.RecordBack'. -/
def recordBackCard : Claim7 := { stood := { row := recordBackRow, standIns := [], harness := (true, "69ed36a8a75328a273af7a97227fa76c697361fafeb36b8b2192a6d9a065ab9c"), looks := true }, kinds := [], alts := [], laidByText := true, laidKinds := [.data, .data, .data, .data, .sentinel, .sentinel, .sentinel, .sentinel, .sentinel, .data, .data, .data, .data, .data, .data, .pinned], laidTests := true, laidLooks := .later }
def RecordBackCardSaid : Prop := Claim7.holds Tryz.pinned (.plain (OpenSpec.ofChange recordBackSpec)) recordBackCard

/-- THE TIED CARD OF 'usherlaw14.RecordApart'. -/
def recordApartCard : Claim7 := { stood := { row := recordApartRow, standIns := [], harness := (true, "69ed36a8a75328a273af7a97227fa76c697361fafeb36b8b2192a6d9a065ab9c"), looks := true }, kinds := [], alts := [], laidByText := true, laidKinds := [.data, .data, .data, .data, .sentinel, .sentinel, .sentinel, .sentinel, .sentinel, .data, .data, .data, .data, .data, .data, .pinned], laidTests := true, laidLooks := .later }
def RecordApartCardSaid : Prop := Claim7.holds Tryz.pinned (.plain (OpenSpec.ofChange recordApartSpec)) recordApartCard

/-- THE TIED CARD OF 'usherlaw14.RecordOnly'. -/
def recordOnlyCard : Claim7 := { stood := { row := recordOnlyRow, standIns := [], harness := (true, "69ed36a8a75328a273af7a97227fa76c697361fafeb36b8b2192a6d9a065ab9c"), looks := true }, kinds := [], alts := [], laidByText := true, laidKinds := [.data, .data, .data, .data, .sentinel, .sentinel, .sentinel, .sentinel, .sentinel, .sentinel, .sentinel, .sentinel, .sentinel, .sentinel, .sentinel, .sentinel, .sentinel, .sentinel, .sentinel, .data, .data, .data, .data, .data, .data, .pinned], laidTests := true, laidLooks := .later }
def RecordOnlyCardSaid : Prop := Claim7.holds Tryz.pinned (.plain (OpenSpec.ofChange recordOnlySpec)) recordOnlyCard

/-- THE TIED CARD OF 'usherlaw14.RecordPackBack'. -/
def recordPackBackCard : Claim7 := { stood := { row := recordPackBackRow, standIns := [], harness := (true, "69ed36a8a75328a273af7a97227fa76c697361fafeb36b8b2192a6d9a065ab9c"), looks := true }, kinds := [], alts := [], laidByText := true, laidKinds := [.data, .data, .data, .data, .sentinel, .sentinel, .sentinel, .sentinel, .sentinel, .sentinel, .sentinel, .sentinel, .sentinel, .sentinel, .sentinel, .sentinel, .sentinel, .sentinel, .sentinel, .data, .data, .data, .data, .data, .data, .pinned], laidTests := true, laidLooks := .later }
def RecordPackBackCardSaid : Prop := Claim7.holds Tryz.pinned (.plain (OpenSpec.ofChange recordPackBackSpec)) recordPackBackCard

/-- THE TIED CARD OF 'usherlaw14.RecordPackOnly'. -/
def recordPackOnlyCard : Claim7 := { stood := { row := recordPackOnlyRow, standIns := [], harness := (true, "69ed36a8a75328a273af7a97227fa76c697361fafeb36b8b2192a6d9a065ab9c"), looks := true }, kinds := [], alts := [], laidByText := true, laidKinds := [.data, .data, .data, .data, .sentinel, .sentinel, .sentinel, .sentinel, .sentinel, .sentinel, .sentinel, .sentinel, .sentinel, .sentinel, .sentinel, .sentinel, .sentinel, .sentinel, .sentinel, .data, .data, .data, .data, .data, .data, .pinned], laidTests := true, laidLooks := .later }
def RecordPackOnlyCardSaid : Prop := Claim7.holds Tryz.pinned (.plain (OpenSpec.ofChange recordPackOnlySpec)) recordPackOnlyCard

/-- THE TIED CARD OF 'usherlaw14.RecordBytesMemory'. -/
def recordBytesMemoryCard : Claim7 := { stood := { row := recordBytesMemoryRow, standIns := [], harness := (true, "69ed36a8a75328a273af7a97227fa76c697361fafeb36b8b2192a6d9a065ab9c"), looks := true }, kinds := [], alts := [], laidByText := true, laidKinds := [.data, .data, .data, .data, .sentinel, .sentinel, .sentinel, .sentinel, .sentinel, .data, .data, .data, .data, .data, .data, .pinned], laidTests := true, laidLooks := .later }
def RecordBytesMemoryCardSaid : Prop := Claim7.holds Tryz.pinned (.plain (OpenSpec.ofChange recordBytesMemorySpec)) recordBytesMemoryCard

/-- THE SECOND FORM's CARD OF 'usherlaw14.RecordBack'. -/
def recordBackUptoCard : Claim7 := { stood := { row := recordBackUptoRow, standIns := [], harness := (true, "69ed36a8a75328a273af7a97227fa76c697361fafeb36b8b2192a6d9a065ab9c"), looks := true }, kinds := [], alts := [], laidByText := true, laidKinds := [.data, .data, .data, .data, .sentinel, .sentinel, .sentinel, .sentinel, .sentinel, .data, .data, .data, .data, .data, .data, .pinned], laidTests := true, laidLooks := .later }
def RecordBackUptoCardSaid : Prop := Claim7.holds Tryz.pinned (.plain (OpenSpec.upto recordBackSpec)) recordBackUptoCard

/-- THE SECOND FORM's CARD OF 'usherlaw14.RecordApart'. -/
def recordApartUptoCard : Claim7 := { stood := { row := recordApartUptoRow, standIns := [], harness := (true, "69ed36a8a75328a273af7a97227fa76c697361fafeb36b8b2192a6d9a065ab9c"), looks := true }, kinds := [], alts := [], laidByText := true, laidKinds := [.data, .data, .data, .data, .sentinel, .sentinel, .sentinel, .sentinel, .sentinel, .data, .data, .data, .data, .data, .data, .pinned], laidTests := true, laidLooks := .later }
def RecordApartUptoCardSaid : Prop := Claim7.holds Tryz.pinned (.plain (OpenSpec.upto recordApartSpec)) recordApartUptoCard

/-- THE SECOND FORM's CARD OF 'usherlaw14.RecordOnly'. -/
def recordOnlyUptoCard : Claim7 := { stood := { row := recordOnlyUptoRow, standIns := [], harness := (true, "69ed36a8a75328a273af7a97227fa76c697361fafeb36b8b2192a6d9a065ab9c"), looks := true }, kinds := [], alts := [], laidByText := true, laidKinds := [.data, .data, .data, .data, .sentinel, .sentinel, .sentinel, .sentinel, .sentinel, .sentinel, .sentinel, .sentinel, .sentinel, .sentinel, .sentinel, .sentinel, .sentinel, .sentinel, .sentinel, .data, .data, .data, .data, .data, .data, .pinned], laidTests := true, laidLooks := .later }
def RecordOnlyUptoCardSaid : Prop := Claim7.holds Tryz.pinned (.plain (OpenSpec.upto recordOnlySpec)) recordOnlyUptoCard

/-- THE SECOND FORM's CARD OF 'usherlaw14.RecordPackBack'. -/
def recordPackBackUptoCard : Claim7 := { stood := { row := recordPackBackUptoRow, standIns := [], harness := (true, "69ed36a8a75328a273af7a97227fa76c697361fafeb36b8b2192a6d9a065ab9c"), looks := true }, kinds := [], alts := [], laidByText := true, laidKinds := [.data, .data, .data, .data, .sentinel, .sentinel, .sentinel, .sentinel, .sentinel, .sentinel, .sentinel, .sentinel, .sentinel, .sentinel, .sentinel, .sentinel, .sentinel, .sentinel, .sentinel, .data, .data, .data, .data, .data, .data, .pinned], laidTests := true, laidLooks := .later }
def RecordPackBackUptoCardSaid : Prop := Claim7.holds Tryz.pinned (.plain (OpenSpec.upto recordPackBackSpec)) recordPackBackUptoCard

/-- THE SECOND FORM's CARD OF 'usherlaw14.RecordPackOnly'. -/
def recordPackOnlyUptoCard : Claim7 := { stood := { row := recordPackOnlyUptoRow, standIns := [], harness := (true, "69ed36a8a75328a273af7a97227fa76c697361fafeb36b8b2192a6d9a065ab9c"), looks := true }, kinds := [], alts := [], laidByText := true, laidKinds := [.data, .data, .data, .data, .sentinel, .sentinel, .sentinel, .sentinel, .sentinel, .sentinel, .sentinel, .sentinel, .sentinel, .sentinel, .sentinel, .sentinel, .sentinel, .sentinel, .sentinel, .data, .data, .data, .data, .data, .data, .pinned], laidTests := true, laidLooks := .later }
def RecordPackOnlyUptoCardSaid : Prop := Claim7.holds Tryz.pinned (.plain (OpenSpec.upto recordPackOnlySpec)) recordPackOnlyUptoCard

/-- THE SECOND FORM's CARD OF 'usherlaw14.RecordBytesMemory'. -/
def recordBytesMemoryUptoCard : Claim7 := { stood := { row := recordBytesMemoryUptoRow, standIns := [], harness := (true, "69ed36a8a75328a273af7a97227fa76c697361fafeb36b8b2192a6d9a065ab9c"), looks := true }, kinds := [], alts := [], laidByText := true, laidKinds := [.data, .data, .data, .data, .sentinel, .sentinel, .sentinel, .sentinel, .sentinel, .data, .data, .data, .data, .data, .data, .pinned], laidTests := true, laidLooks := .later }
def RecordBytesMemoryUptoCardSaid : Prop := Claim7.holds Tryz.pinned (.plain (OpenSpec.upto recordBytesMemorySpec)) recordBytesMemoryUptoCard
end Rows
end Go.Proofs.YtidccfflpcgkiaaGreatDoor
