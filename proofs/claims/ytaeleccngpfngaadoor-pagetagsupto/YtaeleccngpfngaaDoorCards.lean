/-
  DERIVED. GIVEN WITH THE SEED: THE CARDS: each row of YtaeleccngpfngaaDoorRows.lean that lists a variable, with what it lists TIED to the program's text (the seventh form; the later family's looks); each row that meets fmt, with fmt's text TOLD by the authors' own Lean function (tested against real Go, not proved from fmt's source: count such statements apart). THE CARD IS WHAT COUNTS. Prove the row's statement (the work); the ties are given (YtaeleccngpfngaaDoorTie.lean); close each card by the builder's one call (the guide's Derived/Test/ToyasCard.lean, 'card_holds'). Laid BY PROGRAM, IN A SANDBOX (cutbox-door.mjs). By AI agents, Wed Nov 11 2026. No macro, syntax, notation, axiom, sorry.
-/
import Derived.Test.YtaeleccngpfngaaDoorRows
import GoSem.ClaimSeven
namespace Go.Proofs.YtaeleccngpfngaaDoor
namespace Rows

/-- THE TIED CARD OF 'usherlaw5.PageTags'. -/
def pageTagsCard : Claim7 := { stood := { row := pageTagsRow, standIns := [], harness := (true, "59feda41cc76b2fb1c339589c10f3a4094110064c03ac97f33aff1f5ea27c8c9"), looks := true }, kinds := [], alts := [], laidByText := true, laidKinds := [.sentinel, .data], laidTests := true, laidLooks := .later }
def PageTagsCardSaid : Prop := Claim7.holds Tryd.pinned (.plain (OpenSpec.ofChange pageTagsSpec)) pageTagsCard

/-- THE TIED CARD OF 'usherlaw5.PageWriteExact'. -/
def pageWriteExactCard : Claim7 := { stood := { row := pageWriteExactRow, standIns := [], harness := (true, "59feda41cc76b2fb1c339589c10f3a4094110064c03ac97f33aff1f5ea27c8c9"), looks := true }, kinds := [], alts := [], laidByText := true, laidKinds := [.sentinel, .sentinel, .sentinel, .sentinel, .sentinel, .sentinel, .sentinel, .sentinel, .sentinel, .sentinel, .sentinel, .sentinel, .sentinel, .data], laidTests := true, laidLooks := .later }
def PageWriteExactCardSaid : Prop := Claim7.holds Tryd.pinned (.plain (OpenSpec.ofChange pageWriteExactSpec)) pageWriteExactCard

/-- THE TIED CARD OF 'usherlaw5.PageOnly'. -/
def pageOnlyCard : Claim7 := { stood := { row := pageOnlyRow, standIns := [], harness := (true, "59feda41cc76b2fb1c339589c10f3a4094110064c03ac97f33aff1f5ea27c8c9"), looks := true }, kinds := [], alts := [], laidByText := true, laidKinds := [.sentinel, .sentinel, .sentinel, .sentinel, .sentinel, .sentinel, .sentinel, .sentinel, .sentinel, .sentinel, .sentinel, .sentinel, .sentinel, .data], laidTests := true, laidLooks := .later }
def PageOnlyCardSaid : Prop := Claim7.holds Tryd.pinned (.plain (OpenSpec.ofChange pageOnlySpec)) pageOnlyCard

/-- THE TIED CARD OF 'usherlaw5.PageBack'. -/
def pageBackCard : Claim7 := { stood := { row := pageBackRow, standIns := [], harness := (true, "59feda41cc76b2fb1c339589c10f3a4094110064c03ac97f33aff1f5ea27c8c9"), looks := true }, kinds := [], alts := [], laidByText := true, laidKinds := [.sentinel, .sentinel, .sentinel, .sentinel, .sentinel, .sentinel, .sentinel, .sentinel, .sentinel, .sentinel, .sentinel, .sentinel, .sentinel, .data], laidTests := true, laidLooks := .later }
def PageBackCardSaid : Prop := Claim7.holds Tryd.pinned (.plain (OpenSpec.ofChange pageBackSpec)) pageBackCard

/-- THE TIED CARD OF 'usherlaw5.PageReadMemory'. -/
def pageReadMemoryCard : Claim7 := { stood := { row := pageReadMemoryRow, standIns := [], harness := (true, "59feda41cc76b2fb1c339589c10f3a4094110064c03ac97f33aff1f5ea27c8c9"), looks := true }, kinds := [], alts := [], laidByText := true, laidKinds := [.sentinel, .sentinel, .data], laidTests := true, laidLooks := .later }
def PageReadMemoryCardSaid : Prop := Claim7.holds Tryd.pinned (.plain (OpenSpec.ofChange pageReadMemorySpec)) pageReadMemoryCard

/-- THE SECOND FORM's CARD OF 'usherlaw5.PageTags'. -/
def pageTagsUptoCard : Claim7 := { stood := { row := pageTagsUptoRow, standIns := [], harness := (true, "59feda41cc76b2fb1c339589c10f3a4094110064c03ac97f33aff1f5ea27c8c9"), looks := true }, kinds := [], alts := [], laidByText := true, laidKinds := [.sentinel, .data], laidTests := true, laidLooks := .later }
def PageTagsUptoCardSaid : Prop := Claim7.holds Tryd.pinned (.plain (OpenSpec.upto pageTagsSpec)) pageTagsUptoCard

/-- THE SECOND FORM's CARD OF 'usherlaw5.PageWriteExact'. -/
def pageWriteExactUptoCard : Claim7 := { stood := { row := pageWriteExactUptoRow, standIns := [], harness := (true, "59feda41cc76b2fb1c339589c10f3a4094110064c03ac97f33aff1f5ea27c8c9"), looks := true }, kinds := [], alts := [], laidByText := true, laidKinds := [.sentinel, .sentinel, .sentinel, .sentinel, .sentinel, .sentinel, .sentinel, .sentinel, .sentinel, .sentinel, .sentinel, .sentinel, .sentinel, .data], laidTests := true, laidLooks := .later }
def PageWriteExactUptoCardSaid : Prop := Claim7.holds Tryd.pinned (.plain (OpenSpec.upto pageWriteExactSpec)) pageWriteExactUptoCard

/-- THE SECOND FORM's CARD OF 'usherlaw5.PageOnly'. -/
def pageOnlyUptoCard : Claim7 := { stood := { row := pageOnlyUptoRow, standIns := [], harness := (true, "59feda41cc76b2fb1c339589c10f3a4094110064c03ac97f33aff1f5ea27c8c9"), looks := true }, kinds := [], alts := [], laidByText := true, laidKinds := [.sentinel, .sentinel, .sentinel, .sentinel, .sentinel, .sentinel, .sentinel, .sentinel, .sentinel, .sentinel, .sentinel, .sentinel, .sentinel, .data], laidTests := true, laidLooks := .later }
def PageOnlyUptoCardSaid : Prop := Claim7.holds Tryd.pinned (.plain (OpenSpec.upto pageOnlySpec)) pageOnlyUptoCard

/-- THE SECOND FORM's CARD OF 'usherlaw5.PageBack'. -/
def pageBackUptoCard : Claim7 := { stood := { row := pageBackUptoRow, standIns := [], harness := (true, "59feda41cc76b2fb1c339589c10f3a4094110064c03ac97f33aff1f5ea27c8c9"), looks := true }, kinds := [], alts := [], laidByText := true, laidKinds := [.sentinel, .sentinel, .sentinel, .sentinel, .sentinel, .sentinel, .sentinel, .sentinel, .sentinel, .sentinel, .sentinel, .sentinel, .sentinel, .data], laidTests := true, laidLooks := .later }
def PageBackUptoCardSaid : Prop := Claim7.holds Tryd.pinned (.plain (OpenSpec.upto pageBackSpec)) pageBackUptoCard

/-- THE SECOND FORM's CARD OF 'usherlaw5.PageReadMemory'. -/
def pageReadMemoryUptoCard : Claim7 := { stood := { row := pageReadMemoryUptoRow, standIns := [], harness := (true, "59feda41cc76b2fb1c339589c10f3a4094110064c03ac97f33aff1f5ea27c8c9"), looks := true }, kinds := [], alts := [], laidByText := true, laidKinds := [.sentinel, .sentinel, .data], laidTests := true, laidLooks := .later }
def PageReadMemoryUptoCardSaid : Prop := Claim7.holds Tryd.pinned (.plain (OpenSpec.upto pageReadMemorySpec)) pageReadMemoryUptoCard
end Rows
end Go.Proofs.YtaeleccngpfngaaDoor
