/-
  DERIVED. GIVEN WITH THE SEED: THE CARDS: each row of YtocpikgcbibcoaaGreatDoorRows.lean that lists a variable, with what it lists TIED to the program's text (the seventh form; the later family's looks); each row that meets fmt, with fmt's text TOLD by the authors' own Lean function (tested against real Go, not proved from fmt's source: count such statements apart). THE CARD IS WHAT COUNTS. Prove the row's statement (the work); the ties are given (YtocpikgcbibcoaaGreatDoorTie.lean); close each card by the builder's one call (the guide's Derived/Test/ToyasCard.lean, 'card_holds'). Laid BY PROGRAM, IN A SANDBOX (cutbox-door.mjs). By AI agents, Wed Nov 11 2026. No macro, syntax, notation, axiom, sorry.
-/
import Derived.Test.YtocpikgcbibcoaaGreatDoorRows
import GoSem.ClaimSeven
namespace Go.Proofs.YtocpikgcbibcoaaGreatDoor
namespace Rows

/-- THE TIED CARD OF 'usherlaw14.RecordReadMemory'. -/
def recordReadMemoryCard : Claim7 := { stood := { row := recordReadMemoryRow, standIns := [], harness := (true, "b66b460801f173b6de16ef481c1538c500595640b4ca43ac0e2cdc08e43124ed"), looks := true }, kinds := [], alts := [], laidByText := true, laidKinds := [.data, .data, .data, .data, .sentinel, .sentinel, .sentinel, .sentinel, .sentinel, .sentinel, .sentinel, .sentinel, .sentinel, .sentinel, .sentinel, .sentinel, .sentinel, .sentinel, .sentinel, .data, .data, .data, .data, .data, .data, .pinned], laidTests := true, laidLooks := .later }
def RecordReadMemoryCardSaid : Prop := Claim7.holds Tryz.pinned (.plain (OpenSpec.ofChange recordReadMemorySpec)) recordReadMemoryCard

/-- THE SECOND FORM's CARD OF 'usherlaw14.RecordReadMemory'. -/
def recordReadMemoryUptoCard : Claim7 := { stood := { row := recordReadMemoryUptoRow, standIns := [], harness := (true, "b66b460801f173b6de16ef481c1538c500595640b4ca43ac0e2cdc08e43124ed"), looks := true }, kinds := [], alts := [], laidByText := true, laidKinds := [.data, .data, .data, .data, .sentinel, .sentinel, .sentinel, .sentinel, .sentinel, .sentinel, .sentinel, .sentinel, .sentinel, .sentinel, .sentinel, .sentinel, .sentinel, .sentinel, .sentinel, .data, .data, .data, .data, .data, .data, .pinned], laidTests := true, laidLooks := .later }
def RecordReadMemoryUptoCardSaid : Prop := Claim7.holds Tryz.pinned (.plain (OpenSpec.upto recordReadMemorySpec)) recordReadMemoryUptoCard
end Rows
end Go.Proofs.YtocpikgcbibcoaaGreatDoor
