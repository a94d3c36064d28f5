/-
  DERIVED. GIVEN WITH THE SEED: THE CARDS: each row of YtilhfmhjgfmejaaGreatDoorRows.lean that lists a variable, with what it lists TIED to the program's text (the seventh form; the later family's looks); each row that meets fmt, with fmt's text TOLD by the authors' own Lean function (tested against real Go, not proved from fmt's source: count such statements apart). THE CARD IS WHAT COUNTS. Prove the row's statement (the work); the ties are given (YtilhfmhjgfmejaaGreatDoorTie.lean); close each card by the builder's one call (the guide's Derived/Test/ToyasCard.lean, 'card_holds'). Laid BY PROGRAM, IN A SANDBOX (cutbox-door.mjs). By AI agents, Wed Nov 11 2026. No macro, syntax, notation, axiom, sorry.
-/
import Derived.Test.YtilhfmhjgfmejaaGreatDoorRows
import GoSem.ClaimSeven
namespace Go.Proofs.YtilhfmhjgfmejaaGreatDoor
namespace Rows

/-- THE TIED CARD OF 'usherlaw11.RegistryCheckExact'. -/
def registryCheckExactCard : Claim7 := { stood := { row := registryCheckExactRow, standIns := [], harness := (true, "711c94684816338f0dc50def96f2749c4f4ed7f0283d571f0f82c005a9015725"), looks := true }, kinds := [], alts := [], laidByText := true, laidKinds := [.data, .data, .data, .data, .sentinel, .sentinel, .sentinel, .sentinel, .sentinel, .sentinel, .sentinel, .sentinel, .sentinel, .sentinel, .sentinel, .sentinel, .sentinel, .sentinel, .sentinel, .data, .wider, .data, .data, .pinned], laidTests := true, laidLooks := .later }
def RegistryCheckExactCardSaid : Prop := Claim7.holds Tryz.pinned (.plain (OpenSpec.ofChange registryCheckExactSpec)) registryCheckExactCard

/-- THE TIED CARD OF 'usherlaw11.RegistryTextExact'. -/
def registryTextExactCard : Claim7 := { stood := { row := registryTextExactRow, standIns := [], harness := (true, "711c94684816338f0dc50def96f2749c4f4ed7f0283d571f0f82c005a9015725"), looks := true }, kinds := [], alts := [], laidByText := true, laidKinds := [.data, .data, .data, .data, .sentinel, .sentinel, .sentinel, .sentinel, .sentinel, .sentinel, .sentinel, .sentinel, .sentinel, .sentinel, .sentinel, .sentinel, .sentinel, .sentinel, .sentinel, .data, .data, .wider, .data, .data, .data, .pinned], laidTests := true, laidLooks := .later }
def RegistryTextExactCardSaid : Prop := Claim7.holds Tryz.pinned (.plain (OpenSpec.ofChange registryTextExactSpec)) registryTextExactCard

/-- THE SECOND FORM's CARD OF 'usherlaw11.RegistryCheckExact'. -/
def registryCheckExactUptoCard : Claim7 := { stood := { row := registryCheckExactUptoRow, standIns := [], harness := (true, "711c94684816338f0dc50def96f2749c4f4ed7f0283d571f0f82c005a9015725"), looks := true }, kinds := [], alts := [], laidByText := true, laidKinds := [.data, .data, .data, .data, .sentinel, .sentinel, .sentinel, .sentinel, .sentinel, .sentinel, .sentinel, .sentinel, .sentinel, .sentinel, .sentinel, .sentinel, .sentinel, .sentinel, .sentinel, .data, .wider, .data, .data, .pinned], laidTests := true, laidLooks := .later }
def RegistryCheckExactUptoCardSaid : Prop := Claim7.holds Tryz.pinned (.plain (OpenSpec.upto registryCheckExactSpec)) registryCheckExactUptoCard

/-- THE SECOND FORM's CARD OF 'usherlaw11.RegistryTextExact'. -/
def registryTextExactUptoCard : Claim7 := { stood := { row := registryTextExactUptoRow, standIns := [], harness := (true, "711c94684816338f0dc50def96f2749c4f4ed7f0283d571f0f82c005a9015725"), looks := true }, kinds := [], alts := [], laidByText := true, laidKinds := [.data, .data, .data, .data, .sentinel, .sentinel, .sentinel, .sentinel, .sentinel, .sentinel, .sentinel, .sentinel, .sentinel, .sentinel, .sentinel, .sentinel, .sentinel, .sentinel, .sentinel, .data, .data, .wider, .data, .data, .data, .pinned], laidTests := true, laidLooks := .later }
def RegistryTextExactUptoCardSaid : Prop := Claim7.holds Tryz.pinned (.plain (OpenSpec.upto registryTextExactSpec)) registryTextExactUptoCard
end Rows
end Go.Proofs.YtilhfmhjgfmejaaGreatDoor
