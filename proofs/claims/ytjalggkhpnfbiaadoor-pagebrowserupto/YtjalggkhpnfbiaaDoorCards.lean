/-
  DERIVED. GIVEN WITH THE SEED: THE CARDS: each row of YtjalggkhpnfbiaaDoorRows.lean that lists a variable, with what it lists TIED to the program's text (the seventh form; the later family's looks); each row that meets fmt, with fmt's text TOLD by the authors' own Lean function (tested against real Go, not proved from fmt's source: count such statements apart). THE CARD IS WHAT COUNTS. Prove the row's statement (the work); the ties are given (YtjalggkhpnfbiaaDoorTie.lean); close each card by the builder's one call (the guide's Derived/Test/ToyasCard.lean, 'card_holds'). Laid BY PROGRAM, IN A SANDBOX (cutbox-door.mjs). By AI agents, Wed Nov 11 2026. No macro, syntax, notation, axiom, sorry.
-/
import Derived.Test.YtjalggkhpnfbiaaDoorRows
import GoSem.ClaimSeven
namespace Go.Proofs.YtjalggkhpnfbiaaDoor
namespace Rows

/-- THE TIED CARD OF 'usherlaw5.PageReadMemory'. -/
def pageReadMemoryCard : Claim7 := { stood := { row := pageReadMemoryRow, standIns := [], harness := (true, "17d412b8925493bb4f407c3a2b297f902a4bc1844b2f6226a949b850afaeb1d1"), looks := false }, kinds := [], alts := [], laidByText := true, laidKinds := [.sentinel, .sentinel, .data], laidTests := true, laidLooks := .later }
def PageReadMemoryCardSaid : Prop := Claim7.holds Tryd.pinned (.plain (OpenSpec.ofChange pageReadMemorySpec)) pageReadMemoryCard

/-- THE TIED CARD OF 'usherlaw5.PageBrowser'. -/
def pageBrowserCard : Claim7 := { stood := { row := pageBrowserRow, standIns := [], harness := (true, "17d412b8925493bb4f407c3a2b297f902a4bc1844b2f6226a949b850afaeb1d1"), looks := false }, kinds := [], alts := [], laidByText := true, laidKinds := [.data, .sentinel, .sentinel, .sentinel, .data, .data, .pinned], laidTests := true, laidLooks := .later }
def PageBrowserCardSaid : Prop := Claim7.holds Tryd.pinned (.plain (OpenSpec.ofChange pageBrowserSpec)) pageBrowserCard

/-- THE SECOND FORM's CARD OF 'usherlaw5.PageReadMemory'. -/
def pageReadMemoryUptoCard : Claim7 := { stood := { row := pageReadMemoryUptoRow, standIns := [], harness := (true, "17d412b8925493bb4f407c3a2b297f902a4bc1844b2f6226a949b850afaeb1d1"), looks := false }, kinds := [], alts := [], laidByText := true, laidKinds := [.sentinel, .sentinel, .data], laidTests := true, laidLooks := .later }
def PageReadMemoryUptoCardSaid : Prop := Claim7.holds Tryd.pinned (.plain (OpenSpec.upto pageReadMemorySpec)) pageReadMemoryUptoCard

/-- THE SECOND FORM's CARD OF 'usherlaw5.PageBrowser'. -/
def pageBrowserUptoCard : Claim7 := { stood := { row := pageBrowserUptoRow, standIns := [], harness := (true, "17d412b8925493bb4f407c3a2b297f902a4bc1844b2f6226a949b850afaeb1d1"), looks := false }, kinds := [], alts := [], laidByText := true, laidKinds := [.data, .sentinel, .sentinel, .sentinel, .data, .data, .pinned], laidTests := true, laidLooks := .later }
def PageBrowserUptoCardSaid : Prop := Claim7.holds Tryd.pinned (.plain (OpenSpec.upto pageBrowserSpec)) pageBrowserUptoCard
end Rows
end Go.Proofs.YtjalggkhpnfbiaaDoor
