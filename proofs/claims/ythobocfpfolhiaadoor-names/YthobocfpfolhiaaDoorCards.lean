/-
  DERIVED. GIVEN WITH THE SEED: THE CARDS: each row of YthobocfpfolhiaaDoorRows.lean that lists a variable, with what it lists TIED to the program's text (the seventh form; the later family's looks); each row that meets fmt, with fmt's text TOLD by the authors' own Lean function (tested against real Go, not proved from fmt's source: count such statements apart). THE CARD IS WHAT COUNTS. Prove the row's statement (the work); the ties are given (YthobocfpfolhiaaDoorTie.lean); close each card by the builder's one call (the guide's Derived/Test/ToyasCard.lean, 'card_holds'). Laid BY PROGRAM, IN A SANDBOX (cutbox-door.mjs). By AI agents, Wed Nov 11 2026. No macro, syntax, notation, axiom, sorry.
-/
import Derived.Test.YthobocfpfolhiaaDoorRows
import GoSem.ClaimSeven
namespace Go.Proofs.YthobocfpfolhiaaDoor
namespace Rows

/-- THE TIED CARD OF 'usherlaw1.SumsAffine'. -/
def sumsAffineCard : Claim7 := { stood := { row := sumsAffineRow, standIns := [], harness := (true, "2b468e3bbc07c772311eb10c68e7ffd398a4305d9677c9df66838615f8f28c5f"), looks := true }, kinds := [], alts := [], laidByText := true, laidKinds := [.data], laidTests := true, laidLooks := .later }
def SumsAffineCardSaid : Prop := Claim7.holds Tryd.pinned (.plain (OpenSpec.ofChange sumsAffineSpec)) sumsAffineCard

/-- THE TIED CARD OF 'usherlaw1.SumsCrc'. -/
def sumsCrcCard : Claim7 := { stood := { row := sumsCrcRow, standIns := [], harness := (true, "2b468e3bbc07c772311eb10c68e7ffd398a4305d9677c9df66838615f8f28c5f"), looks := true }, kinds := [], alts := [], laidByText := true, laidKinds := [.data], laidTests := true, laidLooks := .later }
def SumsCrcCardSaid : Prop := Claim7.holds Tryd.pinned (.plain (OpenSpec.ofChange sumsCrcSpec)) sumsCrcCard

/-- THE TIED CARD OF 'usherlaw1.SumsMore'. -/
def sumsMoreCard : Claim7 := { stood := { row := sumsMoreRow, standIns := [], harness := (true, "2b468e3bbc07c772311eb10c68e7ffd398a4305d9677c9df66838615f8f28c5f"), looks := true }, kinds := [], alts := [], laidByText := true, laidKinds := [.data], laidTests := true, laidLooks := .later }
def SumsMoreCardSaid : Prop := Claim7.holds Tryd.pinned (.plain (OpenSpec.ofChange sumsMoreSpec)) sumsMoreCard

/-- THE TIED CARD OF 'usherlaw1.SumsBurst'. -/
def sumsBurstCard : Claim7 := { stood := { row := sumsBurstRow, standIns := [], harness := (true, "2b468e3bbc07c772311eb10c68e7ffd398a4305d9677c9df66838615f8f28c5f"), looks := true }, kinds := [], alts := [], laidByText := true, laidKinds := [.data], laidTests := true, laidLooks := .later }
def SumsBurstCardSaid : Prop := Claim7.holds Tryd.pinned (.plain (OpenSpec.ofChange sumsBurstSpec)) sumsBurstCard

/-- THE TIED CARD OF 'usherlaw0.Names'. -/
def namesCard : Claim7 := { stood := { row := namesRow, standIns := [], harness := (true, "2b468e3bbc07c772311eb10c68e7ffd398a4305d9677c9df66838615f8f28c5f"), looks := true }, kinds := [], alts := [], laidByText := true, laidKinds := [.sentinel, .sentinel, .sentinel, .sentinel, .sentinel, .sentinel, .sentinel, .sentinel, .sentinel, .sentinel, .sentinel, .sentinel, .sentinel, .data, .data, .data, .data, .data, .data], laidTests := true, laidLooks := .later }
def NamesCardSaid : Prop := Claim7.holds Tryd.pinned (.plain (OpenSpec.ofChange namesSpec)) namesCard

/-- THE TIED CARD OF 'usherlaw1.SumsKeys'. -/
def sumsKeysCard : Claim7 := { stood := { row := sumsKeysRow, standIns := [], harness := (true, "2b468e3bbc07c772311eb10c68e7ffd398a4305d9677c9df66838615f8f28c5f"), looks := true }, kinds := [], alts := [], laidByText := true, laidKinds := [.data, .data], laidTests := true, laidLooks := .later }
def SumsKeysCardSaid : Prop := Claim7.holds Tryd.pinned (.plain (OpenSpec.ofChange sumsKeysSpec)) sumsKeysCard

/-- THE SECOND FORM's CARD OF 'usherlaw1.SumsAffine'. -/
def sumsAffineUptoCard : Claim7 := { stood := { row := sumsAffineUptoRow, standIns := [], harness := (true, "2b468e3bbc07c772311eb10c68e7ffd398a4305d9677c9df66838615f8f28c5f"), looks := true }, kinds := [], alts := [], laidByText := true, laidKinds := [.data], laidTests := true, laidLooks := .later }
def SumsAffineUptoCardSaid : Prop := Claim7.holds Tryd.pinned (.plain (OpenSpec.upto sumsAffineSpec)) sumsAffineUptoCard

/-- THE SECOND FORM's CARD OF 'usherlaw1.SumsCrc'. -/
def sumsCrcUptoCard : Claim7 := { stood := { row := sumsCrcUptoRow, standIns := [], harness := (true, "2b468e3bbc07c772311eb10c68e7ffd398a4305d9677c9df66838615f8f28c5f"), looks := true }, kinds := [], alts := [], laidByText := true, laidKinds := [.data], laidTests := true, laidLooks := .later }
def SumsCrcUptoCardSaid : Prop := Claim7.holds Tryd.pinned (.plain (OpenSpec.upto sumsCrcSpec)) sumsCrcUptoCard

/-- THE SECOND FORM's CARD OF 'usherlaw1.SumsMore'. -/
def sumsMoreUptoCard : Claim7 := { stood := { row := sumsMoreUptoRow, standIns := [], harness := (true, "2b468e3bbc07c772311eb10c68e7ffd398a4305d9677c9df66838615f8f28c5f"), looks := true }, kinds := [], alts := [], laidByText := true, laidKinds := [.data], laidTests := true, laidLooks := .later }
def SumsMoreUptoCardSaid : Prop := Claim7.holds Tryd.pinned (.plain (OpenSpec.upto sumsMoreSpec)) sumsMoreUptoCard

/-- THE SECOND FORM's CARD OF 'usherlaw1.SumsBurst'. -/
def sumsBurstUptoCard : Claim7 := { stood := { row := sumsBurstUptoRow, standIns := [], harness := (true, "2b468e3bbc07c772311eb10c68e7ffd398a4305d9677c9df66838615f8f28c5f"), looks := true }, kinds := [], alts := [], laidByText := true, laidKinds := [.data], laidTests := true, laidLooks := .later }
def SumsBurstUptoCardSaid : Prop := Claim7.holds Tryd.pinned (.plain (OpenSpec.upto sumsBurstSpec)) sumsBurstUptoCard

/-- THE SECOND FORM's CARD OF 'usherlaw0.Names'. -/
def namesUptoCard : Claim7 := { stood := { row := namesUptoRow, standIns := [], harness := (true, "2b468e3bbc07c772311eb10c68e7ffd398a4305d9677c9df66838615f8f28c5f"), looks := true }, kinds := [], alts := [], laidByText := true, laidKinds := [.sentinel, .sentinel, .sentinel, .sentinel, .sentinel, .sentinel, .sentinel, .sentinel, .sentinel, .sentinel, .sentinel, .sentinel, .sentinel, .data, .data, .data, .data, .data, .data], laidTests := true, laidLooks := .later }
def NamesUptoCardSaid : Prop := Claim7.holds Tryd.pinned (.plain (OpenSpec.upto namesSpec)) namesUptoCard

/-- THE SECOND FORM's CARD OF 'usherlaw1.SumsKeys'. -/
def sumsKeysUptoCard : Claim7 := { stood := { row := sumsKeysUptoRow, standIns := [], harness := (true, "2b468e3bbc07c772311eb10c68e7ffd398a4305d9677c9df66838615f8f28c5f"), looks := true }, kinds := [], alts := [], laidByText := true, laidKinds := [.data, .data], laidTests := true, laidLooks := .later }
def SumsKeysUptoCardSaid : Prop := Claim7.holds Tryd.pinned (.plain (OpenSpec.upto sumsKeysSpec)) sumsKeysUptoCard
end Rows
end Go.Proofs.YthobocfpfolhiaaDoor
