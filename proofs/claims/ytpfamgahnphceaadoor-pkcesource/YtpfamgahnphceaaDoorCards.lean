/-
  DERIVED. GIVEN WITH THE SEED: THE CARDS: each row of YtpfamgahnphceaaDoorRows.lean that lists a variable, with what it lists TIED to the program's text (the seventh form; the later family's looks); each row that meets fmt, with fmt's text TOLD by the authors' own Lean function (tested against real Go, not proved from fmt's source: count such statements apart). THE CARD IS WHAT COUNTS. Prove the row's statement (the work); the ties are given (YtpfamgahnphceaaDoorTie.lean); close each card by the builder's one call (the guide's Derived/Test/ToyasCard.lean, 'card_holds'). Laid BY PROGRAM, IN A SANDBOX (cutbox-door.mjs). By AI agents, Wed Nov 11 2026. No macro, syntax, notation, axiom, sorry.
-/
import Derived.Test.YtpfamgahnphceaaDoorRows
import GoSem.ClaimSeven
namespace Go.Proofs.YtpfamgahnphceaaDoor
namespace Rows

/-- THE TIED CARD OF 'usherlaw10.PkceOnce'. -/
def pkceOnceCard : Claim7 := { stood := { row := pkceOnceRow, standIns := [], harness := (true, "2b8de4752defca180a061af61cffc71d690cc780fb73b54461c1d8e7a6644b28"), looks := true }, kinds := [], alts := [], laidByText := true, laidKinds := [.sentinel, .sentinel, .sentinel, .sentinel, .sentinel, .sentinel, .sentinel, .sentinel, .sentinel, .sentinel, .sentinel, .sentinel, .sentinel, .data], laidTests := true, laidLooks := .later }
def PkceOnceCardSaid : Prop := Claim7.holds Tryd.pinned (.plain (OpenSpec.ofChange pkceOnceSpec)) pkceOnceCard

/-- THE TIED CARD OF 'usherlaw10.PkceSource'. -/
def pkceSourceCard : Claim7 := { stood := { row := pkceSourceRow, standIns := [], harness := (true, "2b8de4752defca180a061af61cffc71d690cc780fb73b54461c1d8e7a6644b28"), looks := true }, kinds := [], alts := [], laidByText := true, laidKinds := [.sentinel, .sentinel, .sentinel, .sentinel, .sentinel, .sentinel, .sentinel, .sentinel, .sentinel, .sentinel, .sentinel, .sentinel, .sentinel, .data], laidTests := true, laidLooks := .later }
def PkceSourceCardSaid : Prop := Claim7.holds Tryd.pinned (.plain (OpenSpec.ofChange pkceSourceSpec)) pkceSourceCard

/-- THE SECOND FORM's CARD OF 'usherlaw10.PkceOnce'. -/
def pkceOnceUptoCard : Claim7 := { stood := { row := pkceOnceUptoRow, standIns := [], harness := (true, "2b8de4752defca180a061af61cffc71d690cc780fb73b54461c1d8e7a6644b28"), looks := true }, kinds := [], alts := [], laidByText := true, laidKinds := [.sentinel, .sentinel, .sentinel, .sentinel, .sentinel, .sentinel, .sentinel, .sentinel, .sentinel, .sentinel, .sentinel, .sentinel, .sentinel, .data], laidTests := true, laidLooks := .later }
def PkceOnceUptoCardSaid : Prop := Claim7.holds Tryd.pinned (.plain (OpenSpec.upto pkceOnceSpec)) pkceOnceUptoCard

/-- THE SECOND FORM's CARD OF 'usherlaw10.PkceSource'. -/
def pkceSourceUptoCard : Claim7 := { stood := { row := pkceSourceUptoRow, standIns := [], harness := (true, "2b8de4752defca180a061af61cffc71d690cc780fb73b54461c1d8e7a6644b28"), looks := true }, kinds := [], alts := [], laidByText := true, laidKinds := [.sentinel, .sentinel, .sentinel, .sentinel, .sentinel, .sentinel, .sentinel, .sentinel, .sentinel, .sentinel, .sentinel, .sentinel, .sentinel, .data], laidTests := true, laidLooks := .later }
def PkceSourceUptoCardSaid : Prop := Claim7.holds Tryd.pinned (.plain (OpenSpec.upto pkceSourceSpec)) pkceSourceUptoCard
end Rows
end Go.Proofs.YtpfamgahnphceaaDoor
