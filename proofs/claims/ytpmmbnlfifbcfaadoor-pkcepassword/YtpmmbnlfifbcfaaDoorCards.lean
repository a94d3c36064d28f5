/-
  DERIVED. GIVEN WITH THE SEED: THE CARDS: each row of YtpmmbnlfifbcfaaDoorRows.lean that lists a variable, with what it lists TIED to the program's text (the seventh form; the later family's looks); each row that meets fmt, with fmt's text TOLD by the authors' own Lean function (tested against real Go, not proved from fmt's source: count such statements apart). THE CARD IS WHAT COUNTS. Prove the row's statement (the work); the ties are given (YtpmmbnlfifbcfaaDoorTie.lean); close each card by the builder's one call (the guide's Derived/Test/ToyasCard.lean, 'card_holds'). Laid BY PROGRAM, IN A SANDBOX (cutbox-door.mjs). By AI agents, Wed Nov 11 2026. No macro, syntax, notation, axiom, sorry.
-/
import Derived.Test.YtpmmbnlfifbcfaaDoorRows
import GoSem.ClaimSeven
namespace Go.Proofs.YtpmmbnlfifbcfaaDoor
namespace Rows

/-- THE TIED CARD OF 'usherlaw10.PkceOpens'. -/
def pkceOpensCard : Claim7 := { stood := { row := pkceOpensRow, standIns := [], harness := (true, "4e3c4b4ce4368675f6171328bd9c598b2d728738fdec803bd0f257bc4c2894fd"), looks := true }, kinds := [], alts := [], laidByText := true, laidKinds := [.sentinel, .data, .data], laidTests := true, laidLooks := .later }
def PkceOpensCardSaid : Prop := Claim7.holds Tryd.pinned (.plain (OpenSpec.ofChange pkceOpensSpec)) pkceOpensCard

/-- THE TIED CARD OF 'usherlaw10.PkceSeal'. -/
def pkceSealCard : Claim7 := { stood := { row := pkceSealRow, standIns := [], harness := (true, "4e3c4b4ce4368675f6171328bd9c598b2d728738fdec803bd0f257bc4c2894fd"), looks := true }, kinds := [], alts := [], laidByText := true, laidKinds := [.sentinel, .sentinel, .sentinel, .sentinel, .sentinel, .sentinel, .sentinel, .sentinel, .sentinel, .sentinel, .sentinel, .sentinel, .sentinel, .data, .data, .data, .data], laidTests := true, laidLooks := .later }
def PkceSealCardSaid : Prop := Claim7.holds Tryd.pinned (.plain (OpenSpec.ofChange pkceSealSpec)) pkceSealCard

/-- THE TIED CARD OF 'usherlaw10.PkcePassword'. -/
def pkcePasswordCard : Claim7 := { stood := { row := pkcePasswordRow, standIns := [], harness := (true, "4e3c4b4ce4368675f6171328bd9c598b2d728738fdec803bd0f257bc4c2894fd"), looks := true }, kinds := [], alts := [], laidByText := true, laidKinds := [.sentinel, .data, .data, .data, .data], laidTests := true, laidLooks := .later }
def PkcePasswordCardSaid : Prop := Claim7.holds Tryd.pinned (.plain (OpenSpec.ofChange pkcePasswordSpec)) pkcePasswordCard

/-- THE SECOND FORM's CARD OF 'usherlaw10.PkceOpens'. -/
def pkceOpensUptoCard : Claim7 := { stood := { row := pkceOpensUptoRow, standIns := [], harness := (true, "4e3c4b4ce4368675f6171328bd9c598b2d728738fdec803bd0f257bc4c2894fd"), looks := true }, kinds := [], alts := [], laidByText := true, laidKinds := [.sentinel, .data, .data], laidTests := true, laidLooks := .later }
def PkceOpensUptoCardSaid : Prop := Claim7.holds Tryd.pinned (.plain (OpenSpec.upto pkceOpensSpec)) pkceOpensUptoCard

/-- THE SECOND FORM's CARD OF 'usherlaw10.PkceSeal'. -/
def pkceSealUptoCard : Claim7 := { stood := { row := pkceSealUptoRow, standIns := [], harness := (true, "4e3c4b4ce4368675f6171328bd9c598b2d728738fdec803bd0f257bc4c2894fd"), looks := true }, kinds := [], alts := [], laidByText := true, laidKinds := [.sentinel, .sentinel, .sentinel, .sentinel, .sentinel, .sentinel, .sentinel, .sentinel, .sentinel, .sentinel, .sentinel, .sentinel, .sentinel, .data, .data, .data, .data], laidTests := true, laidLooks := .later }
def PkceSealUptoCardSaid : Prop := Claim7.holds Tryd.pinned (.plain (OpenSpec.upto pkceSealSpec)) pkceSealUptoCard

/-- THE SECOND FORM's CARD OF 'usherlaw10.PkcePassword'. -/
def pkcePasswordUptoCard : Claim7 := { stood := { row := pkcePasswordUptoRow, standIns := [], harness := (true, "4e3c4b4ce4368675f6171328bd9c598b2d728738fdec803bd0f257bc4c2894fd"), looks := true }, kinds := [], alts := [], laidByText := true, laidKinds := [.sentinel, .data, .data, .data, .data], laidTests := true, laidLooks := .later }
def PkcePasswordUptoCardSaid : Prop := Claim7.holds Tryd.pinned (.plain (OpenSpec.upto pkcePasswordSpec)) pkcePasswordUptoCard
end Rows
end Go.Proofs.YtpmmbnlfifbcfaaDoor
