/-
  DERIVED. GIVEN WITH THE SEED: THE CARDS: each row of YtdkbjefphihplabDoorRows.lean that lists a variable, with what it lists TIED to the program's text (the seventh form; the later family's looks); each row that meets fmt, with fmt's text TOLD by the authors' own Lean function (tested against real Go, not proved from fmt's source: count such statements apart). THE CARD IS WHAT COUNTS. Prove the row's statement (the work); the ties are given (YtdkbjefphihplabDoorTie.lean); close each card by the builder's one call (the guide's Derived/Test/ToyasCard.lean, 'card_holds'). Laid BY PROGRAM, IN A SANDBOX (cutbox-door.mjs). By AI agents, Wed Nov 11 2026. No macro, syntax, notation, axiom, sorry.
-/
import Derived.Test.YtdkbjefphihplabDoorRows
import GoSem.ClaimSeven
namespace Go.Proofs.YtdkbjefphihplabDoor
namespace Rows

/-- THE TIED CARD OF 'usherlaw6.FieldMedias'. -/
def fieldMediasCard : Claim7 := { stood := { row := fieldMediasRow, standIns := [], harness := (true, "1ab9e27afab6a7bbeea974800cbec7e422854a728df12b69de2a751c9cb79047"), looks := true }, kinds := [], alts := [], laidByText := true, laidKinds := [.data, .sentinel, .sentinel, .sentinel, .sentinel, .sentinel, .sentinel, .sentinel, .sentinel, .sentinel, .sentinel, .sentinel, .sentinel, .sentinel, .pinned, .pinned], laidTests := true, laidLooks := .later }
def FieldMediasCardSaid : Prop := Claim7.holds Tryd.pinned (.plain (OpenSpec.ofChange fieldMediasSpec)) fieldMediasCard

/-- THE TIED CARD OF 'usherlaw6.FieldSets'. -/
def fieldSetsCard : Claim7 := { stood := { row := fieldSetsRow, standIns := [], harness := (true, "1ab9e27afab6a7bbeea974800cbec7e422854a728df12b69de2a751c9cb79047"), looks := true }, kinds := [], alts := [], laidByText := true, laidKinds := [.data, .data, .data, .sentinel, .sentinel, .sentinel, .sentinel, .sentinel, .sentinel, .sentinel, .sentinel, .sentinel, .sentinel, .sentinel, .sentinel, .sentinel], laidTests := true, laidLooks := .later }
def FieldSetsCardSaid : Prop := Claim7.holds Tryd.pinned (.plain (OpenSpec.ofChange fieldSetsSpec)) fieldSetsCard

/-- THE TIED CARD OF 'usherlaw6.FieldSafe'. -/
def fieldSafeCard : Claim7 := { stood := { row := fieldSafeRow, standIns := [], harness := (true, "1ab9e27afab6a7bbeea974800cbec7e422854a728df12b69de2a751c9cb79047"), looks := true }, kinds := [], alts := [], laidByText := true, laidKinds := [.data, .data, .data, .data, .sentinel, .sentinel, .data, .data, .pinned], laidTests := true, laidLooks := .later }
def FieldSafeCardSaid : Prop := Claim7.holds Tryd.pinned (.plain (OpenSpec.ofChange fieldSafeSpec)) fieldSafeCard

/-- THE TIED CARD OF 'usherlaw6.FieldCookieBack'. -/
def fieldCookieBackCard : Claim7 := { stood := { row := fieldCookieBackRow, standIns := [], harness := (true, "1ab9e27afab6a7bbeea974800cbec7e422854a728df12b69de2a751c9cb79047"), looks := true }, kinds := [], alts := [], laidByText := true, laidKinds := [.data, .sentinel, .sentinel, .pinned], laidTests := true, laidLooks := .later }
def FieldCookieBackCardSaid : Prop := Claim7.holds Tryd.pinned (.plain (OpenSpec.ofChange fieldCookieBackSpec)) fieldCookieBackCard

/-- THE TIED CARD OF 'usherlaw6.FieldBasicBack'. -/
def fieldBasicBackCard : Claim7 := { stood := { row := fieldBasicBackRow, standIns := [], harness := (true, "1ab9e27afab6a7bbeea974800cbec7e422854a728df12b69de2a751c9cb79047"), looks := true }, kinds := [], alts := [], laidByText := true, laidKinds := [.data, .sentinel, .sentinel, .data, .data, .pinned], laidTests := true, laidLooks := .later }
def FieldBasicBackCardSaid : Prop := Claim7.holds Tryd.pinned (.plain (OpenSpec.ofChange fieldBasicBackSpec)) fieldBasicBackCard

/-- THE TIED CARD OF 'usherlaw6.FieldCookies'. -/
def fieldCookiesCard : Claim7 := { stood := { row := fieldCookiesRow, standIns := [], harness := (true, "1ab9e27afab6a7bbeea974800cbec7e422854a728df12b69de2a751c9cb79047"), looks := true }, kinds := [], alts := [], laidByText := true, laidKinds := [.data, .sentinel, .sentinel, .sentinel, .sentinel, .sentinel, .sentinel, .sentinel, .sentinel, .sentinel, .sentinel, .sentinel, .sentinel, .sentinel, .pinned], laidTests := true, laidLooks := .later }
def FieldCookiesCardSaid : Prop := Claim7.holds Tryd.pinned (.plain (OpenSpec.ofChange fieldCookiesSpec)) fieldCookiesCard

/-- THE SECOND FORM's CARD OF 'usherlaw6.FieldMedias'. -/
def fieldMediasUptoCard : Claim7 := { stood := { row := fieldMediasUptoRow, standIns := [], harness := (true, "1ab9e27afab6a7bbeea974800cbec7e422854a728df12b69de2a751c9cb79047"), looks := true }, kinds := [], alts := [], laidByText := true, laidKinds := [.data, .sentinel, .sentinel, .sentinel, .sentinel, .sentinel, .sentinel, .sentinel, .sentinel, .sentinel, .sentinel, .sentinel, .sentinel, .sentinel, .pinned, .pinned], laidTests := true, laidLooks := .later }
def FieldMediasUptoCardSaid : Prop := Claim7.holds Tryd.pinned (.plain (OpenSpec.upto fieldMediasSpec)) fieldMediasUptoCard

/-- THE SECOND FORM's CARD OF 'usherlaw6.FieldSets'. -/
def fieldSetsUptoCard : Claim7 := { stood := { row := fieldSetsUptoRow, standIns := [], harness := (true, "1ab9e27afab6a7bbeea974800cbec7e422854a728df12b69de2a751c9cb79047"), looks := true }, kinds := [], alts := [], laidByText := true, laidKinds := [.data, .data, .data, .sentinel, .sentinel, .sentinel, .sentinel, .sentinel, .sentinel, .sentinel, .sentinel, .sentinel, .sentinel, .sentinel, .sentinel, .sentinel], laidTests := true, laidLooks := .later }
def FieldSetsUptoCardSaid : Prop := Claim7.holds Tryd.pinned (.plain (OpenSpec.upto fieldSetsSpec)) fieldSetsUptoCard

/-- THE SECOND FORM's CARD OF 'usherlaw6.FieldSafe'. -/
def fieldSafeUptoCard : Claim7 := { stood := { row := fieldSafeUptoRow, standIns := [], harness := (true, "1ab9e27afab6a7bbeea974800cbec7e422854a728df12b69de2a751c9cb79047"), looks := true }, kinds := [], alts := [], laidByText := true, laidKinds := [.data, .data, .data, .data, .sentinel, .sentinel, .data, .data, .pinned], laidTests := true, laidLooks := .later }
def FieldSafeUptoCardSaid : Prop := Claim7.holds Tryd.pinned (.plain (OpenSpec.upto fieldSafeSpec)) fieldSafeUptoCard

/-- THE SECOND FORM's CARD OF 'usherlaw6.FieldCookieBack'. -/
def fieldCookieBackUptoCard : Claim7 := { stood := { row := fieldCookieBackUptoRow, standIns := [], harness := (true, "1ab9e27afab6a7bbeea974800cbec7e422854a728df12b69de2a751c9cb79047"), looks := true }, kinds := [], alts := [], laidByText := true, laidKinds := [.data, .sentinel, .sentinel, .pinned], laidTests := true, laidLooks := .later }
def FieldCookieBackUptoCardSaid : Prop := Claim7.holds Tryd.pinned (.plain (OpenSpec.upto fieldCookieBackSpec)) fieldCookieBackUptoCard

/-- THE SECOND FORM's CARD OF 'usherlaw6.FieldBasicBack'. -/
def fieldBasicBackUptoCard : Claim7 := { stood := { row := fieldBasicBackUptoRow, standIns := [], harness := (true, "1ab9e27afab6a7bbeea974800cbec7e422854a728df12b69de2a751c9cb79047"), looks := true }, kinds := [], alts := [], laidByText := true, laidKinds := [.data, .sentinel, .sentinel, .data, .data, .pinned], laidTests := true, laidLooks := .later }
def FieldBasicBackUptoCardSaid : Prop := Claim7.holds Tryd.pinned (.plain (OpenSpec.upto fieldBasicBackSpec)) fieldBasicBackUptoCard

/-- THE SECOND FORM's CARD OF 'usherlaw6.FieldCookies'. -/
def fieldCookiesUptoCard : Claim7 := { stood := { row := fieldCookiesUptoRow, standIns := [], harness := (true, "1ab9e27afab6a7bbeea974800cbec7e422854a728df12b69de2a751c9cb79047"), looks := true }, kinds := [], alts := [], laidByText := true, laidKinds := [.data, .sentinel, .sentinel, .sentinel, .sentinel, .sentinel, .sentinel, .sentinel, .sentinel, .sentinel, .sentinel, .sentinel, .sentinel, .sentinel, .pinned], laidTests := true, laidLooks := .later }
def FieldCookiesUptoCardSaid : Prop := Claim7.holds Tryd.pinned (.plain (OpenSpec.upto fieldCookiesSpec)) fieldCookiesUptoCard
end Rows
end Go.Proofs.YtdkbjefphihplabDoor
