import Derived.Test.YtdldhpncajelmabDoorRows
import Derived.Test.YtdldhpncajelmabDoorRadixKit
import Derived.Lib.LaidTab
namespace Go.Proofs.YtdldhpncajelmabDoor.radw
open Go.ChangeShapes Go.WideShapes Go.ChangeAt Go.RowKit Go.Proofs.YtdldhpncajelmabDoor.common

theorem cells8 : Tryd.prog.cellsOf 5 = 1 := by kernel_rfl

theorem urlG : Tryd.prog.globalNamed "usher/radix.urlLetters" = some 7 := by kernel_rfl
theorem urlType : (Tryd.prog.globals[7]?).map (·.type) = some 45 := by kernel_rfl
theorem urlCells : Tryd.prog.cellsOf 45 = 64 := by kernel_rfl
theorem urlTab {W : World} {rest : List (String × DataW Unit)} (h : laidMet Tryd.prog (("usher/radix.urlLetters", Rows.laid_usher_radix_urlLetters) :: rest) W) : TabAt 7 Rad.urlT W := by
  have t : Lib.TabIs Tryd.prog W "usher/radix.urlLetters" .u8 [65, 66, 67, 68, 69, 70, 71, 72, 73, 74, 75, 76, 77, 78, 79, 80, 81, 82, 83, 84, 85, 86, 87, 88, 89, 90, 97, 98, 99, 100, 101, 102, 103, 104, 105, 106, 107, 108, 109, 110, 111, 112, 113, 114, 115, 116, 117, 118, 119, 120, 121, 122, 48, 49, 50, 51, 52, 53, 54, 55, 56, 57, 45, 95] :=
    Lib.tabIs_of_head (rest := rest) urlG urlType Tryd.underlying45 Tryd.underlying5 cells8 urlCells h
  intro i hi
  have hi' : i < 64 := hi
  rw [t.cell urlG i (by simpa using hi')]
  have e : ∀ j : Fin 64, ([65, 66, 67, 68, 69, 70, 71, 72, 73, 74, 75, 76, 77, 78, 79, 80, 81, 82, 83, 84, 85, 86, 87, 88, 89, 90, 97, 98, 99, 100, 101, 102, 103, 104, 105, 106, 107, 108, 109, 110, 111, 112, 113, 114, 115, 116, 117, 118, 119, 120, 121, 122, 48, 49, 50, 51, 52, 53, 54, 55, 56, 57, 45, 95] : List Int).getD j.val 0 = ((Rad.urlT.getD j.val 0).toNat : Int) := by decide +kernel
  rw [e ⟨i, hi'⟩]

theorem stdG : Tryd.prog.globalNamed "usher/radix.stdLetters" = some 8 := by kernel_rfl
theorem stdType : (Tryd.prog.globals[8]?).map (·.type) = some 45 := by kernel_rfl
theorem stdCells : Tryd.prog.cellsOf 45 = 64 := by kernel_rfl
theorem stdTab {W : World} {rest : List (String × DataW Unit)} (h : laidMet Tryd.prog (("usher/radix.stdLetters", Rows.laid_usher_radix_stdLetters) :: rest) W) : TabAt 8 Rad.stdT W := by
  have t : Lib.TabIs Tryd.prog W "usher/radix.stdLetters" .u8 [65, 66, 67, 68, 69, 70, 71, 72, 73, 74, 75, 76, 77, 78, 79, 80, 81, 82, 83, 84, 85, 86, 87, 88, 89, 90, 97, 98, 99, 100, 101, 102, 103, 104, 105, 106, 107, 108, 109, 110, 111, 112, 113, 114, 115, 116, 117, 118, 119, 120, 121, 122, 48, 49, 50, 51, 52, 53, 54, 55, 56, 57, 43, 47] :=
    Lib.tabIs_of_head (rest := rest) stdG stdType Tryd.underlying45 Tryd.underlying5 cells8 stdCells h
  intro i hi
  have hi' : i < 64 := hi
  rw [t.cell stdG i (by simpa using hi')]
  have e : ∀ j : Fin 64, ([65, 66, 67, 68, 69, 70, 71, 72, 73, 74, 75, 76, 77, 78, 79, 80, 81, 82, 83, 84, 85, 86, 87, 88, 89, 90, 97, 98, 99, 100, 101, 102, 103, 104, 105, 106, 107, 108, 109, 110, 111, 112, 113, 114, 115, 116, 117, 118, 119, 120, 121, 122, 48, 49, 50, 51, 52, 53, 54, 55, 56, 57, 43, 47] : List Int).getD j.val 0 = ((Rad.stdT.getD j.val 0).toNat : Int) := by decide +kernel
  rw [e ⟨i, hi'⟩]

theorem hexG : Tryd.prog.globalNamed "usher/radix.hexDigits" = some 9 := by kernel_rfl
theorem hexType : (Tryd.prog.globals[9]?).map (·.type) = some 46 := by kernel_rfl
theorem hexCells : Tryd.prog.cellsOf 46 = 16 := by kernel_rfl
theorem hexTab {W : World} {rest : List (String × DataW Unit)} (h : laidMet Tryd.prog (("usher/radix.hexDigits", Rows.laid_usher_radix_hexDigits) :: rest) W) : TabAt 9 Rad.hexT W := by
  have t : Lib.TabIs Tryd.prog W "usher/radix.hexDigits" .u8 [48, 49, 50, 51, 52, 53, 54, 55, 56, 57, 97, 98, 99, 100, 101, 102] :=
    Lib.tabIs_of_head (rest := rest) hexG hexType Tryd.underlying46 Tryd.underlying5 cells8 hexCells h
  intro i hi
  have hi' : i < 16 := hi
  rw [t.cell hexG i (by simpa using hi')]
  have e : ∀ j : Fin 16, ([48, 49, 50, 51, 52, 53, 54, 55, 56, 57, 97, 98, 99, 100, 101, 102] : List Int).getD j.val 0 = ((Rad.hexT.getD j.val 0).toNat : Int) := by decide +kernel
  rw [e ⟨i, hi'⟩]

end Go.Proofs.YtdldhpncajelmabDoor.radw
