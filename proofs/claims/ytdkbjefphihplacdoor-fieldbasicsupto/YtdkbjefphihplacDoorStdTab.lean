import Derived.Test.YtdkbjefphihplacDoorRows
import Derived.Test.YtdkbjefphihplacDoorRadixKit
import Derived.Lib.LaidTab
namespace Go.Proofs.YtdkbjefphihplacDoor.radw
open Go.ChangeShapes Go.WideShapes Go.ChangeAt Go.RowKit Go.Proofs.YtdkbjefphihplacDoor.common

theorem cells8 : Tryd.prog.cellsOf 5 = 1 := by kernel_rfl

theorem stdG : Tryd.prog.globalNamed "usher/radix.stdLetters" = some 13 := by kernel_rfl
theorem stdType : (Tryd.prog.globals[13]?).map (·.type) = some 99 := by kernel_rfl
theorem stdCells : Tryd.prog.cellsOf 99 = 64 := by kernel_rfl
theorem stdTab {W : World} {rest : List (String × DataW Unit)} (h : laidMet Tryd.prog (("usher/radix.stdLetters", Rows.laid_usher_radix_stdLetters) :: rest) W) : TabAt 13 Rad.stdT W := by
  have t : Lib.TabIs Tryd.prog W "usher/radix.stdLetters" .u8 [65, 66, 67, 68, 69, 70, 71, 72, 73, 74, 75, 76, 77, 78, 79, 80, 81, 82, 83, 84, 85, 86, 87, 88, 89, 90, 97, 98, 99, 100, 101, 102, 103, 104, 105, 106, 107, 108, 109, 110, 111, 112, 113, 114, 115, 116, 117, 118, 119, 120, 121, 122, 48, 49, 50, 51, 52, 53, 54, 55, 56, 57, 43, 47] :=
    Lib.tabIs_of_head (rest := rest) stdG stdType Tryd.underlying99 Tryd.underlying5 cells8 stdCells h
  intro i hi
  have hi' : i < 64 := hi
  rw [t.cell stdG i (by simpa using hi')]
  have e : ∀ j : Fin 64, ([65, 66, 67, 68, 69, 70, 71, 72, 73, 74, 75, 76, 77, 78, 79, 80, 81, 82, 83, 84, 85, 86, 87, 88, 89, 90, 97, 98, 99, 100, 101, 102, 103, 104, 105, 106, 107, 108, 109, 110, 111, 112, 113, 114, 115, 116, 117, 118, 119, 120, 121, 122, 48, 49, 50, 51, 52, 53, 54, 55, 56, 57, 43, 47] : List Int).getD j.val 0 = ((Rad.stdT.getD j.val 0).toNat : Int) := by decide +kernel
  rw [e ⟨i, hi'⟩]

end Go.Proofs.YtdkbjefphihplacDoor.radw
