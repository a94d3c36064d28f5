import Derived.Test.YtkmhhodapnlkiaaDoorRows
import Derived.Test.YtkmhhodapnlkiaaDoorRadixKit
import Derived.Lib.LaidTab
namespace Go.Proofs.YtkmhhodapnlkiaaDoor.radw
open Go.ChangeShapes Go.WideShapes Go.ChangeAt Go.RowKit Go.Proofs.YtkmhhodapnlkiaaDoor.common

theorem cells8 : Tryd.prog.cellsOf 5 = 1 := by kernel_rfl

theorem stdCells : Tryd.prog.cellsOf 36 = 64 := by kernel_rfl
end Go.Proofs.YtkmhhodapnlkiaaDoor.radw

namespace Go.Proofs.YtkmhhodapnlkiaaDoor.radw
open Go.ChangeShapes Go.WideShapes Go.ChangeAt Go.RowKit Go.Proofs.YtkmhhodapnlkiaaDoor.common

theorem urlG : Tryd.prog.globalNamed "usher/radix.urlLetters" = some 0 := by kernel_rfl
theorem urlType : (Tryd.prog.globals[0]?).map (·.type) = some 36 := by kernel_rfl
theorem urlCells : Tryd.prog.cellsOf 36 = 64 := by kernel_rfl
theorem urlTab {W : World} {rest : List (String × DataW Unit)} (h : laidMet Tryd.prog (("usher/radix.urlLetters", Rows.laid_usher_radix_urlLetters) :: rest) W) : TabAt 0 Rad.urlT W := by
  have t : Lib.TabIs Tryd.prog W "usher/radix.urlLetters" .u8 [65, 66, 67, 68, 69, 70, 71, 72, 73, 74, 75, 76, 77, 78, 79, 80, 81, 82, 83, 84, 85, 86, 87, 88, 89, 90, 97, 98, 99, 100, 101, 102, 103, 104, 105, 106, 107, 108, 109, 110, 111, 112, 113, 114, 115, 116, 117, 118, 119, 120, 121, 122, 48, 49, 50, 51, 52, 53, 54, 55, 56, 57, 45, 95] :=
    Lib.tabIs_of_head (rest := rest) urlG urlType Tryd.underlying36 Tryd.underlying5 cells8 urlCells h
  intro i hi
  have hi' : i < 64 := hi
  rw [t.cell urlG i (by simpa using hi')]
  have e : ∀ j : Fin 64, ([65, 66, 67, 68, 69, 70, 71, 72, 73, 74, 75, 76, 77, 78, 79, 80, 81, 82, 83, 84, 85, 86, 87, 88, 89, 90, 97, 98, 99, 100, 101, 102, 103, 104, 105, 106, 107, 108, 109, 110, 111, 112, 113, 114, 115, 116, 117, 118, 119, 120, 121, 122, 48, 49, 50, 51, 52, 53, 54, 55, 56, 57, 45, 95] : List Int).getD j.val 0 = ((Rad.urlT.getD j.val 0).toNat : Int) := by decide +kernel
  rw [e ⟨i, hi'⟩]

end Go.Proofs.YtkmhhodapnlkiaaDoor.radw
