import Derived.Test.YthkbheojjcdglabDoorEscWalks
import Derived.Lib.LaidTab
namespace Go.Proofs.YthkbheojjcdglabDoor.pctw
open Go.ChangeShapes Go.WideShapes Go.ChangeAt Go.RowKit Go.Proofs.YthkbheojjcdglabDoor.common

theorem cells64 : Tryd.prog.cellsOf 72 = 1 := by kernel_rfl
theorem tabG : Tryd.prog.globalNamed "usher/pct.unreserved" = some 13 := by kernel_rfl
theorem tabType : (Tryd.prog.globals[13]?).map (·.type) = some 73 := by kernel_rfl
theorem tabCells : Tryd.prog.cellsOf 73 = 4 := by kernel_rfl
theorem tab_of_laid {W : World} {rest : List (String × DataW Unit)} (h : laidMet Tryd.prog (("usher/pct.unreserved", Rows.laid_usher_pct_unreserved) :: rest) W) : Tab W := by
  have t : Lib.TabIs Tryd.prog W "usher/pct.unreserved" .u64 [288054454291267584, 5188146764422578174, 0, 0] :=
    Lib.tabIs_of_head (rest := rest) tabG tabType Tryd.underlying73 Tryd.underlying72 cells64 tabCells h
  intro i hi
  rw [t.cell tabG i (by simpa using hi)]
  match i, hi with
  | 0, _ => rfl
  | 1, _ => rfl
  | 2, _ => rfl
  | 3, _ => rfl

end Go.Proofs.YthkbheojjcdglabDoor.pctw
