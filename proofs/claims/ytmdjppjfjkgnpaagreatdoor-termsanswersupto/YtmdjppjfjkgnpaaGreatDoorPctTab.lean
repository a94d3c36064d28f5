import Derived.Test.YtmdjppjfjkgnpaaGreatDoorEscWalks
import Derived.Lib.LaidTab
namespace Go.Proofs.YtmdjppjfjkgnpaaGreatDoor.pctw
open Go.ChangeShapes Go.WideShapes Go.ChangeAt Go.RowKit Go.Proofs.YtmdjppjfjkgnpaaGreatDoor.common

theorem cells64 : Tryz.prog.cellsOf 62 = 1 := by kernel_rfl
theorem tabG : Tryz.prog.globalNamed "usher/pct.unreserved" = some 14 := by kernel_rfl
theorem tabType : (Tryz.prog.globals[14]?).map (·.type) = some 63 := by kernel_rfl
theorem tabCells : Tryz.prog.cellsOf 63 = 4 := by kernel_rfl
theorem tab_of_laid {W : World} {rest : List (String × DataW Unit)} (h : laidMet Tryz.prog (("usher/pct.unreserved", Rows.laid_usher_pct_unreserved) :: rest) W) : Tab W := by
  have t : Lib.TabIs Tryz.prog W "usher/pct.unreserved" .u64 [288054454291267584, 5188146764422578174, 0, 0] :=
    Lib.tabIs_of_head (rest := rest) tabG tabType Tryz.underlying63 Tryz.underlying62 cells64 tabCells h
  intro i hi
  rw [t.cell tabG i (by simpa using hi)]
  match i, hi with
  | 0, _ => rfl
  | 1, _ => rfl
  | 2, _ => rfl
  | 3, _ => rfl

end Go.Proofs.YtmdjppjfjkgnpaaGreatDoor.pctw
