import Derived.Test.YtlbhiefamnpphaaDoorRows
import Derived.Test.YtlbhiefamnpphaaDoorJcNl
import Derived.Lib.LaidTab
namespace Go.Proofs.YtlbhiefamnpphaaDoor.jc
open Go.ChangeShapes Go.WideShapes Go.ChangeAt Go.RowKit Go.Proofs.YtlbhiefamnpphaaDoor.common Go.Proofs.YtlbhiefamnpphaaDoor.Jc
theorem intC : Tryd.prog.cellsOf 3 = 1 := by kernel_rfl
theorem tab12C : Tryd.prog.cellsOf 61 = 12 := by kernel_rfl
def tabI : List Int := [31, 28, 31, 30, 31, 30, 31, 31, 30, 31, 30, 31]
theorem tabI_at (i : Nat) (h : i < 12) : ∃ _hl : i < tabI.length, tabI.getD i 0 = ((tab.getD i 0 : Nat) : Int) := by
  refine ⟨h, ?_⟩
  match i, h with
  | 0, _ | 1, _ | 2, _ | 3, _ | 4, _ | 5, _ | 6, _ | 7, _ | 8, _ | 9, _ | 10, _ | 11, _ => rfl
theorem mdG : Tryd.prog.globalNamed "usher/journal.monthDays" = some 5 := by kernel_rfl
theorem mdTy : (Tryd.prog.globals[5]?).map (·.type) = some 61 := by kernel_rfl
theorem mtab_of {W : World} {rest : List (String × DataW Unit)} (h : laidMet Tryd.prog (("usher/journal.monthDays", Rows.laid_usher_journal_monthDays) :: rest) W) : MTab W := by
  have t1 : Lib.TabIs Tryd.prog W "usher/journal.monthDays" .i64 tabI := Lib.tabIs_of_head (rest := _) mdG mdTy Tryd.underlying61 Tryd.underlying3 intC tab12C h
  intro i hi
  obtain ⟨hl, e⟩ := tabI_at i hi
  rw [t1.cell mdG i hl, e]
end Go.Proofs.YtlbhiefamnpphaaDoor.jc
