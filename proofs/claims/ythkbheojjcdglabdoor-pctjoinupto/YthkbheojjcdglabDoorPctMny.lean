import Derived.Test.YthkbheojjcdglabDoorPairsWalk
import Derived.Test.YthkbheojjcdglabDoorPctTxt
namespace Go.Proofs.YthkbheojjcdglabDoor.pctw
open Go.ChangeShapes Go.WideShapes Go.ChangeAt Go.RowKit Go.Proofs.YthkbheojjcdglabDoor.common

theorem mny_of_laid {W : World} {rest : List (String × DataW Unit)} (h : laidMet Tryd.prog (("usher/api.ErrMany", Rows.laid_usher_api_ErrMany) :: rest) W) : ∃ a, Mny W a := by
  obtain ⟨ps, h0, hnd, hrows⟩ := h
  obtain ⟨a0, q0, c0, _, _⟩ := errw.peel h0 hrows errw.g2 errw.t2 Tryd.underlying30 errw.rowErr Tryd.underlying90 Tryd.underlying107 rfl rfl Tryd.underlying9 errw.cellsErr errw.cellsStr
  exact ⟨a0, c0⟩

end Go.Proofs.YthkbheojjcdglabDoor.pctw
