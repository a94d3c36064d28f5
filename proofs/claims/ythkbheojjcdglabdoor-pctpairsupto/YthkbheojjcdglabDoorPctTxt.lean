import Derived.Test.YthkbheojjcdglabDoorUnescWalks
import Derived.Test.YthkbheojjcdglabDoorErrWalks
namespace Go.Proofs.YthkbheojjcdglabDoor.pctw
open Go.ChangeShapes Go.WideShapes Go.ChangeAt Go.RowKit Go.Proofs.YthkbheojjcdglabDoor.common

theorem txt_of_laid {W : World} {rest : List (String × DataW Unit)} (h : laidMet Tryd.prog (("usher/api.ErrText", Rows.laid_usher_api_ErrText) :: rest) W) : ∃ a, Txt W a := by
  obtain ⟨ps, h0, hnd, hrows⟩ := h
  obtain ⟨a0, q0, c0, _, _⟩ := errw.peel h0 hrows errw.g1 errw.t1 Tryd.underlying30 errw.rowErr Tryd.underlying90 Tryd.underlying107 rfl rfl Tryd.underlying9 errw.cellsErr errw.cellsStr
  exact ⟨a0, c0⟩

end Go.Proofs.YthkbheojjcdglabDoor.pctw
