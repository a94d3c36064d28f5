import Derived.Test.YthkbheojjcdglaaDoorUnescWalks
import Derived.Test.YthkbheojjcdglaaDoorErrWalks
namespace Go.Proofs.YthkbheojjcdglaaDoor.pctw
open Go.ChangeShapes Go.WideShapes Go.ChangeAt Go.RowKit Go.Proofs.YthkbheojjcdglaaDoor.common

theorem txt_of_laid {W : World} {rest : List (String × DataW Unit)} (h : laidMet Tryd.prog (("usher/api.ErrText", Rows.laid_usher_api_ErrText) :: rest) W) : ∃ a, Txt W a := by
  obtain ⟨ps, h0, hnd, hrows⟩ := h
  obtain ⟨a0, q0, c0, _, _⟩ := errw.peel h0 hrows errw.g1 errw.t1 Tryd.underlying25 errw.rowErr Tryd.underlying46 Tryd.underlying64 rfl rfl Tryd.underlying9 errw.cellsErr errw.cellsStr
  exact ⟨a0, c0⟩

end Go.Proofs.YthkbheojjcdglaaDoor.pctw
