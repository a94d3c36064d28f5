import Derived.Test.YtdldhpncajelmabDoorBackLaw
namespace Go.Proofs.YtdldhpncajelmabDoor.radw
open Go.ChangeShapes Go.WideShapes Go.ChangeAt Go.RowKit Go.Proofs.YtdldhpncajelmabDoor.common

theorem txt_of_laid {W : World} {rest : List (String × DataW Unit)} (h : laidMet Tryd.prog (("usher/api.ErrText", Rows.laid_usher_api_ErrText) :: rest) W) : ∃ a, Txt W a := by
  obtain ⟨ps, h0, hnd, hrows⟩ := h
  obtain ⟨a0, q0, c0, _, _⟩ := errw.peel h0 hrows errw.g1 errw.t1 Tryd.underlying23 errw.rowErr Tryd.underlying110 Tryd.underlying124 rfl rfl Tryd.underlying9 errw.cellsErr errw.cellsStr
  exact ⟨a0, c0⟩

end Go.Proofs.YtdldhpncajelmabDoor.radw
