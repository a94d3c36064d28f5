import Derived.Test.YthhkhpgffamdhaaDoorErrWalks
namespace Go.Proofs.YthhkhpgffamdhaaDoor.fd
open Go.ChangeShapes Go.WideShapes Go.ChangeAt Go.RowKit Go.Proofs.YthhkhpgffamdhaaDoor.common

theorem txt_of_laid {W : World} {rest : List (String × DataW Unit)} (h : laidMet Tryd.prog (("usher/api.ErrText", Rows.laid_usher_api_ErrText) :: rest) W) : ∃ a, W.cell? ⟨0, 0, none⟩ = some (.iface 172 (.pointer (some a))) := by
  obtain ⟨ps, h0, hnd, hrows⟩ := h
  obtain ⟨a0, q0, c0, _, _⟩ := errw.peel h0 hrows errw.g1 errw.t1 Tryd.underlying28 errw.rowErr Tryd.underlying172 Tryd.underlying174 rfl rfl Tryd.underlying9 errw.cellsErr errw.cellsStr
  exact ⟨a0, c0⟩
theorem scheme_of_laid {W : World} {rest : List (String × DataW Unit)} (h : laidMet Tryd.prog (("usher/api.ErrScheme", Rows.laid_usher_api_ErrScheme) :: rest) W) : ∃ a, W.cell? ⟨4, 0, none⟩ = some (.iface 172 (.pointer (some a))) := by
  obtain ⟨ps, h0, hnd, hrows⟩ := h
  obtain ⟨a0, q0, c0, _, _⟩ := errw.peel h0 hrows errw.g4 errw.t4 Tryd.underlying28 errw.rowErr Tryd.underlying172 Tryd.underlying174 rfl rfl Tryd.underlying9 errw.cellsErr errw.cellsStr
  exact ⟨a0, c0⟩
theorem many_of_laid {W : World} {rest : List (String × DataW Unit)} (h : laidMet Tryd.prog (("usher/api.ErrMany", Rows.laid_usher_api_ErrMany) :: rest) W) : ∃ a, W.cell? ⟨1, 0, none⟩ = some (.iface 172 (.pointer (some a))) := by
  obtain ⟨ps, h0, hnd, hrows⟩ := h
  obtain ⟨a0, q0, c0, _, _⟩ := errw.peel h0 hrows errw.g2 errw.t2 Tryd.underlying28 errw.rowErr Tryd.underlying172 Tryd.underlying174 rfl rfl Tryd.underlying9 errw.cellsErr errw.cellsStr
  exact ⟨a0, c0⟩

end Go.Proofs.YthhkhpgffamdhaaDoor.fd
