import Derived.Test.YtkkkgpcdnjijbabDoorErrWalks
import Derived.Test.YtkkkgpcdnjijbabDoorTmScopes
namespace Go.Proofs.YtkkkgpcdnjijbabDoor.tm
open Go.ChangeShapes Go.WideShapes Go.ChangeAt Go.RowKit Go.Proofs.YtkkkgpcdnjijbabDoor.common

abbrev X (a : Addr) : Value := .iface 157 (.pointer (some a))
/-- two refusals lie in their variables, two pointers -/
structure Errs2 (w : World) (ea em : Addr) : Prop where
  txt : w.cell? ⟨0, 0, none⟩ = some (X ea)
  mny : w.cell? ⟨1, 0, none⟩ = some (X em)
  ne : ea ≠ em
  ra : ∃ c t, w.heap[ea.block]? = some (.cells c t (0, 0))
  rm : ∃ c t, w.heap[em.block]? = some (.cells c t (0, 0))
theorem Errs2.below {w w' : World} {ea em : Addr} (h : Errs2 w ea em) (hb : Below w.heap.size w w') : Errs2 w' ea em := by
  obtain ⟨c1, t1, h1⟩ := h.ra
  obtain ⟨c2, t2, h2⟩ := h.rm
  exact ⟨(hb.cell (World.block_lt_of_cell? _ _ h.txt)).trans h.txt, (hb.cell (World.block_lt_of_cell? _ _ h.mny)).trans h.mny, h.ne, ⟨c1, t1, (hb.block _ (Array.getElem?_eq_some_iff.1 h1).1).trans h1⟩, ⟨c2, t2, (hb.block _ (Array.getElem?_eq_some_iff.1 h2).1).trans h2⟩⟩
theorem Errs2.other' {w : World} {ea em : Addr} (h : Errs2 w ea em) : (binOp .eql 27 (X em) (X ea)).run Tryd.prog w = .ok (.bool false) w := by
  obtain ⟨info, hinfo, hcomp⟩ := Option.map_eq_some_iff.1 errw.compErr
  obtain ⟨jinfo, hj1, hj2⟩ := Option.map_eq_some_iff.1 errw.sizeErr
  obtain ⟨ca, ta, ha⟩ := h.ra
  obtain ⟨cb, tb, hb⟩ := h.rm
  exact run_eql_iface_ptr_other w Tryd.underlying27 Tryd.underlying157 hinfo hcomp hj1 (by rw [hj2]; decide) (fun e => h.ne e.symm) hb ha
theorem same_err (w : World) (a : Addr) : (binOp .eql 27 (X a) (X a)).run Tryd.prog w = .ok (.bool true) w := by
  obtain ⟨info, hinfo, hcomp⟩ := Option.map_eq_some_iff.1 errw.compErr
  obtain ⟨jinfo, hj1, hj2⟩ := Option.map_eq_some_iff.1 errw.sizeErr
  rw [run_eql_iface_ptr_same w a Tryd.underlying27 Tryd.underlying157 hinfo hcomp hj1]
theorem errs2_of_laid {W : World} {rest : List (String × DataW Unit)} (h : laidMet Tryd.prog (("usher/api.ErrText", Rows.laid_usher_api_ErrText) :: ("usher/api.ErrMany", Rows.laid_usher_api_ErrMany) :: rest) W) : ∃ ea em, Errs2 W ea em := by
  obtain ⟨ps, h0, hnd, hrows⟩ := h
  obtain ⟨a0, q0, c0, h1, rfl⟩ := errw.peel h0 (fun b off hm => hrows b off (by simp [hm])) errw.g1 errw.t1 Tryd.underlying27 errw.rowErr Tryd.underlying157 Tryd.underlying159 rfl rfl Tryd.underlying9 errw.cellsErr errw.cellsStr
  obtain ⟨a1, q1, c1, h2, rfl⟩ := errw.peel h1 (fun b off hm => hrows b off (by simp [hm])) errw.g2 errw.t2 Tryd.underlying27 errw.rowErr Tryd.underlying157 Tryd.underlying159 rfl rfl Tryd.underlying9 errw.cellsErr errw.cellsStr
  refine ⟨a0, a1, c0, c1, ?_, (hrows a0.block a0.off (by simp)).1, (hrows a1.block a1.off (by simp)).1⟩
  intro e
  subst e
  simp at hnd

end Go.Proofs.YtkkkgpcdnjijbabDoor.tm
