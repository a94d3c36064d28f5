import Derived.Test.YthkbheojjcdglabDoorPctMny
namespace Go.Proofs.YthkbheojjcdglabDoor.pctw
open Go.ChangeShapes Go.WideShapes Go.ChangeAt Go.RowKit Go.Proofs.YthkbheojjcdglabDoor.common

/-- two refusals lie in their variables, two pointers -/
structure Errs2 (w : World) (ea em : Addr) : Prop where
  txt : Txt w ea
  mny : Mny w em
  ne : ea ≠ em
  ra : ∃ c t, w.heap[ea.block]? = some (.cells c t (0, 0))
  rm : ∃ c t, w.heap[em.block]? = some (.cells c t (0, 0))
theorem Errs2.below {w w' : World} {ea em : Addr} (h : Errs2 w ea em) (hb : Below w.heap.size w w') : Errs2 w' ea em := by
  obtain ⟨c1, t1, h1⟩ := h.ra
  obtain ⟨c2, t2, h2⟩ := h.rm
  exact ⟨h.txt.below hb, h.mny.below hb, h.ne, ⟨c1, t1, (hb.block _ (Array.getElem?_eq_some_iff.1 h1).1).trans h1⟩, ⟨c2, t2, (hb.block _ (Array.getElem?_eq_some_iff.1 h2).1).trans h2⟩⟩
theorem Errs2.other {w : World} {ea em : Addr} (h : Errs2 w ea em) : (binOp .eql 30 (X ea) (X em)).run Tryd.prog w = .ok (.bool false) w := by
  obtain ⟨info, hinfo, hcomp⟩ := Option.map_eq_some_iff.1 errw.compErr
  obtain ⟨jinfo, hj1, hj2⟩ := Option.map_eq_some_iff.1 errw.sizeErr
  obtain ⟨ca, ta, ha⟩ := h.ra
  obtain ⟨cb, tb, hb⟩ := h.rm
  exact run_eql_iface_ptr_other w Tryd.underlying30 Tryd.underlying90 hinfo hcomp hj1 (by rw [hj2]; decide) h.ne ha hb
theorem Errs2.other' {w : World} {ea em : Addr} (h : Errs2 w ea em) : (binOp .eql 30 (X em) (X ea)).run Tryd.prog w = .ok (.bool false) w := by
  obtain ⟨info, hinfo, hcomp⟩ := Option.map_eq_some_iff.1 errw.compErr
  obtain ⟨jinfo, hj1, hj2⟩ := Option.map_eq_some_iff.1 errw.sizeErr
  obtain ⟨ca, ta, ha⟩ := h.ra
  obtain ⟨cb, tb, hb⟩ := h.rm
  exact run_eql_iface_ptr_other w Tryd.underlying30 Tryd.underlying90 hinfo hcomp hj1 (by rw [hj2]; decide) (fun e => h.ne e.symm) hb ha

theorem errs2_of_laid {W : World} {rest : List (String × DataW Unit)} (h : laidMet Tryd.prog (("usher/api.ErrText", Rows.laid_usher_api_ErrText) :: ("usher/api.ErrMany", Rows.laid_usher_api_ErrMany) :: rest) W) : ∃ ea em, Errs2 W ea em := by
  obtain ⟨ps, h0, hnd, hrows⟩ := h
  obtain ⟨a0, q0, c0, h1, rfl⟩ := errw.peel h0 (fun b off hm => hrows b off (by simp [hm])) errw.g1 errw.t1 Tryd.underlying30 errw.rowErr Tryd.underlying90 Tryd.underlying107 rfl rfl Tryd.underlying9 errw.cellsErr errw.cellsStr
  obtain ⟨a1, q1, c1, h2, rfl⟩ := errw.peel h1 (fun b off hm => hrows b off (by simp [hm])) errw.g2 errw.t2 Tryd.underlying30 errw.rowErr Tryd.underlying90 Tryd.underlying107 rfl rfl Tryd.underlying9 errw.cellsErr errw.cellsStr
  refine ⟨a0, a1, c0, c1, ?_, (hrows a0.block a0.off (by simp)).1, (hrows a1.block a1.off (by simp)).1⟩
  intro e
  subst e
  simp at hnd

end Go.Proofs.YthkbheojjcdglabDoor.pctw
