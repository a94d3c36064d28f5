import Derived.Test.YtmdjppjfjkgnpaaDoorErrWalks
import Derived.Test.YtmdjppjfjkgnpaaDoorAnsW
import Derived.LaidLaws
import Derived.Stop.LaidErr
import Derived.Lib.LaidU8
import Derived.Lib.LaidTab
namespace Go.Proofs.YtmdjppjfjkgnpaaDoor.pctw
open Go.ChangeShapes Go.WideShapes Go.ChangeAt Go.RowKit Go.Proofs.YtmdjppjfjkgnpaaDoor.common

theorem txt_of_laid {W : World} {rest : List (String × DataW Unit)} (h : laidMet Tryd.prog (("usher/api.ErrText", Rows.laid_usher_api_ErrText) :: rest) W) : ∃ a, Txt W a := by
  obtain ⟨ps, h0, hnd, hrows⟩ := h
  obtain ⟨a0, q0, c0, _, _⟩ := errw.peel h0 hrows errw.g1 errw.t1 Tryd.underlying29 errw.rowErr Tryd.underlying108 Tryd.underlying110 rfl rfl Tryd.underlying9 errw.cellsErr errw.cellsStr
  exact ⟨a0, c0⟩

end Go.Proofs.YtmdjppjfjkgnpaaDoor.pctw
namespace Go.Proofs.YtmdjppjfjkgnpaaDoor.pctw
open Go.ChangeShapes Go.WideShapes Go.ChangeAt Go.RowKit Go.Proofs.YtmdjppjfjkgnpaaDoor.common

theorem mny_of_laid {W : World} {rest : List (String × DataW Unit)} (h : laidMet Tryd.prog (("usher/api.ErrMany", Rows.laid_usher_api_ErrMany) :: rest) W) : ∃ a, Mny W a := by
  obtain ⟨ps, h0, hnd, hrows⟩ := h
  obtain ⟨a0, q0, c0, _, _⟩ := errw.peel h0 hrows errw.g2 errw.t2 Tryd.underlying29 errw.rowErr Tryd.underlying108 Tryd.underlying110 rfl rfl Tryd.underlying9 errw.cellsErr errw.cellsStr
  exact ⟨a0, c0⟩

end Go.Proofs.YtmdjppjfjkgnpaaDoor.pctw
namespace Go.Proofs.YtmdjppjfjkgnpaaDoor.pctw
open Go.ChangeShapes Go.WideShapes Go.ChangeAt Go.RowKit Go.Proofs.YtmdjppjfjkgnpaaDoor.common

/-- two refusals lie in their variables, two pointers -/
structure Errs2 (w : World) (ea em : Addr) : Prop where
  txt : Txt w ea
  mny : Mny w em
  ne : ea ≠ em
  ra : ∃ c t, w.heap[ea.block]? = some (.cells c t (0, 0))
  rm : ∃ c t, w.heap[em.block]? = some (.cells c t (0, 0))
theorem Errs2.below {w w' : World} {ea em : Addr} (h : Errs2 w ea em) (hb : Below w.heap.size w w') : Errs2 w' ea em := by
  obtain ⟨c1, t1, h1⟩ := h.ra
  obtain ⟨c2, t2, h2⟩ := h.rm
  exact ⟨h.txt.below hb, h.mny.below hb, h.ne, ⟨c1, t1, (hb.block _ (Array.getElem?_eq_some_iff.1 h1).1).trans h1⟩, ⟨c2, t2, (hb.block _ (Array.getElem?_eq_some_iff.1 h2).1).trans h2⟩⟩
theorem Errs2.other {w : World} {ea em : Addr} (h : Errs2 w ea em) : (binOp .eql 29 (X ea) (X em)).run Tryd.prog w = .ok (.bool false) w := by
  obtain ⟨info, hinfo, hcomp⟩ := Option.map_eq_some_iff.1 errw.compErr
  obtain ⟨jinfo, hj1, hj2⟩ := Option.map_eq_some_iff.1 errw.sizeErr
  obtain ⟨ca, ta, ha⟩ := h.ra
  obtain ⟨cb, tb, hb⟩ := h.rm
  exact run_eql_iface_ptr_other w Tryd.underlying29 Tryd.underlying108 hinfo hcomp hj1 (by rw [hj2]; decide) h.ne ha hb
theorem Errs2.other' {w : World} {ea em : Addr} (h : Errs2 w ea em) : (binOp .eql 29 (X em) (X ea)).run Tryd.prog w = .ok (.bool false) w := by
  obtain ⟨info, hinfo, hcomp⟩ := Option.map_eq_some_iff.1 errw.compErr
  obtain ⟨jinfo, hj1, hj2⟩ := Option.map_eq_some_iff.1 errw.sizeErr
  obtain ⟨ca, ta, ha⟩ := h.ra
  obtain ⟨cb, tb, hb⟩ := h.rm
  exact run_eql_iface_ptr_other w Tryd.underlying29 Tryd.underlying108 hinfo hcomp hj1 (by rw [hj2]; decide) (fun e => h.ne e.symm) hb ha

theorem errs2_of_laid {W : World} {rest : List (String × DataW Unit)} (h : laidMet Tryd.prog (("usher/api.ErrText", Rows.laid_usher_api_ErrText) :: ("usher/api.ErrMany", Rows.laid_usher_api_ErrMany) :: rest) W) : ∃ ea em, Errs2 W ea em := by
  obtain ⟨ps, h0, hnd, hrows⟩ := h
  obtain ⟨a0, q0, c0, h1, rfl⟩ := errw.peel h0 (fun b off hm => hrows b off (by simp [hm])) errw.g1 errw.t1 Tryd.underlying29 errw.rowErr Tryd.underlying108 Tryd.underlying110 rfl rfl Tryd.underlying9 errw.cellsErr errw.cellsStr
  obtain ⟨a1, q1, c1, h2, rfl⟩ := errw.peel h1 (fun b off hm => hrows b off (by simp [hm])) errw.g2 errw.t2 Tryd.underlying29 errw.rowErr Tryd.underlying108 Tryd.underlying110 rfl rfl Tryd.underlying9 errw.cellsErr errw.cellsStr
  refine ⟨a0, a1, c0, c1, ?_, (hrows a0.block a0.off (by simp)).1, (hrows a1.block a1.off (by simp)).1⟩
  intro e
  subst e
  simp at hnd

end Go.Proofs.YtmdjppjfjkgnpaaDoor.pctw
namespace Go.Proofs.YtmdjppjfjkgnpaaDoor.pctw
open Go.ChangeShapes Go.WideShapes Go.ChangeAt Go.RowKit Go.Proofs.YtmdjppjfjkgnpaaDoor.common

theorem cells64 : Tryd.prog.cellsOf 71 = 1 := by kernel_rfl
theorem tabG : Tryd.prog.globalNamed "usher/pct.unreserved" = some 3 := by kernel_rfl
theorem tabType : (Tryd.prog.globals[3]?).map (·.type) = some 72 := by kernel_rfl
theorem tabCells : Tryd.prog.cellsOf 72 = 4 := by kernel_rfl
theorem tab_of_laid {W : World} {rest : List (String × DataW Unit)} (h : laidMet Tryd.prog (("usher/pct.unreserved", Rows.laid_usher_pct_unreserved) :: rest) W) : Tab W := by
  have t : Lib.TabIs Tryd.prog W "usher/pct.unreserved" .u64 [288054454291267584, 5188146764422578174, 0, 0] :=
    Lib.tabIs_of_head (rest := rest) tabG tabType Tryd.underlying72 Tryd.underlying71 cells64 tabCells h
  intro i hi
  rw [t.cell tabG i (by simpa using hi)]
  match i, hi with
  | 0, _ => rfl
  | 1, _ => rfl
  | 2, _ => rfl
  | 3, _ => rfl

end Go.Proofs.YtmdjppjfjkgnpaaDoor.pctw
namespace Go.Proofs.YtmdjppjfjkgnpaaDoor.tm
open Go.ChangeShapes Go.WideShapes Go.ChangeAt Go.RowKit Go.Proofs.YtmdjppjfjkgnpaaDoor.common Go.Proofs.YtmdjppjfjkgnpaaDoor.bk
open Go.Shelf Go.Lib

theorem rngG : Tryd.prog.globalNamed "strconv.ErrRange" = some 8 := by kernel_rfl
theorem rngT : (Tryd.prog.globals[8]?).map (·.type) = some 29 := by kernel_rfl
theorem synG : Tryd.prog.globalNamed "strconv.ErrSyntax" = some 7 := by kernel_rfl
theorem synT : (Tryd.prog.globals[7]?).map (·.type) = some 29 := by kernel_rfl
theorem nums_of_laid {W : World} {rest : List (String × DataW Unit)} (h : laidMet Tryd.prog (("strconv.ErrRange", Rows.laid_strconv_ErrRange) :: ("strconv.ErrSyntax", Rows.laid_strconv_ErrSyntax) :: rest) W) : Nums W := by
  obtain ⟨ps, h0, _, hrows⟩ := h
  obtain ⟨a0, q0, c0, h1, rfl⟩ := errw.peel h0 (fun b off hm => hrows b off (by simp [hm])) rngG rngT Tryd.underlying29 errw.rowErr Tryd.underlying108 Tryd.underlying110 rfl rfl Tryd.underlying9 errw.cellsErr errw.cellsStr
  obtain ⟨a1, q1, c1, h2, rfl⟩ := errw.peel h1 (fun b off hm => hrows b off (by simp [hm])) synG synT Tryd.underlying29 errw.rowErr Tryd.underlying108 Tryd.underlying110 rfl rfl Tryd.underlying9 errw.cellsErr errw.cellsStr
  exact ⟨⟨_, _, c1⟩, ⟨_, _, c0⟩⟩
theorem locG : Tryd.prog.globalNamed "usher/terms.localHosts" = some 2 := by kernel_rfl
theorem locTy : (Tryd.prog.globals[2]?).map (·.type) = some 66 := by kernel_rfl
theorem loc_is : (Rows.laid_usher_terms_localHosts : DataW Unit) = .agg ((List.range 3).map fun i => .lit (.string (tH i))) := by kernel_rfl
theorem loc_of_laid {w : World} {l : List (String × DataW Unit)} (h : laidMet Tryd.prog l w) (h1 : ("usher/terms.localHosts", Rows.laid_usher_terms_localHosts) ∈ l) : Loc w := by
  have a := laidMet.reads h h1
  rw [loc_is] at a
  have key : ∀ i, i < 3 → w.cell? ⟨2, i, none⟩ = some (S (tH i)) := by
    intro i hi
    obtain ⟨g, t, cs, fuel, p, hg, hty, hvar, hd⟩ := a
    obtain rfl := Option.some.inj (locG.symm.trans hg)
    obtain rfl := Option.some.inj (locTy.symm.trans hty)
    obtain ⟨fuel', d, q, hdi, he⟩ := array_elem Tryd.underlying66 hd i hi
    simp only [List.getElem?_map, List.getElem?_range hi, Option.map_some, Option.some.injEq] at hdi
    subst hdi
    rw [errw.cellsStr] at he
    obtain ⟨z, e0, f0⟩ := DataW.trod_string Tryd.underlying9 he
    have f1 : (DataW.lit (.string (tH i)) : DataW Unit) = _ := congrArg Prod.fst f0.1
    simp only [DataW.lit.injEq, Lit.string.injEq] at f1
    have e0 := congrArg (·[0]?) e0
    simp only [List.getElem?_take, List.getElem?_drop] at e0
    rw [World.var?_cell hg hvar i, ← Array.getElem?_toList]
    have : S (tH i) = .string z := congrArg Value.string (ba_ext f1)
    rw [this]
    simpa using e0
  intro j v hv
  have hj : j < 3 := by
    have := (List.getElem?_eq_some_iff.1 hv).1
    exact this
  match j, hj with
  | 0, _ => rw [← hv]; exact key 0 (by decide)
  | 1, _ => rw [← hv]; exact key 1 (by decide)
  | 2, _ => rw [← hv]; exact key 2 (by decide)

end Go.Proofs.YtmdjppjfjkgnpaaDoor.tm
