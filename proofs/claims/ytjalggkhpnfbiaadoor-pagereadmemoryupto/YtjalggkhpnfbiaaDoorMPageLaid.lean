import Derived.Test.YtjalggkhpnfbiaaDoorMUnescW2
import Derived.Test.YtjalggkhpnfbiaaDoorMErrWalks
import Derived.Test.YtjalggkhpnfbiaaDoorMPageEsc
import Derived.LaidLaws
import Derived.Stop.LaidErr
import Derived.Lib.LaidU8
namespace Go.Proofs.YtjalggkhpnfbiaaDoor.pg
open Go.ChangeShapes Go.WideShapes Go.ChangeAt Go.RowKit Go.Proofs.YtjalggkhpnfbiaaDoor.common
/-- ErrArg and ErrText off a row's list -/
theorem two_of_laid {W : World} {rest : List (String × DataW Unit)} (h : laidMet Tryd.prog (("usher/api.ErrArg", Rows.laid_usher_api_ErrArg) :: ("usher/api.ErrText", Rows.laid_usher_api_ErrText) :: rest) W) :
    ∃ (eA : Value) (ea : Addr), W.cell? ⟨0, 0, none⟩ = some eA ∧ Txt W ea := by
  obtain ⟨ps, h0, _, hrows⟩ := h
  obtain ⟨a0, q0, c0, h1, rfl⟩ := errw.peel h0 (fun b off hm => hrows b off (by simp [hm])) errw.g0 errw.t0 Tryd.underlying33 errw.rowErr Tryd.underlying141 Tryd.underlying156 rfl rfl Tryd.underlying9 errw.cellsErr errw.cellsStr
  obtain ⟨a1, q1, c1, h2, rfl⟩ := errw.peel h1 (fun b off hm => hrows b off (by simp [hm])) errw.g1 errw.t1 Tryd.underlying33 errw.rowErr Tryd.underlying141 Tryd.underlying156 rfl rfl Tryd.underlying9 errw.cellsErr errw.cellsStr
  exact ⟨_, a1, c0, c1⟩
end Go.Proofs.YtjalggkhpnfbiaaDoor.pg

namespace Go.Proofs.YtjalggkhpnfbiaaDoor.pg
open Go.ChangeShapes Go.WideShapes Go.ChangeAt Go.RowKit Go.Proofs.YtjalggkhpnfbiaaDoor.common
open Go.Shelf Go.Lib

theorem escG : Tryd.prog.globalNamed "usher/page.escapes" = some 4 := by kernel_rfl
theorem escT : (Tryd.prog.globals[4]?).map (·.type) = some 125 := by kernel_rfl
theorem escC : Tryd.prog.cellsOf 124 = 2 := by kernel_rfl
theorem cells8 : Tryd.prog.cellsOf 5 = 1 := by kernel_rfl
theorem cellsS : Tryd.prog.cellsOf 9 = 1 := by kernel_rfl
theorem esc_is : (Rows.laid_usher_page_escapes : DataW Unit) = .agg ((List.range 5).map fun i => .agg [.lit (.int .u8 ((tC i).toNat : Int)), .lit (.string (tS i))]) := by kernel_rfl
theorem esc_of_laid {w : World} {l : List (String × DataW Unit)} (h : laidMet Tryd.prog l w) (h1 : ("usher/page.escapes", Rows.laid_usher_page_escapes) ∈ l) : Esc w := by
  have a := laidMet.reads h h1
  rw [esc_is] at a
  intro i hi
  obtain ⟨g, t, cs, fuel, p, hg, hty, hvar, hd⟩ := a
  obtain rfl := Option.some.inj (escG.symm.trans hg)
  obtain rfl := Option.some.inj (escT.symm.trans hty)
  obtain ⟨fuel', d, q, hdi, he⟩ := array_elem Tryd.underlying125 hd i hi
  simp only [List.getElem?_map, List.getElem?_range hi, Option.map_some, Option.some.injEq] at hdi
  subst hdi
  rw [escC] at he
  obtain ⟨xs, n, rfl, hx, hl, hxl, hall⟩ := DataW.trod_struct Tryd.underlying124 he
  have hxs : xs.map (·.1) = [(DataW.lit (.int .u8 ((tC i).toNat : Int)) : DataW Unit), .lit (.string (tS i))] := by
    have := congrArg Prod.fst hx
    simpa using this.symm
  match xs, hxs with
  | [(x0, p0), (x1, p1)], hxs =>
    simp only [List.map_cons, List.map_nil, List.cons.injEq, and_true] at hxs
    generalize hfs : (#[_, _] : Array Field) = fs at hall
    obtain ⟨f0, k0, t0, o0⟩ : ∃ f, fs[0]? = some f ∧ f.type = 5 ∧ f.offset = 0 := by rw [← hfs]; exact ⟨_, rfl, rfl, rfl⟩
    obtain ⟨f1, k1, t1, o1⟩ : ∃ f, fs[1]? = some f ∧ f.type = 9 ∧ f.offset = 1 := by rw [← hfs]; exact ⟨_, rfl, rfl, rfl⟩
    have a0 := hall 0 f0 k0
    have a1 := hall 1 f1 k1
    rw [t0, o0] at a0
    rw [t1, o1] at a1
    simp only [List.getElem?_cons_zero, List.getElem?_cons_succ] at a0 a1
    rw [cells8] at a0
    rw [cellsS] at a1
    obtain ⟨z0, e0, f0⟩ := DataW.trod_int Tryd.underlying5 a0
    obtain ⟨z1, e1, f1⟩ := DataW.trod_string Tryd.underlying9 a1
    have f0 : x0 = _ := congrArg Prod.fst f0.1
    have f1 : x1 = _ := congrArg Prod.fst f1.1
    rw [hxs.1] at f0
    rw [hxs.2] at f1
    simp only [DataW.lit.injEq, Lit.int.injEq, Lit.string.injEq, true_and] at f0 f1
    subst f0
    have e0 := congrArg (·[0]?) e0
    have e1 := congrArg (·[0]?) e1
    simp only [List.getElem?_take, List.getElem?_drop] at e0 e1
    constructor
    · rw [World.var?_cell hg hvar (i * 2), ← Array.getElem?_toList]
      simpa using e0
    · rw [World.var?_cell hg hvar (i * 2 + 1), ← Array.getElem?_toList]
      have : S (tS i) = .string z1 := congrArg Value.string (str_eq _ _ f1)
      rw [this]
      simpa using e1
end Go.Proofs.YtjalggkhpnfbiaaDoor.pg
