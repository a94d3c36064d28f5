import Derived.Test.YtkkgngmhdlmgnaaDoorJsonShort
import Derived.Test.YtkkgngmhdlmgnaaDoorErrWalks
import Derived.Lib.LaidU8T
namespace Go.Proofs.YtkkgngmhdlmgnaaDoor.jw
open Go.ChangeShapes Go.WideShapes Go.ChangeAt Go.RowKit Go.Proofs.YtkkgngmhdlmgnaaDoor.common
open Go.Shelf Go.Lib

theorem u8x : U8Extra Tryd.prog jl.lays196_ren := {
  n3 := by kernel_rfl
  n4 := by kernel_rfl
  y3 := by kernel_rfl
  y4 := by kernel_rfl
  c5 := by kernel_rfl
  c119 := by kernel_rfl
  c138 := by kernel_rfl }
theorem first_is : Rows.laid_unicode_utf8_first = firstData := by kernel_rfl
theorem accept_is : (Rows.laid_unicode_utf8_acceptRanges : DataW Unit) = acceptData := by kernel_rfl
theorem tabs_of_laid {w : World} {l : List (String × DataW Unit)} (h : laidMet Tryd.prog l w) (h1 : ("unicode/utf8.first", Rows.laid_unicode_utf8_first) ∈ l) (h2 : ("unicode/utf8.acceptRanges", Rows.laid_unicode_utf8_acceptRanges) ∈ l) : Tabs w := by
  have a := laidMet.reads h h1
  have b := laidMet.reads h h2
  rw [first_is] at a
  rw [accept_is] at b
  exact utf8Tabs_of_readsT (U8Types.of196 jl.lays196) u8x a b

theorem shortG : Tryd.prog.globalNamed "usher/jsonobj.shortEscapes" = some 17 := by kernel_rfl
theorem shortT : (Tryd.prog.globals[17]?).map (·.type) = some 123 := by kernel_rfl
theorem shortC : Tryd.prog.cellsOf 122 = 2 := by kernel_rfl
theorem cells8 : Tryd.prog.cellsOf 5 = 1 := by kernel_rfl
theorem cells32 : Tryd.prog.cellsOf 21 = 1 := by kernel_rfl
theorem short_is : (Rows.laid_usher_jsonobj_shortEscapes : DataW Unit) = .agg ((List.range 8).map fun i => .agg [.lit (.int .u8 (sLet i : Int)), .lit (.int .i32 (sChr i : Int))]) := by kernel_rfl
theorem short_of_laid {w : World} {l : List (String × DataW Unit)} (h : laidMet Tryd.prog l w) (h1 : ("usher/jsonobj.shortEscapes", Rows.laid_usher_jsonobj_shortEscapes) ∈ l) : Short w := by
  have a := laidMet.reads h h1
  rw [short_is] at a
  intro i hi
  obtain ⟨g, t, cs, fuel, p, hg, hty, hvar, hd⟩ := a
  obtain rfl := Option.some.inj (shortG.symm.trans hg)
  obtain rfl := Option.some.inj (shortT.symm.trans hty)
  obtain ⟨fuel', d, q, hdi, he⟩ := array_elem Tryd.underlying123 hd i hi
  simp only [List.getElem?_map, List.getElem?_range hi, Option.map_some, Option.some.injEq] at hdi
  subst hdi
  rw [shortC] at he
  obtain ⟨xs, n, rfl, hx, hl, hxl, hall⟩ := DataW.trod_struct Tryd.underlying122 he
  have hxs : xs.map (·.1) = [(DataW.lit (.int .u8 (sLet i : Int)) : DataW Unit), .lit (.int .i32 (sChr i : Int))] := by
    have := congrArg Prod.fst hx
    simpa using this.symm
  match xs, hxs with
  | [(x0, p0), (x1, p1)], hxs =>
    simp only [List.map_cons, List.map_nil, List.cons.injEq, and_true] at hxs
    generalize hfs : (#[_, _] : Array Field) = fs at hall
    obtain ⟨f0, k0, t0, o0⟩ : ∃ f, fs[0]? = some f ∧ f.type = 5 ∧ f.offset = 0 := by rw [← hfs]; exact ⟨_, rfl, rfl, rfl⟩
    obtain ⟨f1, k1, t1, o1⟩ : ∃ f, fs[1]? = some f ∧ f.type = 21 ∧ f.offset = 1 := by rw [← hfs]; exact ⟨_, rfl, rfl, rfl⟩
    have a0 := hall 0 f0 k0
    have a1 := hall 1 f1 k1
    rw [t0, o0] at a0
    rw [t1, o1] at a1
    simp only [List.getElem?_cons_zero, List.getElem?_cons_succ] at a0 a1
    rw [cells8] at a0
    rw [cells32] at a1
    obtain ⟨z0, e0, f0⟩ := DataW.trod_int Tryd.underlying5 a0
    obtain ⟨z1, e1, f1⟩ := DataW.trod_int Tryd.underlying21 a1
    have f0 : x0 = _ := congrArg Prod.fst f0.1
    have f1 : x1 = _ := congrArg Prod.fst f1.1
    rw [hxs.1] at f0
    rw [hxs.2] at f1
    simp only [DataW.lit.injEq, Lit.int.injEq, true_and] at f0 f1
    subst f0 f1
    have e0 := congrArg (·[0]?) e0
    have e1 := congrArg (·[0]?) e1
    simp only [List.getElem?_take, List.getElem?_drop] at e0 e1
    constructor
    · rw [World.var?_cell hg hvar (i * 2), ← Array.getElem?_toList]
      simpa using e0
    · rw [World.var?_cell hg hvar (i * 2 + 1), ← Array.getElem?_toList]
      simpa using e1
end Go.Proofs.YtkkgngmhdlmgnaaDoor.jw
