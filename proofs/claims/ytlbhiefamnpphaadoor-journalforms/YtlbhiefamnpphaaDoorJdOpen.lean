import Derived.Test.YtlbhiefamnpphaaDoorJdC3
import Derived.Test.YtlbhiefamnpphaaDoorJcLaid
import Derived.LaidLaws
import Derived.Stop.LaidErr
import Derived.Lib.LaidTab
import Derived.Lib.LaidU8
namespace Go.Proofs.YtlbhiefamnpphaaDoor.jc
open Go.ChangeShapes Go.WideShapes Go.ChangeAt Go.RowKit Go.Proofs.YtlbhiefamnpphaaDoor.common Go.Proofs.YtlbhiefamnpphaaDoor.Jc
open Go.Shelf Go.Lib
theorem array8 {α : Type} {cs : Array α} (h : cs.size = 8) : ∃ c0 c1 c2 c3 c4 c5 c6 c7, cs = #[c0, c1, c2, c3, c4, c5, c6, c7] := by
  obtain ⟨l⟩ := cs
  match l, h with
  | [c0, c1, c2, c3, c4, c5, c6, c7], _ => exact ⟨c0, c1, c2, c3, c4, c5, c6, c7, rfl⟩
theorem daC : Tryd.prog.cellsOf 26 = 7 := by kernel_rfl
set_option maxRecDepth 100000 in
theorem date_of {H : Type} {enc : TypeId × Value → H} {w : World} {base : Nat} {spare : Nat → Bool} {held : Bool} {fuel : Nat} {c0 c1 c2 c3 c4 c5 c6 : Value} {y : DataW H × List MemPlace}
    (h : DataW.trod enc Tryd.prog w base spare held fuel 26 [c0, c1, c2, c3, c4, c5, c6] = some y) : ∃ a b c d e f g : Int, [c0, c1, c2, c3, c4, c5, c6] = [.int .i64 a, .int .i64 b, .int .i64 c, .int .i64 d, .int .i64 e, .int .i64 f, .int .i64 g] := by
  obtain ⟨xs, n, _, hx, hl, hlen, hfs⟩ := DataW.trod_struct Tryd.underlying26 h
  match xs, hlen with
  | [y0, y1, y2, y3, y4, y5, y6], _ =>
    have h0 : DataW.trod enc Tryd.prog w base spare held n 3 (([c0, c1, c2, c3, c4, c5, c6].drop 0).take (Tryd.prog.cellsOf 3)) = some y0 := hfs 0 _ rfl
    rw [intC] at h0
    have h1 : DataW.trod enc Tryd.prog w base spare held n 3 (([c0, c1, c2, c3, c4, c5, c6].drop 1).take (Tryd.prog.cellsOf 3)) = some y1 := hfs 1 _ rfl
    rw [intC] at h1
    have h2 : DataW.trod enc Tryd.prog w base spare held n 3 (([c0, c1, c2, c3, c4, c5, c6].drop 2).take (Tryd.prog.cellsOf 3)) = some y2 := hfs 2 _ rfl
    rw [intC] at h2
    have h3 : DataW.trod enc Tryd.prog w base spare held n 3 (([c0, c1, c2, c3, c4, c5, c6].drop 3).take (Tryd.prog.cellsOf 3)) = some y3 := hfs 3 _ rfl
    rw [intC] at h3
    have h4 : DataW.trod enc Tryd.prog w base spare held n 3 (([c0, c1, c2, c3, c4, c5, c6].drop 4).take (Tryd.prog.cellsOf 3)) = some y4 := hfs 4 _ rfl
    rw [intC] at h4
    have h5 : DataW.trod enc Tryd.prog w base spare held n 3 (([c0, c1, c2, c3, c4, c5, c6].drop 5).take (Tryd.prog.cellsOf 3)) = some y5 := hfs 5 _ rfl
    rw [intC] at h5
    have h6 : DataW.trod enc Tryd.prog w base spare held n 3 (([c0, c1, c2, c3, c4, c5, c6].drop 6).take (Tryd.prog.cellsOf 3)) = some y6 := hfs 6 _ rfl
    rw [intC] at h6
    obtain ⟨a, ea, _⟩ := DataW.trod_int Tryd.underlying3 h0
    obtain ⟨b, eb, _⟩ := DataW.trod_int Tryd.underlying3 h1
    obtain ⟨c, ec, _⟩ := DataW.trod_int Tryd.underlying3 h2
    obtain ⟨d, ed, _⟩ := DataW.trod_int Tryd.underlying3 h3
    obtain ⟨e, ee, _⟩ := DataW.trod_int Tryd.underlying3 h4
    obtain ⟨f, ef, _⟩ := DataW.trod_int Tryd.underlying3 h5
    obtain ⟨g, eg, _⟩ := DataW.trod_int Tryd.underlying3 h6
    simp at ea eb ec ed ee ef eg
    exact ⟨a, b, c, d, e, f, g, by rw [ea, eb, ec, ed, ee, ef, eg]⟩
theorem strC : Tryd.prog.cellsOf 9 = 1 := by kernel_rfl
theorem tx_ext {l : List UInt8} {z : ByteArray} (h : l = z.data.toList) : tx l = z := by
  apply ByteArray.ext; unfold tx; rw [h]
/-- a table of texts off a row -/
theorem txt_at {w : World} {nm : String} {g : Nat} {ty : TypeId} {N : Nat} {L : List (List UInt8)} (hN : L.length = N) (hG : Tryd.prog.globalNamed nm = some g) (hT : (Tryd.prog.globals[g]?).map (·.type) = some ty) (hU : Tryd.prog.underlying ty = some (.array N 9))
    (a : VarReads Tryd.prog w nm (.agg (L.map fun l => .lit (.string l)))) (i : Nat) (hi : i < N) : w.cell? ⟨g, i, none⟩ = some (.string (tx (L.getD i []))) := by
  obtain ⟨g', t, cs, fuel, p, hg, hty, hvar, hd⟩ := a
  obtain rfl := Option.some.inj (hG.symm.trans hg)
  obtain rfl := Option.some.inj (hT.symm.trans hty)
  obtain ⟨fuel', d, q, hdi, he⟩ := array_elem hU hd i hi
  have hiL : i < L.length := by omega
  have hgd : L.getD i [] = L[i] := by simp [hiL]
  simp only [List.getElem?_map, List.getElem?_eq_getElem hiL, Option.map_some, Option.some.injEq] at hdi
  subst hdi
  rw [strC] at he
  obtain ⟨z, e0, f0⟩ := DataW.trod_string Tryd.underlying9 he
  have f1 : (DataW.lit (.string L[i]) : DataW Unit) = _ := congrArg Prod.fst f0.1
  simp only [DataW.lit.injEq, Lit.string.injEq] at f1
  have e0 := congrArg (·[0]?) e0
  simp only [List.getElem?_take, List.getElem?_drop] at e0
  rw [World.var?_cell hg hvar i, ← Array.getElem?_toList, hgd, tx_ext f1]
  simpa using e0
theorem wkG : Tryd.prog.globalNamed "usher/journal.weekdays" = some 3 := by kernel_rfl
theorem wkTy : (Tryd.prog.globals[3]?).map (·.type) = some 43 := by kernel_rfl
theorem wk_is : (Rows.laid_usher_journal_weekdays : DataW Unit) = .agg (wdN.map fun l => .lit (.string l)) := by kernel_rfl
theorem wtab_of {w : World} {l : List (String × DataW Unit)} (h : laidMet Tryd.prog l w) (h1 : ("usher/journal.weekdays", Rows.laid_usher_journal_weekdays) ∈ l) : WTab w := fun i hi => by
  have a := laidMet.reads h h1
  rw [wk_is] at a
  exact txt_at (N := 7) rfl wkG wkTy Tryd.underlying43 a i hi
theorem mnG : Tryd.prog.globalNamed "usher/journal.months" = some 4 := by kernel_rfl
theorem mnTy : (Tryd.prog.globals[4]?).map (·.type) = some 52 := by kernel_rfl
theorem mn_is : (Rows.laid_usher_journal_months : DataW Unit) = .agg (moN.map fun l => .lit (.string l)) := by kernel_rfl
theorem otab_of {w : World} {l : List (String × DataW Unit)} (h : laidMet Tryd.prog l w) (h1 : ("usher/journal.months", Rows.laid_usher_journal_months) ∈ l) : OTab w := fun i hi => by
  have a := laidMet.reads h h1
  rw [mn_is] at a
  exact txt_at (N := 12) rfl mnG mnTy Tryd.underlying52 a i hi
theorem cells64 : Tryd.prog.cellsOf 87 = 1 := by kernel_rfl
theorem powG : Tryd.prog.globalNamed "internal/strconv.uint64pow10" = some 7 := by kernel_rfl
theorem powT : (Tryd.prog.globals[7]?).map (·.type) = some 103 := by kernel_rfl
theorem powC : Tryd.prog.cellsOf 103 = 20 := by kernel_rfl
theorem pow_is : (Rows.laid_internal_strconv_uint64pow10 : DataW Unit) = .agg (Lib.pow10Tab.map fun z => .lit (.int .u64 z)) := by kernel_rfl
theorem pow_head {w : World} {rest : List (String × DataW Unit)} (h : laidMet Tryd.prog (("internal/strconv.uint64pow10", Rows.laid_internal_strconv_uint64pow10) :: rest) w) : Pow w.heap.size w := by
  rw [pow_is] at h
  exact Lib.tabBelow_of_tabIs (Lib.tabIs_of_head (rest := rest) powG powT Tryd.underlying103 Tryd.underlying87 cells64 powC h)
end Go.Proofs.YtlbhiefamnpphaaDoor.jc
