import Derived.Test.YtpadnllngbjbnaaDoorReasonW
import Derived.LaidLaws
import Derived.Stop.LaidErr
import Derived.Lib.LaidU8
namespace Go.Proofs.YtpadnllngbjbnaaDoor.rp
open Go.ChangeShapes Go.WideShapes Go.ChangeAt Go.RowKit Go.Proofs.YtpadnllngbjbnaaDoor.common
open Go.Shelf Go.Lib

theorem statG : Tryd.prog.globalNamed "usher/reply.statuses" = some 0 := by kernel_rfl
theorem statT : (Tryd.prog.globals[0]?).map (·.type) = some 26 := by kernel_rfl
theorem statC : Tryd.prog.cellsOf 25 = 2 := by kernel_rfl
theorem cellsI : Tryd.prog.cellsOf 3 = 1 := by kernel_rfl
theorem cellsS : Tryd.prog.cellsOf 9 = 1 := by kernel_rfl
theorem stat_is : (Rows.laid_usher_reply_statuses : DataW Unit) = .agg ((List.range 17).map fun i => .agg [.lit (.int .i64 (tN i)), .lit (.string (tS i))]) := by kernel_rfl
theorem str_eq (l : List UInt8) (z : ByteArray) (h : l = z.data.toList) : (⟨l.toArray⟩ : ByteArray) = z := by
  subst h
  rfl
theorem stat_of_laid {w : World} {l : List (String × DataW Unit)} (h : laidMet Tryd.prog l w) (h1 : ("usher/reply.statuses", Rows.laid_usher_reply_statuses) ∈ l) : Stat w := by
  have a := laidMet.reads h h1
  rw [stat_is] at a
  have key : ∀ i, i < 17 → w.cell? ⟨0, i * 2, none⟩ = some (.int .i64 (tN i)) ∧ w.cell? ⟨0, i * 2 + 1, none⟩ = some (S (tS i)) := by
    intro i hi
    obtain ⟨g, t, cs, fuel, p, hg, hty, hvar, hd⟩ := a
    obtain rfl := Option.some.inj (statG.symm.trans hg)
    obtain rfl := Option.some.inj (statT.symm.trans hty)
    obtain ⟨fuel', d, q, hdi, he⟩ := array_elem Tryd.underlying26 hd i hi
    simp only [List.getElem?_map, List.getElem?_range hi, Option.map_some, Option.some.injEq] at hdi
    subst hdi
    rw [statC] at he
    obtain ⟨xs, n, rfl, hx, hl, hxl, hall⟩ := DataW.trod_struct Tryd.underlying25 he
    have hxs : xs.map (·.1) = [(DataW.lit (.int .i64 (tN i)) : DataW Unit), .lit (.string (tS i))] := by
      have := congrArg Prod.fst hx
      simpa using this.symm
    match xs, hxs with
    | [(x0, p0), (x1, p1)], hxs =>
      simp only [List.map_cons, List.map_nil, List.cons.injEq, and_true] at hxs
      generalize hfs : (#[_, _] : Array Field) = fs at hall
      obtain ⟨f0, k0, t0, o0⟩ : ∃ f, fs[0]? = some f ∧ f.type = 3 ∧ f.offset = 0 := by rw [← hfs]; exact ⟨_, rfl, rfl, rfl⟩
      obtain ⟨f1, k1, t1, o1⟩ : ∃ f, fs[1]? = some f ∧ f.type = 9 ∧ f.offset = 1 := by rw [← hfs]; exact ⟨_, rfl, rfl, rfl⟩
      have a0 := hall 0 f0 k0
      have a1 := hall 1 f1 k1
      rw [t0, o0] at a0
      rw [t1, o1] at a1
      simp only [List.getElem?_cons_zero, List.getElem?_cons_succ] at a0 a1
      rw [cellsI] at a0
      rw [cellsS] at a1
      obtain ⟨z0, e0, f0⟩ := DataW.trod_int Tryd.underlying3 a0
      obtain ⟨z1, e1, f1⟩ := DataW.trod_string Tryd.underlying9 a1
      have f0 : x0 = _ := congrArg Prod.fst f0.1
      have f1 : x1 = _ := congrArg Prod.fst f1.1
      rw [hxs.1] at f0
      rw [hxs.2] at f1
      simp only [DataW.lit.injEq, Lit.int.injEq, Lit.string.injEq, true_and] at f0 f1
      subst f0
      have e0 := congrArg (·[0]?) e0
      have e1 := congrArg (·[0]?) e1
      simp only [List.getElem?_take, List.getElem?_drop] at e0 e1
      constructor
      · rw [World.var?_cell hg hvar (i * 2), ← Array.getElem?_toList]
        simpa using e0
      · rw [World.var?_cell hg hvar (i * 2 + 1), ← Array.getElem?_toList]
        have : S (tS i) = .string z1 := congrArg Value.string (str_eq _ _ f1)
        rw [this]
        simpa using e1
  intro j v hv
  have hj : j < 34 := by
    have := (List.getElem?_eq_some_iff.1 hv).1
    rwa [cells_len] at this
  have hk := key (j / 2) (by omega)
  have hc := cell_at (j / 2) (by omega)
  rw [Nat.zero_add]
  rcases Nat.mod_two_eq_zero_or_one j with h2 | h2
  · have e : j / 2 * 2 = j := by omega
    rw [e] at hk hc
    rw [hk.1, ← hv, hc.1]
  · have e : j / 2 * 2 + 1 = j := by omega
    rw [e] at hk hc
    rw [hk.2, ← hv, hc.2]
end Go.Proofs.YtpadnllngbjbnaaDoor.rp
