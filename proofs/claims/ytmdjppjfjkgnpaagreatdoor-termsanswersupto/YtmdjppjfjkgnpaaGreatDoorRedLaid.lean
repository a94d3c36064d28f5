import Derived.Test.YtmdjppjfjkgnpaaGreatDoorErrWalks
import Derived.Test.YtmdjppjfjkgnpaaGreatDoorTmRed
import Derived.LaidLaws
import Derived.Stop.LaidErr
import Derived.Lib.LaidU8
namespace Go.Proofs.YtmdjppjfjkgnpaaGreatDoor.tm
open Go.ChangeShapes Go.WideShapes Go.ChangeAt Go.RowKit Go.Proofs.YtmdjppjfjkgnpaaGreatDoor.common Go.Proofs.YtmdjppjfjkgnpaaGreatDoor.bk
open Go.Shelf Go.Lib

theorem rngG : Tryz.prog.globalNamed "strconv.ErrRange" = some 17 := by kernel_rfl
theorem rngT : (Tryz.prog.globals[17]?).map (·.type) = some 29 := by kernel_rfl
theorem synG : Tryz.prog.globalNamed "strconv.ErrSyntax" = some 16 := by kernel_rfl
theorem synT : (Tryz.prog.globals[16]?).map (·.type) = some 29 := by kernel_rfl
theorem nums_of_laid {W : World} {rest : List (String × DataW Unit)} (h : laidMet Tryz.prog (("strconv.ErrRange", Rows.laid_strconv_ErrRange) :: ("strconv.ErrSyntax", Rows.laid_strconv_ErrSyntax) :: rest) W) : Nums W := by
  obtain ⟨ps, h0, _, hrows⟩ := h
  obtain ⟨a0, q0, c0, h1, rfl⟩ := errw.peel h0 (fun b off hm => hrows b off (by simp [hm])) rngG rngT Tryz.underlying29 errw.rowErr Tryz.underlying101 Tryz.underlying103 rfl rfl Tryz.underlying9 errw.cellsErr errw.cellsStr
  obtain ⟨a1, q1, c1, h2, rfl⟩ := errw.peel h1 (fun b off hm => hrows b off (by simp [hm])) synG synT Tryz.underlying29 errw.rowErr Tryz.underlying101 Tryz.underlying103 rfl rfl Tryz.underlying9 errw.cellsErr errw.cellsStr
  exact ⟨⟨_, _, c1⟩, ⟨_, _, c0⟩⟩
theorem locG : Tryz.prog.globalNamed "usher/terms.localHosts" = some 13 := by kernel_rfl
theorem locTy : (Tryz.prog.globals[13]?).map (·.type) = some 61 := by kernel_rfl
theorem loc_is : (Rows.laid_usher_terms_localHosts : DataW Unit) = .agg ((List.range 3).map fun i => .lit (.string (tH i))) := by kernel_rfl
theorem loc_of_laid {w : World} {l : List (String × DataW Unit)} (h : laidMet Tryz.prog l w) (h1 : ("usher/terms.localHosts", Rows.laid_usher_terms_localHosts) ∈ l) : Loc w := by
  have a := laidMet.reads h h1
  rw [loc_is] at a
  have key : ∀ i, i < 3 → w.cell? ⟨13, i, none⟩ = some (S (tH i)) := by
    intro i hi
    obtain ⟨g, t, cs, fuel, p, hg, hty, hvar, hd⟩ := a
    obtain rfl := Option.some.inj (locG.symm.trans hg)
    obtain rfl := Option.some.inj (locTy.symm.trans hty)
    obtain ⟨fuel', d, q, hdi, he⟩ := array_elem Tryz.underlying61 hd i hi
    simp only [List.getElem?_map, List.getElem?_range hi, Option.map_some, Option.some.injEq] at hdi
    subst hdi
    rw [errw.cellsStr] at he
    obtain ⟨z, e0, f0⟩ := DataW.trod_string Tryz.underlying9 he
    have f1 : (DataW.lit (.string (tH i)) : DataW Unit) = _ := congrArg Prod.fst f0.1
    simp only [DataW.lit.injEq, Lit.string.injEq] at f1
    have e0 := congrArg (·[0]?) e0
    simp only [List.getElem?_take, List.getElem?_drop] at e0
    rw [World.var?_cell hg hvar i, ← Array.getElem?_toList]
    have : S (tH i) = .string z := congrArg Value.string (ba_ext f1)
    rw [this]
    simpa using e0
  intro j v hv
  have hj : j < 3 := by
    have := (List.getElem?_eq_some_iff.1 hv).1
    exact this
  match j, hj with
  | 0, _ => rw [← hv]; exact key 0 (by decide)
  | 1, _ => rw [← hv]; exact key 1 (by decide)
  | 2, _ => rw [← hv]; exact key 2 (by decide)

end Go.Proofs.YtmdjppjfjkgnpaaGreatDoor.tm
