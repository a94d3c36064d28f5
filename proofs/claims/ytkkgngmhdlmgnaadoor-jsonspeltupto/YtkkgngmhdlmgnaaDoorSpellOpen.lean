import Derived.Test.YtkkgngmhdlmgnaaDoorSpellLaw
import Derived.Test.YtkkgngmhdlmgnaaDoorMOpen
import Derived.Lib.LaidU8
namespace Go.Proofs.YtkkgngmhdlmgnaaDoor.jw
open Go.ChangeShapes Go.WideShapes Go.ChangeAt Go.RowKit Go.Joins Go.Deep Go.WideElems Go.Maps Go.Proofs.YtkkgngmhdlmgnaaDoor.common
open Go.Shelf Go.Lib

theorem bytesInt : Tryd.prog.bytesOf 3 = 8 := by kernel_rfl
theorem cellsInt : Tryd.prog.cellsOf 3 = 1 := by kernel_rfl
set_option maxRecDepth 100000 in
/-- a list of whole numbers as an argument -/
theorem ints_of {H : Type} {enc : TypeId × Value → H} {W : World} {fuel : Nat} {v : Value} {d : DataW H} {pl : List MemPlace}
    (h : DataW.trod enc Tryd.prog W 0 (fun _ => true) true fuel 39 [v] = some (d, pl)) (hsz : (d.weights Tryd.prog 39).all (· ≤ reachBytes) = true) : Tn W v := by
  rcases Deep.open_slice Tryd.underlying39 h with ⟨hcs, hx⟩ | ⟨a, len, cap, m, n, D, Pl, hcs, hb, hl, hm, hmm, hx, hall⟩
  · obtain rfl : v = .slice none 0 0 := by simpa using hcs
    exact ⟨none, 0, 0, rfl, Nat.le_refl _, by decide, fun i hi => absurd hi (Nat.not_lt_zero _)⟩
  · obtain rfl : v = .slice (some a) len cap := by simpa using hcs
    have hd : d = .slice ((List.range len).map D) ((List.range (m - len)).map fun j => D (len + j)) := (Prod.mk.inj hx).1
    subst hd
    simp only [DataW.weights, Tryd.underlying39, List.all_cons, List.all_append, Bool.and_eq_true] at hsz
    refine ⟨some a, len, cap, rfl, by omega, ?_, fun i hi => ?_⟩
    · have h1 := hsz.1
      rw [bytesInt] at h1
      simp at h1
      unfold reachBytes at h1
      omega
    · obtain ⟨cs', h1, h2⟩ := hall i (by rw [hmm]; simp; omega)
      rw [cellsInt] at h1
      obtain ⟨_, hlen, hcell⟩ := World.cells?_some h1
      match cs', hlen with
      | [v0], _ =>
        obtain ⟨k, ek, _, wk⟩ := DataW.trod_int Tryd.underlying3 h2
        simp at ek
        subst ek
        have c0 := hcell 0 (by decide)
        have hsp : a.spot = none := by
          obtain ⟨cs0, g1, _⟩ := hall 0 (by rw [hmm]; simp; omega)
          rw [cellsInt] at g1
          obtain ⟨_, hlen0, hcell0⟩ := World.cells?_some g1
          have g2 := hcell0 0 (by decide)
          rw [List.getElem?_eq_getElem (by omega)] at g2
          have := World.cell?_spot g2
          simpa [Addr.add] using this
        obtain ⟨b, o, sp⟩ := a
        obtain rfl : sp = none := hsp
        have hk := bounds_i64 wk
        have hcl : W.cell? ⟨b, o + i, none⟩ = some (.int .i64 k) := by
          have := c0
          rw [Addr.add_mid, Addr.add_mid] at this
          simpa using this
        exact ⟨b, o, k, rfl, World.block_lt_of_cell? W _ hcl, hcl, hk.1, hk.2⟩

theorem gapG : Tryd.prog.globalNamed "usher/usherlaw4.gaps" = some 0 := by kernel_rfl
theorem gapT : (Tryd.prog.globals[0]?).map (·.type) = some 46 := by kernel_rfl
theorem gapC : Tryd.prog.cellsOf 9 = 1 := by kernel_rfl
theorem gap_is : (Rows.laid_usher_usherlaw4_gaps : DataW Unit) = .agg ((List.range 8).map fun i => .lit (.string (gapOf i))) := by kernel_rfl
theorem gaps_of_laid {w : World} {l : List (String × DataW Unit)} (h : laidMet Tryd.prog l w) (h1 : ("usher/usherlaw4.gaps", Rows.laid_usher_usherlaw4_gaps) ∈ l) : Gp w := by
  have a := laidMet.reads h h1
  rw [gap_is] at a
  intro i hi
  obtain ⟨g, t, cs, fuel, p, hg, hty, hvar, hd⟩ := a
  obtain rfl := Option.some.inj (gapG.symm.trans hg)
  obtain rfl := Option.some.inj (gapT.symm.trans hty)
  obtain ⟨fuel', d, q, hdi, he⟩ := array_elem Tryd.underlying46 hd i hi
  simp only [List.getElem?_map, List.getElem?_range hi, Option.map_some, Option.some.injEq] at hdi
  subst hdi
  rw [gapC] at he
  obtain ⟨z, e0, f0⟩ := DataW.trod_string Tryd.underlying9 he
  have f1 : (DataW.lit (.string (gapOf i)) : DataW Unit) = _ := congrArg Prod.fst f0.1
  simp only [DataW.lit.injEq, Lit.string.injEq] at f1
  have e0 := congrArg (·[0]?) e0
  simp only [List.getElem?_take, List.getElem?_drop] at e0
  rw [World.var?_cell hg hvar i, ← Array.getElem?_toList]
  have : S (gapOf i) = .string z := congrArg Value.string (ba_ext f1)
  rw [this]
  simpa using e0
end Go.Proofs.YtkkgngmhdlmgnaaDoor.jw
