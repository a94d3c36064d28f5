import Derived.Test.YthpickmiohakbaaDoorHashLaw
import Derived.Deep.Slices
import Derived.Lib.SmallJoins
namespace Go.Proofs.YthpickmiohakbaaDoor.refw
open Go.ChangeShapes Go.WideShapes Go.ChangeAt Go.RowKit Go.Joins Go.Deep Go.WideElems Go.Maps Go.Proofs.YthpickmiohakbaaDoor.common Go.Proofs.YthpickmiohakbaaDoor.shaw

theorem weightsAll_mem {H : Type} {P : Program} {e : TypeId} {p : Nat → Bool} : ∀ (l : List (DataW H)), (DataW.weightsAll P e l).all p = true → ∀ d ∈ l, (d.weights P e).all p = true
  | [], _, d, hd => by cases hd
  | x :: r, h, d, hd => by
    rw [DataW.weightsAll, List.all_append, Bool.and_eq_true] at h
    rcases List.mem_cons.1 hd with rfl | hd
    · exact h.1
    · exact weightsAll_mem r h.2 d hd

theorem cellsPiece : Tryd.prog.cellsOf 34 = 3 := by kernel_rfl

theorem pieces_of {H : Type} {enc : TypeId × Value → H} {W : World} {b0 : Nat} {v : Value} {d : DataW H} {p : List MemPlace} (hv : Value.okWide Tryd.prog W .any b0 28 v)
    (h : DataW.Trod enc Tryd.prog W 0 (fun _ => true) true 28 v d p) (hsz : (d.weights Tryd.prog 28).all (· ≤ reachBytes) = true) :
    ∃ oa len cap, v = .slice oa len cap ∧ len ≤ 9223372036854775807 ∧ Pieces W oa len := by
  obtain ⟨a0, len, cap, rfl⟩ := okWide_slice Tryd.underlying28 hv
  obtain ⟨fuel, hf⟩ := h
  rcases Deep.open_slice Tryd.underlying28 hf with ⟨hcs, _⟩ | ⟨a, l, c, m, n, D, Pl, hcs, hb, hl, hm, hmm, hx, hall⟩
  · simp [Value.cells] at hcs
    obtain ⟨rfl, rfl, rfl⟩ := hcs
    exact ⟨_, _, _, rfl, by decide, fun i hi => absurd hi (Nat.not_lt_zero _)⟩
  · simp [Value.cells] at hcs
    obtain ⟨rfl, rfl, rfl⟩ := hcs
    refine ⟨_, _, _, rfl, by unfold maxLen at hm; omega, fun i hi => ?_⟩
    have hd : d = .slice ((List.range len).map D) ((List.range (m - len)).map fun j => D (len + j)) := (Prod.mk.inj hx).1
    subst hd
    simp only [DataW.weights, Tryd.underlying28, List.all_cons, List.all_append, Bool.and_eq_true] at hsz
    have hwi := weightsAll_mem _ hsz.2.1 (D i) (List.mem_map.2 ⟨i, List.mem_range.2 hi, rfl⟩)
    obtain ⟨cs', h1, h2⟩ := hall i (by rw [hmm]; simp; omega)
    rw [cellsPiece] at h1
    obtain ⟨_, hlen, hcell⟩ := World.cells?_some h1
    match cs', hlen with
    | [v0, v1, v2], _ =>
      obtain ⟨y0, y1, y2, n', hxy, _, t0, t1, t2⟩ := trod_struct3 Tryd.underlying34 h2
      have t0' : DataW.trod enc Tryd.prog W 0 (fun _ => true) true n' 3 [v0] = some y0 := by rw [← t0]; rfl
      have t1' : DataW.trod enc Tryd.prog W 0 (fun _ => true) true n' 9 [v1] = some y1 := by rw [← t1]; rfl
      have t2' : DataW.trod enc Tryd.prog W 0 (fun _ => true) true n' 3 [v2] = some y2 := by rw [← t2]; rfl
      obtain ⟨x, ex, rfl, wx⟩ := DataW.trod_int Tryd.underlying3 t0'
      obtain ⟨t, et, rfl, wt⟩ := DataW.trod_string Tryd.underlying9 t1'
      obtain ⟨y, ey, rfl, wy⟩ := DataW.trod_int Tryd.underlying3 t2'
      simp at ex et ey
      subst ex et ey
      have hDi : D i = .agg [.lit (.int .i64 x), .lit (.string t.data.toList), .lit (.int .i64 y)] := (Prod.mk.inj hxy).1
      rw [hDi] at hwi
      have hts : t.size ≤ reachBytes := by
        simp [DataW.weights, DataW.weightsEach, Tryd.underlying34] at hwi
        simpa using hwi
      have c0 := hcell 0 (by decide)
      have c1 := hcell 1 (by decide)
      have c2 := hcell 2 (by decide)
      have hsp : a.spot = none := by
        have q0 := hall 0 (by rw [hmm]; simp; omega)
        obtain ⟨cs0, g1, _⟩ := q0
        rw [cellsPiece] at g1
        obtain ⟨_, hlen0, hcell0⟩ := World.cells?_some g1
        have g2 := hcell0 0 (by decide)
        rw [List.getElem?_eq_getElem (by omega)] at g2
        have := World.cell?_spot g2
        simpa [Addr.add] using this
      obtain ⟨b, o, sp⟩ := a
      simp at hsp
      subst hsp
      rw [Addr.add_mid, Addr.add_mid] at c0 c1 c2
      have c0' : W.cell? ⟨b, o + i * 3, none⟩ = some (.int .i64 x) := by simpa using c0
      refine ⟨b, o, x, y, t, rfl, World.block_lt_of_cell? W _ c0', c0', by simpa using c1, by simpa using c2, bounds_i64 wx, bounds_i64 wy, by unfold reachBytes at hts; exact hts⟩

end Go.Proofs.YthpickmiohakbaaDoor.refw
