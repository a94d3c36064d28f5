import Derived.Test.YticncaoecoehkaaDoorWlArg
import Derived.Deep.Slices
namespace Go.Proofs.YticncaoecoehkaaDoor.wl
open Go.ChangeShapes Go.WideShapes Go.ChangeAt Go.RowKit Go.Joins Go.Deep Go.WideElems Go.Maps Go.Proofs.YticncaoecoehkaaDoor.common Go.Proofs.YticncaoecoehkaaDoor.dk

theorem weightsAll_memP {H : Type} {P : Program} {e : TypeId} {p : Nat → Bool} : ∀ (l : List (DataW H)), (DataW.weightsAll P e l).all p = true → ∀ d ∈ l, (d.weights P e).all p = true
  | [], _, d, hd => by cases hd
  | x :: r, h, d, hd => by
    rw [DataW.weightsAll, List.all_append, Bool.and_eq_true] at h
    rcases List.mem_cons.1 hd with rfl | hd
    · exact h.1
    · exact weightsAll_memP r h.2 d hd
theorem cellsStepP : Tryd.prog.cellsOf 48 = 4 := by kernel_rfl
theorem bytesStepP : Tryd.prog.bytesOf 48 = 48 := by kernel_rfl
/-- the payloads of a list of steps -/
def LsP (W : World) (v : Value) (L : List (List UInt8)) : Prop := ∃ oa cap, v = .slice oa L.length cap ∧ (0 < L.length → ∃ g o, oa = some ⟨g, o, none⟩ ∧ g < W.heap.size ∧ ∀ i (hi : i < L.length), ∃ u, W.cell? ⟨g, o + i * 4 + 3, none⟩ = some u ∧ Rd W u L[i])
theorem LsP.below {W W' : World} {v : Value} {L : List (List UInt8)} (h : LsP W v L) (hb : Below W.heap.size W W') : LsP W' v L := by
  obtain ⟨oa, cap, rfl, h⟩ := h
  refine ⟨oa, cap, rfl, fun h0 => ?_⟩
  obtain ⟨g, o, rfl, hg, hc⟩ := h h0
  refine ⟨g, o, rfl, Nat.lt_of_lt_of_le hg hb.size, fun i hi => ?_⟩
  obtain ⟨u, h1, h2⟩ := hc i hi
  exact ⟨u, by rw [World.cell?_of_block (hb.block g hg)]; exact h1, h2.below hb⟩
set_option maxRecDepth 100000 in
theorem stepsP_of {H : Type} {enc : TypeId × Value → H} {W : World} {fuel : Nat} {v : Value} {d : DataW H} {pl : List MemPlace}
    (h : DataW.trod enc Tryd.prog W 0 (fun _ => true) true fuel 42 [v] = some (d, pl)) (hsz : (d.weights Tryd.prog 42).all (· ≤ reachBytes) = true) :
    ∃ L, LsP W v L ∧ L.length ≤ 2932031007402 ∧ ∀ q ∈ L, q.length ≤ reachBytes := by
  rcases Deep.open_slice Tryd.underlying42 h with ⟨hcs, hx⟩ | ⟨a, len, cap, m, n, D, Pl, hcs, hb, hl, hm, hmm, hx, hall⟩
  · obtain rfl : v = .slice none 0 0 := by simpa using hcs
    exact ⟨[], ⟨none, 0, rfl, fun h0 => absurd h0 (by decide)⟩, by decide, fun q hq => by cases hq⟩
  · obtain rfl : v = .slice (some a) len cap := by simpa using hcs
    have hd : d = .slice ((List.range len).map D) ((List.range (m - len)).map fun j => D (len + j)) := (Prod.mk.inj hx).1
    subst hd
    simp only [DataW.weights, Tryd.underlying42, List.all_cons, List.all_append, Bool.and_eq_true] at hsz
    have hw0 := of_decide_eq_true hsz.1
    rw [bytesStepP] at hw0
    have hlen : len * 48 ≤ 140737488355328 := by
      simp at hw0
      unfold reachBytes at hw0
      omega
    by_cases h0 : len = 0
    · subst h0
      exact ⟨[], ⟨some a, cap, rfl, fun h0 => absurd h0 (by decide)⟩, by decide, fun q hq => by cases hq⟩
    have hsp : a.spot = none := by
      obtain ⟨cs0, g1, _⟩ := hall 0 (by rw [hmm]; simp; omega)
      rw [cellsStepP] at g1
      obtain ⟨_, hlen0, hcell0⟩ := World.cells?_some g1
      have g2 := hcell0 0 (by decide)
      rw [List.getElem?_eq_getElem (by omega)] at g2
      have := World.cell?_spot g2
      simpa [Addr.add] using this
    obtain ⟨b, o, sp⟩ := a
    obtain rfl : sp = none := hsp
    have each : ∀ i, ∃ q : List UInt8, i < len → q.length ≤ reachBytes ∧ ∃ u, W.cell? ⟨b, o + i * 4 + 3, none⟩ = some u ∧ Rd W u q := by
      intro i
      by_cases hi : i < len
      · have hwi := weightsAll_memP _ hsz.2.1 (D i) (List.mem_map.2 ⟨i, List.mem_range.2 hi, rfl⟩)
        obtain ⟨cs', h1, h2⟩ := hall i (by rw [hmm]; simp; omega)
        rw [cellsStepP] at h1
        obtain ⟨_, hlen', hcell⟩ := World.cells?_some h1
        match cs', hlen' with
        | [v0, v1, v2, v3], _ =>
          obtain ⟨y0, y1, y2, y3, n', hxy, _, t0, t1, t2, t3⟩ := trod_struct4 Tryd.underlying48 h2
          have t3' : DataW.trod enc Tryd.prog W 0 (fun _ => true) true n' 22 [v3] = some y3 := by rw [← t3]; rfl
          obtain ⟨d3, p3⟩ := y3
          obtain ⟨hDi, _⟩ := Prod.mk.inj hxy
          rw [hDi] at hwi
          have hw3 : (d3.weights Tryd.prog 22).all (· ≤ reachBytes) = true := by
            simp [DataW.weights, DataW.weightsEach, Tryd.underlying48] at hwi
            simpa using hwi.2.2.2
          obtain ⟨q, hr, hq, _⟩ := bytes_of t3' hw3
          have c3 := hcell 3 (by decide)
          have hcl : W.cell? ⟨b, o + i * 4 + 3, none⟩ = some v3 := by
            have := c3
            rw [Addr.add_mid, Addr.add_mid] at this
            simpa using this
          exact ⟨q, fun _ => ⟨hq, v3, hcl, hr⟩⟩
      · exact ⟨[], fun h => absurd h hi⟩
    obtain ⟨f, hf⟩ := Classical.axiomOfChoice each
    have hln : ((List.range len).map f).length = len := by simp
    refine ⟨(List.range len).map f, ⟨some ⟨b, o, none⟩, cap, by rw [hln], fun _ => ⟨b, o, rfl, ?_, fun i hi => ?_⟩⟩, by rw [hln]; omega, fun q hq => ?_⟩
    · obtain ⟨_, u, hu, _⟩ := hf 0 (by omega)
      exact World.block_lt_of_cell? W _ hu
    · rw [hln] at hi
      obtain ⟨_, u, hu, hr⟩ := hf i hi
      exact ⟨u, hu, by simpa using hr⟩
    · obtain ⟨i, hi, rfl⟩ := List.mem_map.1 hq
      exact (hf i (List.mem_range.1 hi)).1
theorem cellsPlay : Tryd.prog.cellsOf 44 = 3 := by kernel_rfl
end Go.Proofs.YticncaoecoehkaaDoor.wl
