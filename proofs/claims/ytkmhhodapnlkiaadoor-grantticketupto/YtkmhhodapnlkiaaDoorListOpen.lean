import Derived.Test.YtkmhhodapnlkiaaDoorListKit0
import Derived.Deep.Slices
import Derived.Lib.SmallJoins
namespace Go.Proofs.YtkmhhodapnlkiaaDoor.lst
open Go.ChangeShapes Go.WideShapes Go.ChangeAt Go.RowKit Go.Joins Go.Deep Go.WideElems Go.Maps Go.Proofs.YtkmhhodapnlkiaaDoor.common

theorem weightsAll_mem {H : Type} {P : Program} {e : TypeId} {p : Nat → Bool} : ∀ (l : List (DataW H)), (DataW.weightsAll P e l).all p = true → ∀ d ∈ l, (d.weights P e).all p = true
  | [], _, d, hd => by cases hd
  | x :: r, h, d, hd => by
    rw [DataW.weightsAll, List.all_append, Bool.and_eq_true] at h
    rcases List.mem_cons.1 hd with rfl | hd
    · exact h.1
    · exact weightsAll_mem r h.2 d hd

theorem cellsPair : Tryd.prog.cellsOf 29 = 2 := by kernel_rfl
theorem bytesPair : Tryd.prog.bytesOf 29 = 32 := by kernel_rfl

/-- a pair as it is read -/
def dat {H : Type} (p : PB) : DataW H := .agg [.lit (.string p.1.data.toList), .lit (.string p.2.data.toList)]

set_option maxRecDepth 100000 in
theorem pairs_of {H : Type} {enc : TypeId × Value → H} {W : World} {fuel : Nat} {v : Value} {d : DataW H} {pl : List MemPlace}
    (h : DataW.trod enc Tryd.prog W 0 (fun _ => true) true fuel 22 [v] = some (d, pl)) (hsz : (d.weights Tryd.prog 22).all (· ≤ reachBytes) = true) :
    ∃ l, Lies W v l ∧ l.length * 32 ≤ reachBytes ∧ (∀ p ∈ l, p.1.size ≤ reachBytes ∧ p.2.size ≤ reachBytes) ∧ ((d = .nil ∧ l = []) ∨ ∃ sp, d = .slice (l.map dat) sp) := by
  rcases Deep.open_slice Tryd.underlying22 h with ⟨hcs, hx⟩ | ⟨a, len, cap, m, n, D, Pl, hcs, hb, hl, hm, hmm, hx, hall⟩
  · obtain rfl : v = .slice none 0 0 := by simpa using hcs
    exact ⟨[], ⟨none, 0, rfl, fun i hi => absurd hi (Nat.not_lt_zero _)⟩, by decide, fun p hp => (by cases hp), Or.inl ⟨(Prod.mk.inj hx).1, rfl⟩⟩
  · obtain rfl : v = .slice (some a) len cap := by simpa using hcs
    have hd : d = .slice ((List.range len).map D) ((List.range (m - len)).map fun j => D (len + j)) := (Prod.mk.inj hx).1
    subst hd
    simp only [DataW.weights, Tryd.underlying22, List.all_cons, List.all_append, Bool.and_eq_true] at hsz
    have each : ∀ i, ∃ p : PB, i < len → D i = dat p ∧ p.1.size ≤ reachBytes ∧ p.2.size ≤ reachBytes ∧ ∃ b o, a = ⟨b, o, none⟩ ∧ b < W.heap.size ∧ W.cell? ⟨b, o + i * 2, none⟩ = some (.string p.1) ∧ W.cell? ⟨b, o + i * 2 + 1, none⟩ = some (.string p.2) := by
      intro i
      by_cases hi : i < len
      · have hwi := weightsAll_mem _ hsz.2.1 (D i) (List.mem_map.2 ⟨i, List.mem_range.2 hi, rfl⟩)
        obtain ⟨cs', h1, h2⟩ := hall i (by rw [hmm]; simp; omega)
        rw [cellsPair] at h1
        obtain ⟨_, hlen, hcell⟩ := World.cells?_some h1
        match cs', hlen with
        | [v0, v1], _ =>
          obtain ⟨y0, y1, n', hxy, _, t0, t1⟩ := trod_struct2 Tryd.underlying29 h2
          have t0' : DataW.trod enc Tryd.prog W 0 (fun _ => true) true n' 9 [v0] = some y0 := by rw [← t0]; rfl
          have t1' : DataW.trod enc Tryd.prog W 0 (fun _ => true) true n' 9 [v1] = some y1 := by rw [← t1]; rfl
          obtain ⟨s, es, rfl, _⟩ := DataW.trod_string Tryd.underlying9 t0'
          obtain ⟨t, et, rfl, _⟩ := DataW.trod_string Tryd.underlying9 t1'
          simp at es et
          subst es et
          have hDi : D i = dat (s, t) := (Prod.mk.inj hxy).1
          rw [hDi] at hwi
          have hts : s.size ≤ reachBytes ∧ t.size ≤ reachBytes := by
            simp [dat, DataW.weights, DataW.weightsEach, Tryd.underlying29] at hwi
            simpa using hwi
          have c0 := hcell 0 (by decide)
          have c1 := hcell 1 (by decide)
          have hsp : a.spot = none := by
            have q0 := hall 0 (by rw [hmm]; simp; omega)
            obtain ⟨cs0, g1, _⟩ := q0
            rw [cellsPair] at g1
            obtain ⟨_, hlen0, hcell0⟩ := World.cells?_some g1
            have g2 := hcell0 0 (by decide)
            rw [List.getElem?_eq_getElem (by omega)] at g2
            have := World.cell?_spot g2
            simpa [Addr.add] using this
          obtain ⟨b, o, sp⟩ := a
          simp at hsp
          subst hsp
          rw [Addr.add_mid, Addr.add_mid] at c0 c1
          have c0' : W.cell? ⟨b, o + i * 2, none⟩ = some (.string s) := by simpa using c0
          exact ⟨(s, t), fun _ => ⟨hDi, hts.1, hts.2, b, o, rfl, World.block_lt_of_cell? W _ c0', c0', by simpa using c1⟩⟩
      · exact ⟨(ByteArray.empty, ByteArray.empty), fun h => absurd h hi⟩
    obtain ⟨f, hf⟩ := Classical.axiomOfChoice each
    have hlen : ((List.range len).map f).length = len := by simp
    refine ⟨(List.range len).map f, ⟨some a, cap, by rw [hlen], fun i hi => ?_⟩, ?_, ?_, Or.inr ⟨(List.range (m - len)).map fun j => D (len + j), ?_⟩⟩
    · rw [hlen] at hi
      obtain ⟨_, _, _, b, o, rfl, hb, c0, c1⟩ := hf i hi
      exact ⟨b, o, rfl, hb, by simpa using c0, by simpa using c1⟩
    · rw [hlen]
      have h1 := hsz.1
      rw [bytesPair] at h1
      simp at h1
      omega
    · intro p hp
      obtain ⟨i, hi, rfl⟩ := List.mem_map.1 hp
      exact ⟨(hf i (List.mem_range.1 hi)).2.1, (hf i (List.mem_range.1 hi)).2.2.1⟩
    · congr 1
      rw [List.map_map]
      apply List.map_congr_left
      intro i hi
      exact (hf i (List.mem_range.1 hi)).1

end Go.Proofs.YtkmhhodapnlkiaaDoor.lst
