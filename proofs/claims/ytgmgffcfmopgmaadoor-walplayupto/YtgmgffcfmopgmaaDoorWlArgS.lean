import Derived.Test.YtgmgffcfmopgmaaDoorRdKit
import Derived.Lib.SmallJoins
import Derived.Deep.DeepHandedRow
import Derived.Deep.Slices
namespace Go.Proofs.YtgmgffcfmopgmaaDoor.wl
open Go.ChangeShapes Go.WideShapes Go.ChangeAt Go.RowKit Go.Joins Go.Deep Go.Proofs.YtgmgffcfmopgmaaDoor.common Go.Proofs.YtgmgffcfmopgmaaDoor.dk

theorem bytesU8 : Tryd.prog.bytesOf 5 = 1 := by kernel_rfl
theorem cellsU8 : Tryd.prog.cellsOf 5 = 1 := by kernel_rfl
/-- a cell as a byte -/
def byteAt (W : World) (b o : Nat) : UInt8 := match W.cell? ⟨b, o, none⟩ with
  | some (.int _ k) => UInt8.ofNat k.toNat
  | _ => 0
theorem bulk_one {H : Type} (d : DataW H) : 1 ≤ Rows.uptoBulk d := by
  cases d with
  | lit x => cases x <;> simp [Rows.uptoBulk]
  | _ => simp [Rows.uptoBulk]
theorem bulk_all {H : Type} (l : List (DataW H)) : l.length ≤ Rows.uptoBulkAll l := by
  induction l with
  | nil => exact Nat.zero_le _
  | cons d r ih =>
    have := bulk_one d
    rw [Rows.uptoBulkAll, List.length_cons]
    omega
set_option maxRecDepth 100000 in
/-- a list of bytes as an argument -/
theorem bytes_of {H : Type} {enc : TypeId × Value → H} {W : World} {fuel : Nat} {v : Value} {d : DataW H} {pl : List MemPlace}
    (h : DataW.trod enc Tryd.prog W 0 (fun _ => true) true fuel 22 [v] = some (d, pl)) (hsz : (d.weights Tryd.prog 22).all (· ≤ reachBytes) = true) : ∃ l : List UInt8, Rd W v l ∧ l.length ≤ reachBytes ∧ l.length + 1 ≤ Rows.uptoBulk d ∧ ∀ oa m c, v = .slice oa m c → m ≤ c := by
  rcases Deep.open_slice Tryd.underlying22 h with ⟨hcs, hx⟩ | ⟨a, len, cap, m, n, D, Pl, hcs, hb, hl, hm, hmm, hx, hall⟩
  · obtain rfl : v = .slice none 0 0 := by simpa using hcs
    exact ⟨[], rd_nil _, by decide, bulk_one _, fun oa m c e => by cases e; exact Nat.le_refl _⟩
  · obtain rfl : v = .slice (some a) len cap := by simpa using hcs
    have hd : d = .slice ((List.range len).map D) ((List.range (m - len)).map fun j => D (len + j)) := (Prod.mk.inj hx).1
    subst hd
    simp only [DataW.weights, Tryd.underlying22, List.all_cons, List.all_append, Bool.and_eq_true] at hsz
    have h1 := hsz.1
    rw [bytesU8] at h1
    simp at h1
    by_cases h0 : len = 0
    · subst h0
      exact ⟨[], ⟨some a, cap, rfl, fun hl => absurd hl (by decide)⟩, by decide, bulk_one _, fun oa m' c e => by cases e; exact Nat.zero_le _⟩
    have hsp : a.spot = none := by
      obtain ⟨cs0, g1, _⟩ := hall 0 (by rw [hmm]; simp; omega)
      rw [cellsU8] at g1
      obtain ⟨_, hlen0, hcell0⟩ := World.cells?_some g1
      have g2 := hcell0 0 (by decide)
      rw [List.getElem?_eq_getElem (by omega)] at g2
      have := World.cell?_spot g2
      simpa [Addr.add] using this
    obtain ⟨b, o, sp⟩ := a
    obtain rfl : sp = none := hsp
    have hc : ∀ i, i < len → W.cell? ⟨b, o + i, none⟩ = some (B (byteAt W b (o + i))) := fun i hi => by
      obtain ⟨cs', h1, h2⟩ := hall i (by rw [hmm]; simp; omega)
      rw [cellsU8] at h1
      obtain ⟨_, hlen, hcell⟩ := World.cells?_some h1
      match cs', hlen with
      | [v0], _ =>
        obtain ⟨k, ek, _, wk⟩ := DataW.trod_int Tryd.underlying5 h2
        simp at ek
        subst ek
        have c0 := hcell 0 (by decide)
        have hk := bounds_u8 wk
        have hcl : W.cell? ⟨b, o + i, none⟩ = some (.int .u8 k) := by
          have := c0
          rw [Addr.add_mid, Addr.add_mid] at this
          simpa using this
        rw [hcl]
        unfold byteAt
        rw [hcl]
        show some (Value.int .u8 k) = some (Value.int .u8 _)
        congr 2
        simp
        omega
    refine ⟨(List.range len).map fun i => byteAt W b (o + i), ⟨some ⟨b, o, none⟩, cap, by simp, fun _ => ⟨b, o, rfl, ?_, fun j u hu => ?_⟩⟩, by simp; omega, ?_, fun oa m' c e => by cases e; omega⟩
    · exact World.block_lt_of_cell? W _ (hc 0 (by omega))
    · have hj : j < len := by have := (List.getElem?_eq_some_iff.1 hu).1; simpa using this
      simp [hj] at hu
      rw [hc j hj, hu]
    · have h2 := bulk_all ((List.range len).map D)
      rw [List.length_map, List.length_range] at h2
      rw [Rows.uptoBulk, List.length_map, List.length_range]
      omega
end Go.Proofs.YtgmgffcfmopgmaaDoor.wl

namespace Go.Proofs.YtgmgffcfmopgmaaDoor.wl
open Go.ChangeShapes Go.WideShapes Go.ChangeAt Go.RowKit Go.Joins Go.Deep Go.WideElems Go.Maps Go.Proofs.YtgmgffcfmopgmaaDoor.common Go.Proofs.YtgmgffcfmopgmaaDoor.dk

theorem weightsAll_memP {H : Type} {P : Program} {e : TypeId} {p : Nat → Bool} : ∀ (l : List (DataW H)), (DataW.weightsAll P e l).all p = true → ∀ d ∈ l, (d.weights P e).all p = true
  | [], _, d, hd => by cases hd
  | x :: r, h, d, hd => by
    rw [DataW.weightsAll, List.all_append, Bool.and_eq_true] at h
    rcases List.mem_cons.1 hd with rfl | hd
    · exact h.1
    · exact weightsAll_memP r h.2 d hd
theorem cellsStepP : Tryd.prog.cellsOf 48 = 4 := by kernel_rfl
theorem bytesStepP : Tryd.prog.bytesOf 48 = 48 := by kernel_rfl
/-- the payloads of a list of steps -/
def LsP (W : World) (v : Value) (L : List (List UInt8)) : Prop := ∃ oa cap, v = .slice oa L.length cap ∧ (0 < L.length → ∃ g o, oa = some ⟨g, o, none⟩ ∧ g < W.heap.size ∧ ∀ i (hi : i < L.length), ∃ u, W.cell? ⟨g, o + i * 4 + 3, none⟩ = some u ∧ Rd W u L[i])
theorem LsP.below {W W' : World} {v : Value} {L : List (List UInt8)} (h : LsP W v L) (hb : Below W.heap.size W W') : LsP W' v L := by
  obtain ⟨oa, cap, rfl, h⟩ := h
  refine ⟨oa, cap, rfl, fun h0 => ?_⟩
  obtain ⟨g, o, rfl, hg, hc⟩ := h h0
  refine ⟨g, o, rfl, Nat.lt_of_lt_of_le hg hb.size, fun i hi => ?_⟩
  obtain ⟨u, h1, h2⟩ := hc i hi
  exact ⟨u, by rw [World.cell?_of_block (hb.block g hg)]; exact h1, h2.below hb⟩
set_option maxRecDepth 100000 in
theorem stepsP_of {H : Type} {enc : TypeId × Value → H} {W : World} {fuel : Nat} {v : Value} {d : DataW H} {pl : List MemPlace}
    (h : DataW.trod enc Tryd.prog W 0 (fun _ => true) true fuel 42 [v] = some (d, pl)) (hsz : (d.weights Tryd.prog 42).all (· ≤ reachBytes) = true) :
    ∃ L, LsP W v L ∧ L.length ≤ 2932031007402 ∧ ∀ q ∈ L, q.length ≤ reachBytes := by
  rcases Deep.open_slice Tryd.underlying42 h with ⟨hcs, hx⟩ | ⟨a, len, cap, m, n, D, Pl, hcs, hb, hl, hm, hmm, hx, hall⟩
  · obtain rfl : v = .slice none 0 0 := by simpa using hcs
    exact ⟨[], ⟨none, 0, rfl, fun h0 => absurd h0 (by decide)⟩, by decide, fun q hq => by cases hq⟩
  · obtain rfl : v = .slice (some a) len cap := by simpa using hcs
    have hd : d = .slice ((List.range len).map D) ((List.range (m - len)).map fun j => D (len + j)) := (Prod.mk.inj hx).1
    subst hd
    simp only [DataW.weights, Tryd.underlying42, List.all_cons, List.all_append, Bool.and_eq_true] at hsz
    have hw0 := of_decide_eq_true hsz.1
    rw [bytesStepP] at hw0
    have hlen : len * 48 ≤ 140737488355328 := by
      simp at hw0
      unfold reachBytes at hw0
      omega
    by_cases h0 : len = 0
    · subst h0
      exact ⟨[], ⟨some a, cap, rfl, fun h0 => absurd h0 (by decide)⟩, by decide, fun q hq => by cases hq⟩
    have hsp : a.spot = none := by
      obtain ⟨cs0, g1, _⟩ := hall 0 (by rw [hmm]; simp; omega)
      rw [cellsStepP] at g1
      obtain ⟨_, hlen0, hcell0⟩ := World.cells?_some g1
      have g2 := hcell0 0 (by decide)
      rw [List.getElem?_eq_getElem (by omega)] at g2
      have := World.cell?_spot g2
      simpa [Addr.add] using this
    obtain ⟨b, o, sp⟩ := a
    obtain rfl : sp = none := hsp
    have each : ∀ i, ∃ q : List UInt8, i < len → q.length ≤ reachBytes ∧ ∃ u, W.cell? ⟨b, o + i * 4 + 3, none⟩ = some u ∧ Rd W u q := by
      intro i
      by_cases hi : i < len
      · have hwi := weightsAll_memP _ hsz.2.1 (D i) (List.mem_map.2 ⟨i, List.mem_range.2 hi, rfl⟩)
        obtain ⟨cs', h1, h2⟩ := hall i (by rw [hmm]; simp; omega)
        rw [cellsStepP] at h1
        obtain ⟨_, hlen', hcell⟩ := World.cells?_some h1
        match cs', hlen' with
        | [v0, v1, v2, v3], _ =>
          obtain ⟨y0, y1, y2, y3, n', hxy, _, t0, t1, t2, t3⟩ := trod_struct4 Tryd.underlying48 h2
          have t3' : DataW.trod enc Tryd.prog W 0 (fun _ => true) true n' 22 [v3] = some y3 := by rw [← t3]; rfl
          obtain ⟨d3, p3⟩ := y3
          obtain ⟨hDi, _⟩ := Prod.mk.inj hxy
          rw [hDi] at hwi
          have hw3 : (d3.weights Tryd.prog 22).all (· ≤ reachBytes) = true := by
            simp [DataW.weights, DataW.weightsEach, Tryd.underlying48] at hwi
            simpa using hwi.2.2.2
          obtain ⟨q, hr, hq, _⟩ := bytes_of t3' hw3
          have c3 := hcell 3 (by decide)
          have hcl : W.cell? ⟨b, o + i * 4 + 3, none⟩ = some v3 := by
            have := c3
            rw [Addr.add_mid, Addr.add_mid] at this
            simpa using this
          exact ⟨q, fun _ => ⟨hq, v3, hcl, hr⟩⟩
      · exact ⟨[], fun h => absurd h hi⟩
    obtain ⟨f, hf⟩ := Classical.axiomOfChoice each
    have hln : ((List.range len).map f).length = len := by simp
    refine ⟨(List.range len).map f, ⟨some ⟨b, o, none⟩, cap, by rw [hln], fun _ => ⟨b, o, rfl, ?_, fun i hi => ?_⟩⟩, by rw [hln]; omega, fun q hq => ?_⟩
    · obtain ⟨_, u, hu, _⟩ := hf 0 (by omega)
      exact World.block_lt_of_cell? W _ hu
    · rw [hln] at hi
      obtain ⟨_, u, hu, hr⟩ := hf i hi
      exact ⟨u, hu, by simpa using hr⟩
    · obtain ⟨i, hi, rfl⟩ := List.mem_map.1 hq
      exact (hf i (List.mem_range.1 hi)).1
theorem cellsPlay : Tryd.prog.cellsOf 44 = 3 := by kernel_rfl
end Go.Proofs.YtgmgffcfmopgmaaDoor.wl

namespace Go.Proofs.YtgmgffcfmopgmaaDoor.wl
open Go.ChangeShapes Go.WideShapes Go.ChangeAt Go.RowKit Go.Joins Go.Deep Go.WideElems Go.Maps Go.Proofs.YtgmgffcfmopgmaaDoor.common Go.Proofs.YtgmgffcfmopgmaaDoor.dk

/-- a step -/
structure Stp where
  k : Int
  n : Int
  m : Int
  q : List UInt8
abbrev stv (s : Stp) (u : Value) : List Value := [.int .i64 s.k, .int .i64 s.n, .int .i64 s.m, u]
/-- a list of steps -/
def LsS (W : World) (v : Value) (L : List Stp) : Prop := ∃ oa cap, v = .slice oa L.length cap ∧ (0 < L.length → ∃ g o, oa = some ⟨g, o, none⟩ ∧ g < W.heap.size ∧ ∀ i (hi : i < L.length), ∃ u, W.rangeAt g (o + i * 4) (stv L[i] u) ∧ Rd W u L[i].q)
theorem LsS.below {W W' : World} {v : Value} {L : List Stp} (h : LsS W v L) (hb : Below W.heap.size W W') : LsS W' v L := by
  obtain ⟨oa, cap, rfl, h⟩ := h
  refine ⟨oa, cap, rfl, fun h0 => ?_⟩
  obtain ⟨g, o, rfl, hg, hc⟩ := h h0
  refine ⟨g, o, rfl, Nat.lt_of_lt_of_le hg hb.size, fun i hi => ?_⟩
  obtain ⟨u, h1, h2⟩ := hc i hi
  exact ⟨u, range_block h1 (hb.block g hg), h2.below hb⟩
theorem four_cells {W : World} {b o : Nat} {c0 c1 c2 c3 : Value} (h0 : W.cell? ⟨b, o, none⟩ = some c0) (h1 : W.cell? ⟨b, o + 1, none⟩ = some c1) (h2 : W.cell? ⟨b, o + 2, none⟩ = some c2) (h3 : W.cell? ⟨b, o + 3, none⟩ = some c3) : W.rangeAt b o [c0, c1, c2, c3] := fun j u hu => by
  match j, hu with
  | 0, hu => cases hu; exact h0
  | 1, hu => cases hu; exact h1
  | 2, hu => cases hu; exact h2
  | 3, hu => cases hu; exact h3
/-- steps that may be -/
def StpOk (s : Stp) : Prop := s.q.length ≤ reachBytes ∧ s.n ≤ 9223372036854775807 ∧ -9223372036854775808 ≤ s.m ∧ s.m ≤ 9223372036854775807
set_option maxRecDepth 100000 in
theorem stepsS_of {H : Type} {enc : TypeId × Value → H} {W : World} {fuel : Nat} {v : Value} {d : DataW H} {pl : List MemPlace}
    (h : DataW.trod enc Tryd.prog W 0 (fun _ => true) true fuel 42 [v] = some (d, pl)) (hsz : (d.weights Tryd.prog 42).all (· ≤ reachBytes) = true) :
    ∃ L, LsS W v L ∧ L.length ≤ 2932031007402 ∧ ∀ s ∈ L, StpOk s := by
  rcases Deep.open_slice Tryd.underlying42 h with ⟨hcs, hx⟩ | ⟨a, len, cap, m, n, D, Pl, hcs, hb, hl, hm, hmm, hx, hall⟩
  · obtain rfl : v = .slice none 0 0 := by simpa using hcs
    exact ⟨[], ⟨none, 0, rfl, fun h0 => absurd h0 (by decide)⟩, by decide, fun q hq => by cases hq⟩
  · obtain rfl : v = .slice (some a) len cap := by simpa using hcs
    have hd : d = .slice ((List.range len).map D) ((List.range (m - len)).map fun j => D (len + j)) := (Prod.mk.inj hx).1
    subst hd
    simp only [DataW.weights, Tryd.underlying42, List.all_cons, List.all_append, Bool.and_eq_true] at hsz
    have hw0 := of_decide_eq_true hsz.1
    rw [bytesStepP] at hw0
    have hlen : len * 48 ≤ 140737488355328 := by
      simp at hw0
      unfold reachBytes at hw0
      omega
    by_cases h0 : len = 0
    · subst h0
      exact ⟨[], ⟨some a, cap, rfl, fun h0 => absurd h0 (by decide)⟩, by decide, fun q hq => by cases hq⟩
    have hsp : a.spot = none := by
      obtain ⟨cs0, g1, _⟩ := hall 0 (by rw [hmm]; simp; omega)
      rw [cellsStepP] at g1
      obtain ⟨_, hlen0, hcell0⟩ := World.cells?_some g1
      have g2 := hcell0 0 (by decide)
      rw [List.getElem?_eq_getElem (by omega)] at g2
      have := World.cell?_spot g2
      simpa [Addr.add] using this
    obtain ⟨b, o, sp⟩ := a
    obtain rfl : sp = none := hsp
    have each : ∀ i, ∃ s : Stp, i < len → StpOk s ∧ ∃ u, W.rangeAt b (o + i * 4) (stv s u) ∧ Rd W u s.q := by
      intro i
      by_cases hi : i < len
      · have hwi := weightsAll_memP _ hsz.2.1 (D i) (List.mem_map.2 ⟨i, List.mem_range.2 hi, rfl⟩)
        obtain ⟨cs', h1, h2⟩ := hall i (by rw [hmm]; simp; omega)
        rw [cellsStepP] at h1
        obtain ⟨_, hlen', hcell⟩ := World.cells?_some h1
        match cs', hlen' with
        | [v0, v1, v2, v3], _ =>
          obtain ⟨y0, y1, y2, y3, n', hxy, _, t0, t1, t2, t3⟩ := trod_struct4 Tryd.underlying48 h2
          have t0' : DataW.trod enc Tryd.prog W 0 (fun _ => true) true n' 3 [v0] = some y0 := by rw [← t0]; rfl
          have t1' : DataW.trod enc Tryd.prog W 0 (fun _ => true) true n' 3 [v1] = some y1 := by rw [← t1]; rfl
          have t2' : DataW.trod enc Tryd.prog W 0 (fun _ => true) true n' 3 [v2] = some y2 := by rw [← t2]; rfl
          have t3' : DataW.trod enc Tryd.prog W 0 (fun _ => true) true n' 22 [v3] = some y3 := by rw [← t3]; rfl
          obtain ⟨d3, p3⟩ := y3
          obtain ⟨hDi, _⟩ := Prod.mk.inj hxy
          rw [hDi] at hwi
          have hw3 : (d3.weights Tryd.prog 22).all (· ≤ reachBytes) = true := by
            simp [DataW.weights, DataW.weightsEach, Tryd.underlying48] at hwi
            simpa using hwi.2.2.2
          obtain ⟨x0, e0, rfl, w0⟩ := DataW.trod_int Tryd.underlying3 t0'
          obtain ⟨x1, e1, rfl, w1⟩ := DataW.trod_int Tryd.underlying3 t1'
          obtain ⟨x2, e2, rfl, w2⟩ := DataW.trod_int Tryd.underlying3 t2'
          simp at e0 e1 e2
          subst e0 e1 e2
          obtain ⟨q, hr, hq, _⟩ := bytes_of t3' hw3
          have c0 := hcell 0 (by decide)
          have c1 := hcell 1 (by decide)
          have c2 := hcell 2 (by decide)
          have c3 := hcell 3 (by decide)
          rw [Addr.add_mid, Addr.add_mid] at c0 c1 c2 c3
          have b1 := bounds_i64 w1
          have b2 := bounds_i64 w2
          exact ⟨⟨x0, x1, x2, q⟩, fun _ => ⟨⟨hq, by have := b1.2; show x1 ≤ _; omega, by have := b2.1; show _ ≤ x2; omega, by have := b2.2; show x2 ≤ _; omega⟩, v3, four_cells (by simpa using c0) (by simpa using c1) (by simpa using c2) (by simpa using c3), hr⟩⟩
      · exact ⟨⟨0, 0, 0, []⟩, fun h => absurd h hi⟩
    obtain ⟨f, hf⟩ := Classical.axiomOfChoice each
    have hln : ((List.range len).map f).length = len := by simp
    refine ⟨(List.range len).map f, ⟨some ⟨b, o, none⟩, cap, by rw [hln], fun _ => ⟨b, o, rfl, ?_, fun i hi => ?_⟩⟩, by rw [hln]; omega, fun q hq => ?_⟩
    · obtain ⟨_, u, hu, _⟩ := hf 0 (by omega)
      exact World.block_lt_of_cell? W _ (hu 0 _ rfl)
    · rw [hln] at hi
      obtain ⟨_, u, hu, hr⟩ := hf i hi
      exact ⟨u, by simpa using hu, by simpa using hr⟩
    · obtain ⟨i, hi, rfl⟩ := List.mem_map.1 hq
      exact (hf i (List.mem_range.1 hi)).1
end Go.Proofs.YtgmgffcfmopgmaaDoor.wl
