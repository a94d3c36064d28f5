import Derived.Test.YtkamnkldgeaaaaaDoorDkPair
import Derived.Deep.Slices
import Derived.Lib.SmallJoins
namespace Go.Proofs.YtkamnkldgeaaaaaDoor.dk
open Go.ChangeShapes Go.WideShapes Go.ChangeAt Go.RowKit Go.Joins Go.Deep Go.WideElems Go.Maps Go.Proofs.YtkamnkldgeaaaaaDoor.common

theorem weightsAll_mem {H : Type} {P : Program} {e : TypeId} {p : Nat → Bool} : ∀ (l : List (DataW H)), (DataW.weightsAll P e l).all p = true → ∀ d ∈ l, (d.weights P e).all p = true
  | [], _, d, hd => by cases hd
  | x :: r, h, d, hd => by
    rw [DataW.weightsAll, List.all_append, Bool.and_eq_true] at h
    rcases List.mem_cons.1 hd with rfl | hd
    · exact h.1
    · exact weightsAll_mem r h.2 d hd
theorem cellsStep : Tryd.prog.cellsOf 38 = 5 := by kernel_rfl
theorem bytesStep : Tryd.prog.bytesOf 38 = 48 := by kernel_rfl
theorem trod_struct5 {H : Type} {enc : TypeId × Value → H} {P : Program} {w : World} {base : Nat} {spare : Nat → Bool} {held : Bool} {t : TypeId} {f0 f1 f2 f3 f4 : Field} {fuel : Nat} {cs : List Value} {x : DataW H × List MemPlace} (ht : P.underlying t = some (.struct #[f0, f1, f2, f3, f4])) (h : DataW.trod enc P w base spare held fuel t cs = some x) :
    ∃ y0 y1 y2 y3 y4 n, x.1 = .agg [y0.1, y1.1, y2.1, y3.1, y4.1] ∧ cs.length = P.cellsOf t ∧ DataW.trod enc P w base spare held n f0.type ((cs.drop f0.offset).take (P.cellsOf f0.type)) = some y0 ∧
      DataW.trod enc P w base spare held n f1.type ((cs.drop f1.offset).take (P.cellsOf f1.type)) = some y1 ∧ DataW.trod enc P w base spare held n f2.type ((cs.drop f2.offset).take (P.cellsOf f2.type)) = some y2 ∧
      DataW.trod enc P w base spare held n f3.type ((cs.drop f3.offset).take (P.cellsOf f3.type)) = some y3 ∧ DataW.trod enc P w base spare held n f4.type ((cs.drop f4.offset).take (P.cellsOf f4.type)) = some y4 := by
  obtain ⟨xs, n, _, rfl, hl, hlen, hf⟩ := DataW.trod_struct ht h
  match xs, hlen with
  | [y0, y1, y2, y3, y4], _ => exact ⟨y0, y1, y2, y3, y4, n, by simp, hl, by simpa using hf 0 f0 rfl, by simpa using hf 1 f1 rfl, by simpa using hf 2 f2 rfl, by simpa using hf 3 f3 rfl, by simpa using hf 4 f4 rfl⟩
theorem five_cells {W : World} {b o : Nat} {c0 c1 c2 c3 c4 : Value} (h0 : W.cell? ⟨b, o, none⟩ = some c0) (h1 : W.cell? ⟨b, o + 1, none⟩ = some c1) (h2 : W.cell? ⟨b, o + 2, none⟩ = some c2) (h3 : W.cell? ⟨b, o + 3, none⟩ = some c3) (h4 : W.cell? ⟨b, o + 4, none⟩ = some c4) : W.rangeAt b o [c0, c1, c2, c3, c4] := fun j u hu => by
  match j, hu with
  | 0, hu => cases hu; exact h0
  | 1, hu => cases hu; exact h1
  | 2, hu => cases hu; exact h2
  | 3, hu => cases hu; exact h3
  | 4, hu => cases hu; exact h4

set_option maxRecDepth 100000 in
theorem steps_of {H : Type} {enc : TypeId × Value → H} {W : World} {fuel : Nat} {v : Value} {d : DataW H} {pl : List MemPlace}
    (h : DataW.trod enc Tryd.prog W 0 (fun _ => true) true fuel 22 [v] = some (d, pl)) (hsz : (d.weights Tryd.prog 22).all (· ≤ reachBytes) = true) :
    ∃ ss, LiesP W v ss ∧ Steps ss := by
  rcases Deep.open_slice Tryd.underlying22 h with ⟨hcs, hx⟩ | ⟨a, len, cap, m, n, D, Pl, hcs, hb, hl, hm, hmm, hx, hall⟩
  · obtain rfl : v = .slice none 0 0 := by simpa using hcs
    exact ⟨[], ⟨none, 0, rfl, fun i hi => absurd hi (Nat.not_lt_zero _)⟩, ⟨by decide, fun s hs => (by cases hs), fun s hs => (by cases hs)⟩⟩
  · obtain rfl : v = .slice (some a) len cap := by simpa using hcs
    have hd : d = .slice ((List.range len).map D) ((List.range (m - len)).map fun j => D (len + j)) := (Prod.mk.inj hx).1
    subst hd
    simp only [DataW.weights, Tryd.underlying22, List.all_cons, List.all_append, Bool.and_eq_true] at hsz
    have hw0 := of_decide_eq_true hsz.1
    rw [bytesStep] at hw0
    have hlen : len * 48 ≤ 140737488355328 := by
      simp at hw0
      unfold reachBytes at hw0
      omega
    have each : ∀ i, ∃ s : Sp, i < len → (s.t.size ≤ reachBytes ∧ s.n ≤ 9223372036854775807 ∧ -9223372036854775808 ≤ s.m ∧ s.m ≤ 9223372036854775807) ∧ ∃ b o, a = ⟨b, o, none⟩ ∧ b < W.heap.size ∧ W.rangeAt b (o + i * 5) (spc s) := by
      intro i
      by_cases hi : i < len
      · have hwi := weightsAll_mem _ hsz.2.1 (D i) (List.mem_map.2 ⟨i, List.mem_range.2 hi, rfl⟩)
        obtain ⟨cs', h1, h2⟩ := hall i (by rw [hmm]; simp; omega)
        rw [cellsStep] at h1
        obtain ⟨_, hlen', hcell⟩ := World.cells?_some h1
        match cs', hlen' with
        | [v0, v1, v2, v3, v4], _ =>
          obtain ⟨y0, y1, y2, y3, y4, n', hxy, _, t0, t1, t2, t3, t4⟩ := trod_struct5 Tryd.underlying38 h2
          have t0' : DataW.trod enc Tryd.prog W 0 (fun _ => true) true n' 3 [v0] = some y0 := by rw [← t0]; rfl
          have t1' : DataW.trod enc Tryd.prog W 0 (fun _ => true) true n' 3 [v1] = some y1 := by rw [← t1]; rfl
          have t2' : DataW.trod enc Tryd.prog W 0 (fun _ => true) true n' 3 [v2] = some y2 := by rw [← t2]; rfl
          have t3' : DataW.trod enc Tryd.prog W 0 (fun _ => true) true n' 3 [v3] = some y3 := by rw [← t3]; rfl
          have t4' : DataW.trod enc Tryd.prog W 0 (fun _ => true) true n' 9 [v4] = some y4 := by rw [← t4]; rfl
          obtain ⟨x0, e0, rfl, w0⟩ := DataW.trod_int Tryd.underlying3 t0'
          obtain ⟨x1, e1, rfl, w1⟩ := DataW.trod_int Tryd.underlying3 t1'
          obtain ⟨x2, e2, rfl, w2⟩ := DataW.trod_int Tryd.underlying3 t2'
          obtain ⟨x3, e3, rfl, w3⟩ := DataW.trod_int Tryd.underlying3 t3'
          obtain ⟨t, et, rfl, _⟩ := DataW.trod_string Tryd.underlying9 t4'
          simp at e0 e1 e2 e3 et
          subst e0 e1 e2 e3 et
          have hDi : D i = .agg [.lit (.int .i64 x0), .lit (.int .i64 x1), .lit (.int .i64 x2), .lit (.int .i64 x3), .lit (.string t.data.toList)] := hxy
          rw [hDi] at hwi
          have hts : t.size ≤ reachBytes := by
            simp [DataW.weights, DataW.weightsEach, Tryd.underlying38] at hwi
            simpa using hwi
          have c0 := hcell 0 (by decide)
          have c1 := hcell 1 (by decide)
          have c2 := hcell 2 (by decide)
          have c3 := hcell 3 (by decide)
          have c4 := hcell 4 (by decide)
          have hsp : a.spot = none := by
            have q0 := hall 0 (by rw [hmm]; simp; omega)
            obtain ⟨cs0, g1, _⟩ := q0
            rw [cellsStep] at g1
            obtain ⟨_, hlen0, hcell0⟩ := World.cells?_some g1
            have g2 := hcell0 0 (by decide)
            rw [List.getElem?_eq_getElem (by omega)] at g2
            have := World.cell?_spot g2
            simpa [Addr.add] using this
          obtain ⟨b, o, sp⟩ := a
          simp at hsp
          subst hsp
          rw [Addr.add_mid, Addr.add_mid] at c0 c1 c2 c3 c4
          have c0' : W.cell? ⟨b, o + i * 5, none⟩ = some (.int .i64 x0) := by simpa using c0
          have b2 := bounds_i64 w2
          have b3 := bounds_i64 w3
          exact ⟨⟨x0, x1, x2, x3, t⟩, fun _ => ⟨⟨hts, by have := b2.2; omega, by have := b3.1; omega, by have := b3.2; omega⟩, b, o, rfl, World.block_lt_of_cell? W _ c0', five_cells c0' (by simpa using c1) (by simpa using c2) (by simpa using c3) (by simpa using c4)⟩⟩
      · exact ⟨⟨0, 0, 0, 0, ByteArray.empty⟩, fun h => absurd h hi⟩
    obtain ⟨f, hf⟩ := Classical.axiomOfChoice each
    have hln : ((List.range len).map f).length = len := by simp
    refine ⟨(List.range len).map f, ⟨some a, cap, by rw [hln], fun i hi => ?_⟩, ⟨by rw [hln]; omega, fun s hs => ?_, fun s hs => ?_⟩⟩
    · rw [hln] at hi
      obtain ⟨_, b, o, rfl, hb, hr⟩ := hf i hi
      exact ⟨b, o, rfl, hb, by simpa using hr⟩
    · obtain ⟨i, hi, rfl⟩ := List.mem_map.1 hs
      exact (hf i (List.mem_range.1 hi)).1.1
    · obtain ⟨i, hi, rfl⟩ := List.mem_map.1 hs
      exact (hf i (List.mem_range.1 hi)).1.2
theorem cellsScript : Tryd.prog.cellsOf 24 = 4 := by kernel_rfl
end Go.Proofs.YtkamnkldgeaaaaaDoor.dk
