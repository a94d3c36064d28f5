import Derived.Test.YtaeleccngpfngaaSentKit
import Derived.Test.YtaeleccngpfngaaListOpen
namespace Go.Proofs.Ytaeleccngpfngaa.sent
open Go.ChangeShapes Go.WideShapes Go.ChangeAt Go.RowKit Go.Joins Go.Deep Go.WideElems Go.Maps Go.Proofs.Ytaeleccngpfngaa.common Go.Proofs.Ytaeleccngpfngaa.lst

theorem cellsInput : Try.prog.cellsOf 29 = 4 := by kernel_rfl
theorem bytesInput : Try.prog.bytesOf 29 = 56 := by kernel_rfl

/-- an input as it is read -/
def datI {H : Type} (x : Inp) : DataW H := .agg [.lit (.int .i64 x.kind), .lit (.string x.name.data.toList), .lit (.string x.value.data.toList), .lit (.string x.label.data.toList)]

set_option maxRecDepth 100000 in
theorem inputs_of {H : Type} {enc : TypeId × Value → H} {W : World} {fuel : Nat} {v : Value} {d : DataW H} {pl : List MemPlace}
    (h : DataW.trod enc Try.prog W 0 (fun _ => true) true fuel 22 [v] = some (d, pl)) (hsz : (d.weights Try.prog 22).all (· ≤ reachBytes) = true) :
    ∃ l, LiesI W v l ∧ l.length * 56 ≤ reachBytes ∧ FitsI l := by
  rcases Deep.open_slice Try.underlying22 h with ⟨hcs, hx⟩ | ⟨a, len, cap, m, n, D, Pl, hcs, hb, hl, hm, hmm, hx, hall⟩
  · obtain rfl : v = .slice none 0 0 := by simpa using hcs
    exact ⟨[], ⟨none, 0, rfl, fun i hi => absurd hi (Nat.not_lt_zero _)⟩, by decide, fun p hp => (by cases hp)⟩
  · obtain rfl : v = .slice (some a) len cap := by simpa using hcs
    have hd : d = .slice ((List.range len).map D) ((List.range (m - len)).map fun j => D (len + j)) := (Prod.mk.inj hx).1
    subst hd
    simp only [DataW.weights, Try.underlying22, List.all_cons, List.all_append, Bool.and_eq_true] at hsz
    have each : ∀ i, ∃ p : Inp, i < len → (-9223372036854775808 ≤ p.kind ∧ p.kind ≤ 9223372036854775807 ∧ p.name.size ≤ maxLen ∧ p.value.size ≤ maxLen) ∧ ∃ b o, a = ⟨b, o, none⟩ ∧ b < W.heap.size ∧ W.cell? ⟨b, o + i * 4, none⟩ = some (.int .i64 p.kind) ∧ W.cell? ⟨b, o + i * 4 + 1, none⟩ = some (.string p.name) ∧ W.cell? ⟨b, o + i * 4 + 2, none⟩ = some (.string p.value) ∧ W.cell? ⟨b, o + i * 4 + 3, none⟩ = some (.string p.label) := by
      intro i
      by_cases hi : i < len
      · have hwi := weightsAll_mem _ hsz.2.1 (D i) (List.mem_map.2 ⟨i, List.mem_range.2 hi, rfl⟩)
        obtain ⟨cs', h1, h2⟩ := hall i (by rw [hmm]; simp; omega)
        rw [cellsInput] at h1
        obtain ⟨_, hlen, hcell⟩ := World.cells?_some h1
        match cs', hlen with
        | [v0, v1, v2, v3], _ =>
          obtain ⟨y0, y1, y2, y3, n', hxy, _, t0, t1, t2, t3⟩ := trod_struct4 Try.underlying29 h2
          have t0' : DataW.trod enc Try.prog W 0 (fun _ => true) true n' 3 [v0] = some y0 := by rw [← t0]; rfl
          have t1' : DataW.trod enc Try.prog W 0 (fun _ => true) true n' 9 [v1] = some y1 := by rw [← t1]; rfl
          have t2' : DataW.trod enc Try.prog W 0 (fun _ => true) true n' 9 [v2] = some y2 := by rw [← t2]; rfl
          have t3' : DataW.trod enc Try.prog W 0 (fun _ => true) true n' 9 [v3] = some y3 := by rw [← t3]; rfl
          obtain ⟨x, ex, rfl, wx⟩ := DataW.trod_int Try.underlying3 t0'
          obtain ⟨s, es, rfl, _⟩ := DataW.trod_string Try.underlying9 t1'
          obtain ⟨t, et, rfl, _⟩ := DataW.trod_string Try.underlying9 t2'
          obtain ⟨u, eu, rfl, _⟩ := DataW.trod_string Try.underlying9 t3'
          simp at ex es et eu
          subst ex es et eu
          have hDi : D i = datI ⟨x, s, t, u⟩ := (Prod.mk.inj hxy).1
          rw [hDi] at hwi
          have hts : s.size ≤ reachBytes ∧ t.size ≤ reachBytes ∧ u.size ≤ reachBytes := by
            simp [datI, DataW.weights, DataW.weightsEach, Try.underlying29] at hwi
            simpa using hwi
          have c0 := hcell 0 (by decide)
          have c1 := hcell 1 (by decide)
          have c2 := hcell 2 (by decide)
          have c3 := hcell 3 (by decide)
          have hsp : a.spot = none := by
            have q0 := hall 0 (by rw [hmm]; simp; omega)
            obtain ⟨cs0, g1, _⟩ := q0
            rw [cellsInput] at g1
            obtain ⟨_, hlen0, hcell0⟩ := World.cells?_some g1
            have g2 := hcell0 0 (by decide)
            rw [List.getElem?_eq_getElem (by omega)] at g2
            have := World.cell?_spot g2
            simpa [Addr.add] using this
          obtain ⟨b, o, sp⟩ := a
          simp at hsp
          subst hsp
          rw [Addr.add_mid, Addr.add_mid] at c0 c1 c2 c3
          have c0' : W.cell? ⟨b, o + i * 4, none⟩ = some (.int .i64 x) := by simpa using c0
          have hbx := bounds_i64 wx
          have hr : reachBytes ≤ maxLen := by decide
          exact ⟨⟨x, s, t, u⟩, fun _ => ⟨⟨hbx.1, hbx.2, Nat.le_trans hts.1 hr, Nat.le_trans hts.2.1 hr⟩, b, o, rfl, World.block_lt_of_cell? W _ c0', c0', by simpa using c1, by simpa using c2, by simpa using c3⟩⟩
      · exact ⟨⟨0, ByteArray.empty, ByteArray.empty, ByteArray.empty⟩, fun h => absurd h hi⟩
    obtain ⟨f, hf⟩ := Classical.axiomOfChoice each
    have hlen : ((List.range len).map f).length = len := by simp
    refine ⟨(List.range len).map f, ⟨some a, cap, by rw [hlen], fun i hi => ?_⟩, ?_, ?_⟩
    · rw [hlen] at hi
      obtain ⟨_, b, o, rfl, hb, c0, c1, c2, c3⟩ := hf i hi
      exact ⟨b, o, rfl, hb, by simpa using c0, by simpa using c1, by simpa using c2, by simpa using c3⟩
    · rw [hlen]
      have h1 := hsz.1
      rw [bytesInput] at h1
      simp at h1
      omega
    · intro p hp
      obtain ⟨i, hi, rfl⟩ := List.mem_map.1 hp
      exact (hf i (List.mem_range.1 hi)).1

theorem getD_at (l : List PB) (k : Nat) (h : k < l.length) : l.getD k (⟨#[]⟩, ⟨#[]⟩) = l[k] := by simp [List.getD, List.getElem?_eq_getElem h]
theorem fits_of {l : List PB} (h : ∀ p ∈ l, p.1.size ≤ reachBytes ∧ p.2.size ≤ reachBytes) : Fits l := by
  have hr : reachBytes ≤ maxLen := by decide
  intro k
  by_cases hk : k < l.length
  · rw [getD_at l k hk]
    exact ⟨Nat.le_trans (h _ (List.getElem_mem hk)).1 hr, Nat.le_trans (h _ (List.getElem_mem hk)).2 hr⟩
  · rw [List.getD, List.getElem?_eq_none (by omega)]
    exact ⟨Nat.zero_le _, Nat.zero_le _⟩

end Go.Proofs.Ytaeleccngpfngaa.sent
