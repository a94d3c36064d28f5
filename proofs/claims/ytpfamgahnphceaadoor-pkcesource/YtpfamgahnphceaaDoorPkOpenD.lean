import Derived.Test.YtpfamgahnphceaaDoorPkSourceL
import Derived.Test.YtpfamgahnphceaaDoorStrOpen
import Derived.Deep.Slices
import Derived.Deep.Strs
import Derived.Lib.SmallJoins
namespace Go.Proofs.YtpfamgahnphceaaDoor.pk
open Go.ChangeShapes Go.WideShapes Go.ChangeAt Go.RowKit Go.Joins Go.Deep Go.WideElems Go.Maps Go.Proofs.YtpfamgahnphceaaDoor.common

theorem cellsDraw : Tryd.prog.cellsOf 45 = 3 := by kernel_rfl
theorem bytesDraw : Tryd.prog.bytesOf 45 = 32 := by kernel_rfl
set_option maxRecDepth 100000 in
theorem draws_of {H : Type} {enc : TypeId × Value → H} {W : World} {b0 : Nat} {v : Value} {d : DataW H} {p : List MemPlace} (hv : Value.okWide Tryd.prog W .any b0 38 v)
    (h : DataW.Trod enc Tryd.prog W 0 (fun _ => true) true 38 v d p) (hw : (d.weights Tryd.prog 38).all (· ≤ reachBytes) = true) :
    ∃ l, LiesD W v l ∧ l.length * 32 ≤ reachBytes := by
  obtain ⟨a0, len, cap, rfl⟩ := okWide_slice Tryd.underlying38 hv
  obtain ⟨fuel, hf⟩ := h
  rcases Deep.open_slice Tryd.underlying38 hf with ⟨hcs, _⟩ | ⟨a, l, c, m, n, D, Pl, hcs, hb, hl, hm, hmm, hx, hall⟩
  · simp [Value.cells] at hcs
    obtain ⟨rfl, rfl, rfl⟩ := hcs
    exact ⟨[], ⟨none, 0, rfl, fun i hi => absurd hi (Nat.not_lt_zero _)⟩, Nat.zero_le _⟩
  · simp [Value.cells] at hcs
    obtain ⟨rfl, rfl, rfl⟩ := hcs
    have hd : d = .slice ((List.range len).map D) ((List.range (m - len)).map fun j => D (len + j)) := (Prod.mk.inj hx).1
    subst hd
    simp only [DataW.weights, Tryd.underlying38, List.all_cons, List.all_append, Bool.and_eq_true] at hw
    have each : ∀ i, ∃ q : Dr, i < len → ∃ b o, a = ⟨b, o, none⟩ ∧ b < W.heap.size ∧ W.cell? ⟨b, o + i * 3, none⟩ = some (.int .i64 q.1) ∧ W.cell? ⟨b, o + i * 3 + 1, none⟩ = some (.int .i64 q.2.1) ∧ W.cell? ⟨b, o + i * 3 + 2, none⟩ = some (.string q.2.2) ∧ -9223372036854775808 ≤ q.1 ∧ q.1 ≤ 9223372036854775807 := by
      intro i
      by_cases hi : i < len
      · obtain ⟨cs', h1, h2⟩ := hall i (by rw [hmm]; simp; omega)
        rw [cellsDraw] at h1
        obtain ⟨_, hlen, hcell⟩ := World.cells?_some h1
        match cs', hlen with
        | [v0, v1, v2], _ =>
          obtain ⟨y0, y1, y2, n', hxy, _, t0, t1, t2⟩ := trod_struct3 Tryd.underlying45 h2
          have t0' : DataW.trod enc Tryd.prog W 0 (fun _ => true) true n' 3 [v0] = some y0 := by rw [← t0]; rfl
          have t1' : DataW.trod enc Tryd.prog W 0 (fun _ => true) true n' 3 [v1] = some y1 := by rw [← t1]; rfl
          have t2' : DataW.trod enc Tryd.prog W 0 (fun _ => true) true n' 9 [v2] = some y2 := by rw [← t2]; rfl
          obtain ⟨x, ex, rfl, wx⟩ := DataW.trod_int Tryd.underlying3 t0'
          obtain ⟨y, ey, rfl, wy⟩ := DataW.trod_int Tryd.underlying3 t1'
          obtain ⟨t, et, rfl, wt⟩ := DataW.trod_string Tryd.underlying9 t2'
          simp at ex et ey
          subst ex et ey
          have c0 := hcell 0 (by decide)
          have c1 := hcell 1 (by decide)
          have c2 := hcell 2 (by decide)
          have hsp : a.spot = none := by
            have q0 := hall 0 (by rw [hmm]; simp; omega)
            obtain ⟨cs0, g1, _⟩ := q0
            rw [cellsDraw] at g1
            obtain ⟨_, hlen0, hcell0⟩ := World.cells?_some g1
            have g2 := hcell0 0 (by decide)
            rw [List.getElem?_eq_getElem (by omega)] at g2
            have := World.cell?_spot g2
            simpa [Addr.add] using this
          obtain ⟨b, o, sp⟩ := a
          simp at hsp
          subst hsp
          rw [Addr.add_mid, Addr.add_mid] at c0 c1 c2
          have c0' : W.cell? ⟨b, o + i * 3, none⟩ = some (.int .i64 x) := by simpa using c0
          exact ⟨(x, y, t), fun _ => ⟨b, o, rfl, World.block_lt_of_cell? W _ c0', c0', by simpa using c1, by simpa using c2, (bounds_i64 wx).1, (bounds_i64 wx).2⟩⟩
      · exact ⟨(0, 0, ByteArray.empty), fun h => absurd h hi⟩
    obtain ⟨f, hf2⟩ := Classical.axiomOfChoice each
    have hlen : ((List.range len).map f).length = len := by simp
    refine ⟨(List.range len).map f, ⟨some a, cap, by rw [hlen], fun i hi => ?_⟩, ?_⟩
    · rw [hlen] at hi
      obtain ⟨b, o, rfl, hb, c0, c1, c2, c3⟩ := hf2 i hi
      exact ⟨b, o, rfl, hb, by simpa using c0, by simpa using c1, by simpa using c2, by simpa using c3⟩
    · rw [hlen]
      have h1 := hw.1
      rw [bytesDraw] at h1
      simp at h1
      omega

end Go.Proofs.YtpfamgahnphceaaDoor.pk
