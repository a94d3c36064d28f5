import Derived.Test.YtpfamgahnphceaaDoorPkOnceL
import Derived.Test.YtpfamgahnphceaaDoorStrOpen
namespace Go.Proofs.YtpfamgahnphceaaDoor.pk
open Go.ChangeShapes Go.WideShapes Go.ChangeAt Go.RowKit Go.Joins Go.Proofs.YtpfamgahnphceaaDoor.common Go.Proofs.YtpfamgahnphceaaDoor.bk
open Go.WideMaps Go.WideElems

theorem bytesBool : Tryd.prog.bytesOf 4 = 1 := by kernel_rfl
theorem cellsBool1 : Tryd.prog.cellsOf 4 = 1 := by kernel_rfl
theorem cellsLine : Tryd.prog.cellsOf 25 = 2 := by kernel_rfl

set_option maxRecDepth 100000 in
/-- a list of flags as an argument -/
theorem bools_of {H : Type} {enc : TypeId × Value → H} {W : World} {fuel : Nat} {v : Value} {d : DataW H} {pl : List MemPlace}
    (h : DataW.trod enc Tryd.prog W 0 (fun _ => true) true fuel 23 [v] = some (d, pl)) (hw : (d.weights Tryd.prog 23).all (· ≤ reachBytes) = true) :
    ∃ l, LiesB W v l ∧ l.length ≤ reachBytes := by
  rcases Deep.open_slice Tryd.underlying23 h with ⟨hcs, hx⟩ | ⟨a, len, cap, m, n, D, Pl, hcs, hb, hl, hm, hmm, hx, hall⟩
  · obtain rfl : v = .slice none 0 0 := by simpa using hcs
    exact ⟨[], ⟨none, 0, rfl, fun i hi => absurd hi (Nat.not_lt_zero _)⟩, Nat.zero_le _⟩
  · obtain rfl : v = .slice (some a) len cap := by simpa using hcs
    have hd : d = .slice ((List.range len).map D) ((List.range (m - len)).map fun j => D (len + j)) := (Prod.mk.inj hx).1
    subst hd
    simp only [DataW.weights, Tryd.underlying23, List.all_cons, List.all_append, Bool.and_eq_true] at hw
    have each : ∀ i, ∃ p : Bool, i < len → ∃ b o, a = ⟨b, o, none⟩ ∧ b < W.heap.size ∧ W.cell? ⟨b, o + i, none⟩ = some (.bool p) := by
      intro i
      by_cases hi : i < len
      · obtain ⟨cs', h1, h2⟩ := hall i (by rw [hmm]; simp; omega)
        rw [cellsBool1] at h1
        obtain ⟨_, hlen, hcell⟩ := World.cells?_some h1
        match cs', hlen with
        | [v0], _ =>
          obtain ⟨s, es, hz⟩ := DataW.trod_bool Tryd.underlying4 h2
          simp at es
          subst es
          have c0 := hcell 0 (by decide)
          have hsp : a.spot = none := by
            have q0 := hall 0 (by rw [hmm]; simp; omega)
            obtain ⟨cs0, g1, _⟩ := q0
            rw [cellsBool1] at g1
            obtain ⟨_, hlen0, hcell0⟩ := World.cells?_some g1
            have g2 := hcell0 0 (by decide)
            rw [List.getElem?_eq_getElem (by omega)] at g2
            have := World.cell?_spot g2
            simpa [Addr.add] using this
          obtain ⟨b, o, sp⟩ := a
          simp at hsp
          subst hsp
          rw [Addr.add_mid, Addr.add_mid] at c0
          have c0' : W.cell? ⟨b, o + i, none⟩ = some (.bool s) := by simpa using c0
          exact ⟨s, fun _ => ⟨b, o, rfl, World.block_lt_of_cell? W _ c0', c0'⟩⟩
      · exact ⟨false, fun h => absurd h hi⟩
    obtain ⟨f, hf⟩ := Classical.axiomOfChoice each
    have hlen : ((List.range len).map f).length = len := by simp
    refine ⟨(List.range len).map f, ⟨some a, cap, by rw [hlen], fun i hi => ?_⟩, ?_⟩
    · rw [hlen] at hi
      obtain ⟨b, o, rfl, hb, c0⟩ := hf i hi
      exact ⟨b, o, rfl, hb, by simpa using c0⟩
    · rw [hlen]
      have h1 := hw.1
      rw [bytesBool] at h1
      simp at h1
      omega

end Go.Proofs.YtpfamgahnphceaaDoor.pk
