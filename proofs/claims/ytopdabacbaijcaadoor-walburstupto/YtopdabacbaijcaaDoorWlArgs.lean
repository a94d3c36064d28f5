import Derived.Test.YtopdabacbaijcaaDoorWlArg
import Derived.Test.YtopdabacbaijcaaDoorWlJoin
import Derived.Deep.Slices
namespace Go.Proofs.YtopdabacbaijcaaDoor.wl
open Go.ChangeShapes Go.WideShapes Go.ChangeAt Go.RowKit Go.Joins Go.Deep Go.WideElems Go.Maps Go.Proofs.YtopdabacbaijcaaDoor.common Go.Proofs.YtopdabacbaijcaaDoor.dk

theorem weightsAll_mem {H : Type} {P : Program} {e : TypeId} {p : Nat → Bool} : ∀ (l : List (DataW H)), (DataW.weightsAll P e l).all p = true → ∀ d ∈ l, (d.weights P e).all p = true
  | [], _, d, hd => by cases hd
  | x :: r, h, d, hd => by
    rw [DataW.weightsAll, List.all_append, Bool.and_eq_true] at h
    rcases List.mem_cons.1 hd with rfl | hd
    · exact h.1
    · exact weightsAll_mem r h.2 d hd
theorem cellsLst : Tryd.prog.cellsOf 26 = 1 := by kernel_rfl
/-- how much a list of lists holds -/
def tot (L : List (List UInt8)) : Nat := (L.map fun q => q.length + 1).sum
theorem tot_flat (L : List (List UInt8)) : (Wl.flat (gd L)).length ≤ 8 * tot L ∧ L.length ≤ tot L ∧ ∀ q ∈ L, q.length ≤ tot L := by
  induction L with
  | nil => exact ⟨by simp [gd, Wl.flat], Nat.zero_le _, fun q hq => by cases hq⟩
  | cons p L ih =>
    have e : tot (p :: L) = p.length + 1 + tot L := by simp [tot]
    rw [e]
    obtain ⟨h1, h2, h3⟩ := ih
    refine ⟨?_, by simp; omega, fun q hq => ?_⟩
    · have hg : gd (p :: L) = if Wl.fit p.length = true then p :: gd L else gd L := by
        unfold gd
        rw [List.filter_cons]
      rw [hg]
      split
      · rw [Wl.flat_cons, List.length_append, Wl.fr_len]; omega
      · omega
    · rcases List.mem_cons.1 hq with rfl | hq
      · omega
      · have := h3 q hq; omega
theorem tot_bulk {H : Type} (n : Nat) (D : Nat → DataW H) (f : Nat → List UInt8) (h : ∀ i, i < n → (f i).length + 1 ≤ Rows.uptoBulk (D i)) : tot ((List.range n).map f) ≤ Rows.uptoBulkAll ((List.range n).map D) := by
  induction n with
  | zero => exact Nat.zero_le _
  | succ n ih =>
    have h1 := ih (fun i hi => h i (by omega))
    have h2 := h n (by omega)
    have e1 : tot ((List.range (n + 1)).map f) = tot ((List.range n).map f) + ((f n).length + 1) := by
      unfold tot
      rw [List.range_succ]
      simp
    have e2 : ∀ (a : List (DataW H)) (d : DataW H), Rows.uptoBulkAll (a ++ [d]) = Rows.uptoBulkAll a + Rows.uptoBulk d := by
      intro a d
      induction a with
      | nil => simp [Rows.uptoBulkAll]
      | cons x a ih => rw [List.cons_append, Rows.uptoBulkAll, Rows.uptoBulkAll, ih]; omega
    rw [e1, List.range_succ, List.map_append, List.map_singleton, e2]
    omega
set_option maxRecDepth 100000 in
/-- a list of lists of bytes as an argument -/
theorem lists_of {H : Type} {enc : TypeId × Value → H} {W : World} {fuel : Nat} {v : Value} {d : DataW H} {pl : List MemPlace}
    (h : DataW.trod enc Tryd.prog W 0 (fun _ => true) true fuel 22 [v] = some (d, pl)) (hsz : (d.weights Tryd.prog 22).all (· ≤ reachBytes) = true) :
    ∃ L, Ls W v L ∧ tot L ≤ Rows.uptoBulk d := by
  rcases Deep.open_slice Tryd.underlying22 h with ⟨hcs, hx⟩ | ⟨a, len, cap, m, n, D, Pl, hcs, hb, hl, hm, hmm, hx, hall⟩
  · obtain rfl : v = .slice none 0 0 := by simpa using hcs
    exact ⟨[], ⟨none, 0, rfl, fun h0 => absurd h0 (by decide)⟩, Nat.zero_le _⟩
  · obtain rfl : v = .slice (some a) len cap := by simpa using hcs
    have hd : d = .slice ((List.range len).map D) ((List.range (m - len)).map fun j => D (len + j)) := (Prod.mk.inj hx).1
    subst hd
    simp only [DataW.weights, Tryd.underlying22, List.all_cons, List.all_append, Bool.and_eq_true] at hsz
    by_cases h0 : len = 0
    · subst h0
      exact ⟨[], ⟨some a, cap, rfl, fun h0 => absurd h0 (by decide)⟩, Nat.zero_le _⟩
    have hsp : a.spot = none := by
      obtain ⟨cs0, g1, _⟩ := hall 0 (by rw [hmm]; simp; omega)
      rw [cellsLst] at g1
      obtain ⟨_, hlen0, hcell0⟩ := World.cells?_some g1
      have g2 := hcell0 0 (by decide)
      rw [List.getElem?_eq_getElem (by omega)] at g2
      have := World.cell?_spot g2
      simpa [Addr.add] using this
    obtain ⟨b, o, sp⟩ := a
    obtain rfl : sp = none := hsp
    have each : ∀ i, ∃ q : List UInt8, i < len → (q.length + 1 ≤ Rows.uptoBulk (D i)) ∧ ∃ u, W.cell? ⟨b, o + i, none⟩ = some u ∧ Rd W u q := by
      intro i
      by_cases hi : i < len
      · have hwi := weightsAll_mem _ hsz.2.1 (D i) (List.mem_map.2 ⟨i, List.mem_range.2 hi, rfl⟩)
        obtain ⟨cs', h1, h2⟩ := hall i (by rw [hmm]; simp; omega)
        rw [cellsLst] at h1
        obtain ⟨_, hlen', hcell⟩ := World.cells?_some h1
        match cs', hlen' with
        | [v0], _ =>
          obtain ⟨q, hr, _, hb2⟩ := bytes_of h2 hwi
          have c0 := hcell 0 (by decide)
          have hcl : W.cell? ⟨b, o + i, none⟩ = some v0 := by
            have := c0
            rw [Addr.add_mid, Addr.add_mid] at this
            simpa using this
          exact ⟨q, fun _ => ⟨hb2, v0, hcl, hr⟩⟩
      · exact ⟨[], fun h => absurd h hi⟩
    obtain ⟨f, hf⟩ := Classical.axiomOfChoice each
    have hln : ((List.range len).map f).length = len := by simp
    refine ⟨(List.range len).map f, ⟨some ⟨b, o, none⟩, cap, by rw [hln], fun _ => ⟨b, o, rfl, ?_, fun i hi => ?_⟩⟩, ?_⟩
    · obtain ⟨_, u, hu, _⟩ := hf 0 (by omega)
      exact World.block_lt_of_cell? W _ hu
    · rw [hln] at hi
      obtain ⟨_, u, hu, hr⟩ := hf i hi
      exact ⟨u, hu, by simpa using hr⟩
    · have := tot_bulk len D f (fun i hi => (hf i hi).1)
      rw [Rows.uptoBulk]
      omega
theorem word_of {a : Int} (h : (Lit.int .u32 a).wf = true) : ∃ r : BitVec 32, a = (r.toNat : Int) := by
  have hb := bounds_u32 h
  refine ⟨BitVec.ofNat 32 a.toNat, ?_⟩
  rw [BitVec.toNat_ofNat]
  omega
theorem cellsTorn : Tryd.prog.cellsOf 24 = 2 := by kernel_rfl
end Go.Proofs.YtopdabacbaijcaaDoor.wl
