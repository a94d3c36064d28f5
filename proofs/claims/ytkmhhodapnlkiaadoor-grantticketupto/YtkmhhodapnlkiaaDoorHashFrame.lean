import Derived.Test.YtkmhhodapnlkiaaDoorPieceWalks
import Derived.Test.YtkmhhodapnlkiaaDoorPadWalks
import Derived.Lib.LazyBuf
namespace Go.Proofs.YtkmhhodapnlkiaaDoor.shaw
open Go.ChangeShapes Go.WideShapes Go.ChangeAt Go.RowKit Go.Proofs.YtkmhhodapnlkiaaDoor.common

/-- w' is w but for new blocks and the n cells of block b from o on -/
structure Kept (w w' : World) (b o n : Nat) : Prop where
  os : w'.os = w.os
  tape : w'.tape = w.tape
  output : w'.output = w.output
  size : w.heap.size ≤ w'.heap.size
  block : ∀ k, k < w.heap.size → k ≠ b → w'.heap[k]? = w.heap[k]?
  cell : ∀ i, (i < o ∨ o + n ≤ i) → w'.cell? ⟨b, i, none⟩ = w.cell? ⟨b, i, none⟩
  frozen : ∀ i, w'.frozen? ⟨b, i, none⟩ = w.frozen? ⟨b, i, none⟩

theorem Kept.refl (w : World) (b o n : Nat) : Kept w w b o n := ⟨rfl, rfl, rfl, Nat.le_refl _, fun _ _ _ => rfl, fun _ _ => rfl, fun _ => rfl⟩

theorem Kept.trans {a b c : World} {g o n : Nat} (h : Kept a b g o n) (k : Kept b c g o n) : Kept a c g o n :=
  ⟨k.os.trans h.os, k.tape.trans h.tape, k.output.trans h.output, Nat.le_trans h.size k.size, fun i hi hne => (k.block i (Nat.lt_of_lt_of_le hi h.size) hne).trans (h.block i hi hne), fun i hi => (k.cell i hi).trans (h.cell i hi), fun i => (k.frozen i).trans (h.frozen i)⟩

theorem Kept.drewN {a w : World} {g o n : Nat} (h : Kept a w g o n) (m : Nat) : Kept a (w.drewN m) g o n := ⟨h.os, h.tape, h.output, h.size, h.block, h.cell, h.frozen⟩
theorem Kept.drew {a w : World} {g o n : Nat} (h : Kept a w g o n) : Kept a w.drew g o n := ⟨h.os, h.tape, h.output, h.size, h.block, h.cell, h.frozen⟩

theorem Kept.below {a w w' : World} {g o n : Nat} (h : Kept a w g o n) (hb : Below w.heap.size w w') (hg : g < a.heap.size) : Kept a w' g o n :=
  ⟨hb.os.trans h.os, hb.tape.trans h.tape, hb.output.trans h.output, Nat.le_trans h.size hb.size, fun k hk hne => (hb.block k (Nat.lt_of_lt_of_le hk h.size)).trans (h.block k hk hne),
    fun i hi => (hb.cell (p := ⟨g, i, none⟩) (Nat.lt_of_lt_of_le hg h.size)).trans (h.cell i hi), fun i => (hb.frozen (p := ⟨g, i, none⟩) (Nat.lt_of_lt_of_le hg h.size)).trans (h.frozen i)⟩

theorem Kept.setCell {a w : World} {g o n : Nat} (h : Kept a w g o n) (i : Nat) (hi : o ≤ i ∧ i < o + n) (v : Value) : Kept a (w.setCell ⟨g, i, none⟩ v) g o n := by
  refine ⟨h.os, h.tape, h.output, by simpa using h.size, fun k hk hne => ?_, fun j hj => ?_, fun j => ?_⟩
  · rw [Below.heap_setCell w ⟨g, i, none⟩ v k hne]; exact h.block k hk hne
  · have hne : (⟨g, i, none⟩ : Addr) ≠ ⟨g, j, none⟩ := fun he => by have := (Addr.mk.inj he).2.1; omega
    rw [World.cell?_setCell_other _ _ _ _ hne]; exact h.cell j hj
  · rw [← h.frozen j]; simp

theorem Kept.setCells {a w : World} {g o n : Nat} (h : Kept a w g o n) (vs : List Value) (i : Nat) (hi : o ≤ i ∧ i + vs.length ≤ o + n) : Kept a (w.setCells g i vs) g o n := by
  induction vs generalizing w i with
  | nil => exact h
  | cons v vs ih =>
    simp only [List.length_cons] at hi
    exact ih (h.setCell i (by omega) v) (i + 1) (by omega)

theorem Kept.Below {w w' : World} {b o n B : Nat} (h : Kept w w' b o n) (hB : B ≤ b) (hs : B ≤ w.heap.size) : RowKit.Below B w w' :=
  ⟨h.os, h.tape, h.output, h.size, fun k hk => h.block k (by omega) (by omega)⟩

theorem Kept.range {w w' : World} {b o n b' o' : Nat} {cs : List Value} (h : Kept w w' b o n) (hr : w.rangeAt b' o' cs) (hap : b' ≠ b ∨ o' + cs.length ≤ o ∨ o + n ≤ o') (hb : b' < w.heap.size) : w'.rangeAt b' o' cs := fun j v hv => by
  have hj := (List.getElem?_eq_some_iff.1 hv).1
  rw [← hr j v hv]
  by_cases e : b' = b
  · subst e; exact h.cell _ (by omega)
  · exact World.cell?_of_block (w := w) (h.block b' hb e)

theorem Kept.there {w w' : World} {b o n b' o' m : Nat} (h : Kept w w' b o n) (hr : w.there b' o' m) (hap : b' ≠ b ∨ o' + m ≤ o ∨ o + n ≤ o') (hb : b' < w.heap.size) : w'.there b' o' m := fun j hj => by
  obtain ⟨h1, h2⟩ := hr j hj
  by_cases e : b' = b
  · subst e; rw [h.cell _ (by omega), h.frozen]; exact ⟨h1, h2⟩
  · have hc : w'.cell? ⟨b', o' + j, none⟩ = w.cell? ⟨b', o' + j, none⟩ := World.cell?_of_block (w := w) (h.block b' hb e)
    have hf : w'.frozen? ⟨b', o' + j, none⟩ = w.frozen? ⟨b', o' + j, none⟩ := World.frozen?_of_block (w := w) (h.block b' hb e)
    rw [hc, hf]; exact ⟨h1, h2⟩

/-- a digest's cells: eight words, 64 bytes, a count -/
structure HashAt (w : World) (b o : Nat) (v : Sha.St) (pc : List UInt8) (n : Nat) : Prop where
  st : w.rangeAt b o ((Sha.words v).map V)
  buf : w.rangeAt b (o + 8) (pc.map B)
  len : pc.length = 64
  cnt : w.cell? ⟨b, o + 72, none⟩ = some (.int .u64 (n : Int))
  there : w.there b o 73

theorem HashAt.lt {w : World} {b o n : Nat} {v : Sha.St} {pc : List UInt8} (h : HashAt w b o v pc n) : b < w.heap.size := there_lt h.there (by decide)

/-- the digest that has taken in the text l -/
def HashOf (w : World) (b o : Nat) (l : List UInt8) : Prop := ∃ pc, HashAt w b o (Sha.after l (l.length / 64)) pc l.length ∧ pc.take (l.length % 64) = l.drop (64 * (l.length / 64))

theorem HashOf.kept {w w' : World} {b o b' o' : Nat} {l : List UInt8} (h : HashOf w b o l) (k : Kept w w' b' o' 73) (hap : b ≠ b' ∨ o + 73 ≤ o' ∨ o' + 73 ≤ o) : HashOf w' b o l := by
  obtain ⟨pc, h1, h2⟩ := h
  have hl := h1.lt
  refine ⟨pc, ⟨k.range h1.st (by simp [Sha.words]; omega) hl, k.range h1.buf (by simp [h1.len]; omega) hl, h1.len, ?_, k.there h1.there (by omega) hl⟩, h2⟩
  rw [← h1.cnt]
  by_cases e : b = b'
  · subst e; exact k.cell _ (by omega)
  · exact World.cell?_of_block (w := w) (k.block b hl e)

theorem HashOf.below {w w' : World} {b o : Nat} {l : List UInt8} (h : HashOf w b o l) (hb : RowKit.Below w.heap.size w w') : HashOf w' b o l := by
  obtain ⟨pc, h1, h2⟩ := h
  have hl := h1.lt
  exact ⟨pc, ⟨range_below h1.st hb hl, range_below h1.buf hb hl, h1.len, (hb.cell (p := ⟨b, o + 72, none⟩) hl).trans h1.cnt, there_below h1.there hb hl⟩, h2⟩

/-- copy of a string's first bytes into a row -/
theorem run_copy_min {P : Program} (w : World) (dT sT ty elem : TypeId) (b o dLen dCap m : Nat) (t : ByteArray)
    (hu : P.underlying dT = some (.slice elem)) (hz : ∀ w, (Go.sizeOf elem).run P w = .ok 1 w) (hm : Nat.min t.size dLen = m)
    (hc : ∀ j, j < m → (w.cell? ⟨b, o + j, none⟩).isSome = true) (hf : ∀ j, j < m → w.frozen? ⟨b, o + j, none⟩ = false) :
    (Builtin.copy_ #[dT, sT] ty #[.slice (some ⟨b, o, none⟩) dLen dCap, .string t]).run P w = .ok (goInt m) (w.setCells b o ((t.data.toList.take m).map B)) := by
  have hms : m ≤ t.size := by rw [← hm]; exact Nat.min_le_left _ _
  have hl : ((t.data.toList.take m).map B).length = m := by simp; omega
  have hst := run_storeCells_cells (P := P) b o ((t.data.toList.take m).map B) 0 w (by rw [hl]; simpa using hc) (by rw [hl]; simpa using hf) (by
    intro v hv
    obtain ⟨x, _, rfl⟩ := List.mem_map.1 hv
    rfl)
  simp [Builtin.copy_, run_underlying hu, Builtin.lenOf, Builtin.firstCells, hz, hm]
  rw [List.map_take] at hst
  rw [hst]
  rfl

end Go.Proofs.YtkmhhodapnlkiaaDoor.shaw
