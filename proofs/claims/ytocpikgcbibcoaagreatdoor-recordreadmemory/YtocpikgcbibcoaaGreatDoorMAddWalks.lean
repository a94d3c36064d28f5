import Derived.Test.YtocpikgcbibcoaaGreatDoorMPieceWalks
import Derived.Test.YtocpikgcbibcoaaGreatDoorMPadWalks
import Derived.Lib.LazyBuf
import Derived.Deep.DeepCutAuto
import Derived.Deep.RegionWith
import Derived.BigRegion
namespace Go.Proofs.YtocpikgcbibcoaaGreatDoor.shaw
open Go.ChangeShapes Go.WideShapes Go.ChangeAt Go.RowKit Go.Proofs.YtocpikgcbibcoaaGreatDoor.common

/-- w' is w but for new blocks and the n cells of block b from o on -/
structure Kept (w w' : World) (b o n : Nat) : Prop where
  os : w'.os = w.os
  tape : w'.tape = w.tape
  output : w'.output = w.output
  size : w.heap.size ≤ w'.heap.size
  block : ∀ k, k < w.heap.size → k ≠ b → w'.heap[k]? = w.heap[k]?
  cell : ∀ i, (i < o ∨ o + n ≤ i) → w'.cell? ⟨b, i, none⟩ = w.cell? ⟨b, i, none⟩
  frozen : ∀ i, w'.frozen? ⟨b, i, none⟩ = w.frozen? ⟨b, i, none⟩

theorem Kept.refl (w : World) (b o n : Nat) : Kept w w b o n := ⟨rfl, rfl, rfl, Nat.le_refl _, fun _ _ _ => rfl, fun _ _ => rfl, fun _ => rfl⟩

theorem Kept.trans {a b c : World} {g o n : Nat} (h : Kept a b g o n) (k : Kept b c g o n) : Kept a c g o n :=
  ⟨k.os.trans h.os, k.tape.trans h.tape, k.output.trans h.output, Nat.le_trans h.size k.size, fun i hi hne => (k.block i (Nat.lt_of_lt_of_le hi h.size) hne).trans (h.block i hi hne), fun i hi => (k.cell i hi).trans (h.cell i hi), fun i => (k.frozen i).trans (h.frozen i)⟩

theorem Kept.drewN {a w : World} {g o n : Nat} (h : Kept a w g o n) (m : Nat) : Kept a (w.drewN m) g o n := ⟨h.os, h.tape, h.output, h.size, h.block, h.cell, h.frozen⟩
theorem Kept.drew {a w : World} {g o n : Nat} (h : Kept a w g o n) : Kept a w.drew g o n := ⟨h.os, h.tape, h.output, h.size, h.block, h.cell, h.frozen⟩

theorem Kept.below {a w w' : World} {g o n : Nat} (h : Kept a w g o n) (hb : Below w.heap.size w w') (hg : g < a.heap.size) : Kept a w' g o n :=
  ⟨hb.os.trans h.os, hb.tape.trans h.tape, hb.output.trans h.output, Nat.le_trans h.size hb.size, fun k hk hne => (hb.block k (Nat.lt_of_lt_of_le hk h.size)).trans (h.block k hk hne),
    fun i hi => (hb.cell (p := ⟨g, i, none⟩) (Nat.lt_of_lt_of_le hg h.size)).trans (h.cell i hi), fun i => (hb.frozen (p := ⟨g, i, none⟩) (Nat.lt_of_lt_of_le hg h.size)).trans (h.frozen i)⟩

theorem Kept.setCell {a w : World} {g o n : Nat} (h : Kept a w g o n) (i : Nat) (hi : o ≤ i ∧ i < o + n) (v : Value) : Kept a (w.setCell ⟨g, i, none⟩ v) g o n := by
  refine ⟨h.os, h.tape, h.output, by simpa using h.size, fun k hk hne => ?_, fun j hj => ?_, fun j => ?_⟩
  · rw [Below.heap_setCell w ⟨g, i, none⟩ v k hne]; exact h.block k hk hne
  · have hne : (⟨g, i, none⟩ : Addr) ≠ ⟨g, j, none⟩ := fun he => by have := (Addr.mk.inj he).2.1; omega
    rw [World.cell?_setCell_other _ _ _ _ hne]; exact h.cell j hj
  · rw [← h.frozen j]; simp

theorem Kept.setCells {a w : World} {g o n : Nat} (h : Kept a w g o n) (vs : List Value) (i : Nat) (hi : o ≤ i ∧ i + vs.length ≤ o + n) : Kept a (w.setCells g i vs) g o n := by
  induction vs generalizing w i with
  | nil => exact h
  | cons v vs ih =>
    simp only [List.length_cons] at hi
    exact ih (h.setCell i (by omega) v) (i + 1) (by omega)

theorem Kept.Below {w w' : World} {b o n B : Nat} (h : Kept w w' b o n) (hB : B ≤ b) (hs : B ≤ w.heap.size) : RowKit.Below B w w' :=
  ⟨h.os, h.tape, h.output, h.size, fun k hk => h.block k (by omega) (by omega)⟩

theorem Kept.range {w w' : World} {b o n b' o' : Nat} {cs : List Value} (h : Kept w w' b o n) (hr : w.rangeAt b' o' cs) (hap : b' ≠ b ∨ o' + cs.length ≤ o ∨ o + n ≤ o') (hb : b' < w.heap.size) : w'.rangeAt b' o' cs := fun j v hv => by
  have hj := (List.getElem?_eq_some_iff.1 hv).1
  rw [← hr j v hv]
  by_cases e : b' = b
  · subst e; exact h.cell _ (by omega)
  · exact World.cell?_of_block (w := w) (h.block b' hb e)

theorem Kept.there {w w' : World} {b o n b' o' m : Nat} (h : Kept w w' b o n) (hr : w.there b' o' m) (hap : b' ≠ b ∨ o' + m ≤ o ∨ o + n ≤ o') (hb : b' < w.heap.size) : w'.there b' o' m := fun j hj => by
  obtain ⟨h1, h2⟩ := hr j hj
  by_cases e : b' = b
  · subst e; rw [h.cell _ (by omega), h.frozen]; exact ⟨h1, h2⟩
  · have hc : w'.cell? ⟨b', o' + j, none⟩ = w.cell? ⟨b', o' + j, none⟩ := World.cell?_of_block (w := w) (h.block b' hb e)
    have hf : w'.frozen? ⟨b', o' + j, none⟩ = w.frozen? ⟨b', o' + j, none⟩ := World.frozen?_of_block (w := w) (h.block b' hb e)
    rw [hc, hf]; exact ⟨h1, h2⟩

/-- a digest's cells: eight words, 64 bytes, a count -/
structure HashAt (w : World) (b o : Nat) (v : Sha.St) (pc : List UInt8) (n : Nat) : Prop where
  st : w.rangeAt b o ((Sha.words v).map V)
  buf : w.rangeAt b (o + 8) (pc.map B)
  len : pc.length = 64
  cnt : w.cell? ⟨b, o + 72, none⟩ = some (.int .u64 (n : Int))
  there : w.there b o 73

theorem HashAt.lt {w : World} {b o n : Nat} {v : Sha.St} {pc : List UInt8} (h : HashAt w b o v pc n) : b < w.heap.size := there_lt h.there (by decide)

/-- the digest that has taken in the text l -/
def HashOf (w : World) (b o : Nat) (l : List UInt8) : Prop := ∃ pc, HashAt w b o (Sha.after l (l.length / 64)) pc l.length ∧ pc.take (l.length % 64) = l.drop (64 * (l.length / 64))

theorem HashOf.kept {w w' : World} {b o b' o' : Nat} {l : List UInt8} (h : HashOf w b o l) (k : Kept w w' b' o' 73) (hap : b ≠ b' ∨ o + 73 ≤ o' ∨ o' + 73 ≤ o) : HashOf w' b o l := by
  obtain ⟨pc, h1, h2⟩ := h
  have hl := h1.lt
  refine ⟨pc, ⟨k.range h1.st (by simp [Sha.words]; omega) hl, k.range h1.buf (by simp [h1.len]; omega) hl, h1.len, ?_, k.there h1.there (by omega) hl⟩, h2⟩
  rw [← h1.cnt]
  by_cases e : b = b'
  · subst e; exact k.cell _ (by omega)
  · exact World.cell?_of_block (w := w) (k.block b hl e)

theorem HashOf.below {w w' : World} {b o : Nat} {l : List UInt8} (h : HashOf w b o l) (hb : RowKit.Below w.heap.size w w') : HashOf w' b o l := by
  obtain ⟨pc, h1, h2⟩ := h
  have hl := h1.lt
  exact ⟨pc, ⟨range_below h1.st hb hl, range_below h1.buf hb hl, h1.len, (hb.cell (p := ⟨b, o + 72, none⟩) hl).trans h1.cnt, there_below h1.there hb hl⟩, h2⟩

/-- copy of a string's first bytes into a row -/
theorem run_copy_min {P : Program} (w : World) (dT sT ty elem : TypeId) (b o dLen dCap m : Nat) (t : ByteArray)
    (hu : P.underlying dT = some (.slice elem)) (hz : ∀ w, (Go.sizeOf elem).run P w = .ok 1 w) (hm : Nat.min t.size dLen = m)
    (hc : ∀ j, j < m → (w.cell? ⟨b, o + j, none⟩).isSome = true) (hf : ∀ j, j < m → w.frozen? ⟨b, o + j, none⟩ = false) :
    (Builtin.copy_ #[dT, sT] ty #[.slice (some ⟨b, o, none⟩) dLen dCap, .string t]).run P w = .ok (goInt m) (w.setCells b o ((t.data.toList.take m).map B)) := by
  have hms : m ≤ t.size := by rw [← hm]; exact Nat.min_le_left _ _
  have hl : ((t.data.toList.take m).map B).length = m := by simp; omega
  have hst := run_storeCells_cells (P := P) b o ((t.data.toList.take m).map B) 0 w (by rw [hl]; simpa using hc) (by rw [hl]; simpa using hf) (by
    intro v hv
    obtain ⟨x, _, rfl⟩ := List.mem_map.1 hv
    rfl)
  simp [Builtin.copy_, run_underlying hu, Builtin.lenOf, Builtin.firstCells, hz, hm]
  rw [List.map_take] at hst
  rw [hst]
  rfl

end Go.Proofs.YtocpikgcbibcoaaGreatDoor.shaw

namespace Go.Proofs.YtocpikgcbibcoaaGreatDoor.Sha

theorem after_append (l x : List UInt8) (q : Nat) (h : 64 * q ≤ l.length) : after (l ++ x) q = after l q := by
  induction q with
  | zero => rfl
  | succ q ih =>
    simp only [after]
    rw [ih (by omega)]
    congr 1
    rw [List.drop_append_of_le_length (by omega), List.take_append_of_le_length (by simp; omega)]

/-- the buffer behind a copy -/
def over (pc : List UInt8) (c : Nat) (x : List UInt8) : List UInt8 := pc.take c ++ x ++ pc.drop (c + x.length)

theorem over_length (pc : List UInt8) (c : Nat) (x : List UInt8) (h : c + x.length ≤ pc.length) : (over pc c x).length = pc.length := by
  simp [over]; omega

/-- behind m bytes that don't fill the piece -/
theorem buf_part (l x pc : List UInt8) (hp : pc.length = 64) (h : pc.take (l.length % 64) = l.drop (64 * (l.length / 64))) (hx : l.length % 64 + x.length < 64) :
    (l ++ x).length / 64 = l.length / 64 ∧ (over pc (l.length % 64) x).take ((l ++ x).length % 64) = (l ++ x).drop (64 * ((l ++ x).length / 64)) := by
  have e1 : (l ++ x).length / 64 = l.length / 64 := by simp; omega
  have e2 : (l ++ x).length % 64 = l.length % 64 + x.length := by simp; omega
  refine ⟨e1, ?_⟩
  rw [e1, e2, List.drop_append_of_le_length (by omega), ← h]
  unfold over
  have e3 : l.length % 64 + x.length = (List.take (l.length % 64) pc ++ x).length := by simp; omega
  rw [List.take_append_of_le_length (by simp; omega)]
  rw [List.take_of_length_le (by simp; omega)]

/-- behind m bytes that fill it -/
theorem buf_full (l x pc : List UInt8) (hp : pc.length = 64) (h : pc.take (l.length % 64) = l.drop (64 * (l.length / 64))) (hx : l.length % 64 + x.length = 64) :
    (l ++ x).length / 64 = l.length / 64 + 1 ∧ (l ++ x).length % 64 = 0 ∧ over pc (l.length % 64) x = (l ++ x).drop (64 * (l.length / 64)) := by
  have e1 : (l ++ x).length / 64 = l.length / 64 + 1 := by simp; omega
  have e2 : (l ++ x).length % 64 = 0 := by simp; omega
  refine ⟨e1, e2, ?_⟩
  rw [List.drop_append_of_le_length (by omega), ← h]
  unfold over
  rw [hx, List.drop_of_length_le (by omega)]
  simp

theorem after_full (l x pc : List UInt8) (hp : pc.length = 64) (h : pc.take (l.length % 64) = l.drop (64 * (l.length / 64))) (hx : l.length % 64 + x.length = 64) :
    after (l ++ x) ((l ++ x).length / 64) = comp (after l (l.length / 64)) (over pc (l.length % 64) x) := by
  obtain ⟨e1, _, e3⟩ := buf_full l x pc hp h hx
  rw [e1, e3]
  simp only [after]
  rw [after_append _ _ _ (by omega), List.take_of_length_le (by simp; omega)]

end Go.Proofs.YtocpikgcbibcoaaGreatDoor.Sha

namespace Go.Proofs.YtocpikgcbibcoaaGreatDoor.shaw
open Go.ChangeShapes Go.WideShapes Go.ChangeAt Go.RowKit Go.Proofs.YtocpikgcbibcoaaGreatDoor.common
attribute [local go_sem ↓] Go.wp_at_zero Go.wp_at_succ

/-- .. as one step of a region that draws -/
theorem step_copy_min {P : Program} {ops : Array Oper} {o : Oper} {a : Act} {w : World} {K : Act → World → Prop} {Q : Exit → Act → World → Prop} {E : Prop}
    (hg : o.guard = none) (d x : Operand) (dT sT : TypeId) (hop : o.op = Op.call { callee := Callee.builtin Builtin.copy, args := #[d, x], argTypes := #[dT, sT] })
    (elem : TypeId) (hu : P.underlying dT = some (.slice elem)) (hz : ∀ w, (Go.sizeOf elem).run P w = .ok 1 w)
    (b off dLen dCap m : Nat) (hd : a.eval d = .slice (some ⟨b, off, none⟩) dLen dCap) (t : ByteArray) (hx : a.eval x = .string t) (hm : Nat.min t.size dLen = m)
    (ht : w.there b off m)
    (hK : K (a.put o.dst (goInt m)) (w.setCells b off ((t.data.toList.take m).map B))) :
    if Region.wanted o (yielded ops a.tmps) = true then Oper.wp P o a w K Q else E := by
  have hw : Region.wanted o (yielded ops a.tmps) = true := by simp [Region.wanted, hg]
  rw [if_pos hw]
  have hrun := run_copy_min (P := P) w dT sT o.type elem b off dLen dCap m t hu hz hm (fun j hj => (ht j hj).1) (fun j hj => (ht j hj).2)
  unfold Oper.wp
  rw [List.map_take] at hrun hK
  simp [execOp, hop, resolve, invoke, builtin, hd, hx, hrun, Result.andThen]
  exact hK

def strLen : Value → Nat
  | .string t => t.size
  | _ => 0

theorem sizeOf8 (w : World) : (Go.sizeOf 5).run Tryz.prog w = .ok 1 w := by kernel_rfl

theorem keep_cnt {w : World} {b o c : Nat} {v : Value} {vs : List Value} (h : w.cell? ⟨b, o + 72, none⟩ = some v) (hv : c + vs.length ≤ 64) : (w.drew.setCells b (o + 8 + c) vs).cell? ⟨b, o + 72, none⟩ = some v := by
  rw [World.cell?_setCells_out _ _ _ _ _ (by intro _ _; right; show o + 8 + c + vs.length ≤ o + 72; omega)]
  exact h

theorem over_range {w : World} {b o c : Nat} {pc x : List UInt8} (hr : w.rangeAt b o (pc.map B)) (hx : c + x.length ≤ pc.length) (ht : w.there b (o + c) x.length) : (w.setCells b (o + c) (x.map B)).rangeAt b o ((Sha.over pc c x).map B) := fun j v hv => by
  have hj : j < pc.length := by
    have := (List.getElem?_eq_some_iff.1 hv).1
    simpa [Sha.over_length pc c x hx] using this
  by_cases h1 : j < c
  · rw [World.cell?_setCells_out _ _ _ _ _ (by intro _ _; left; show o + j < o + c; omega)]
    refine hr j v ?_
    rw [← hv]
    simp only [Sha.over, List.map_append]
    rw [List.append_assoc, List.getElem?_append_left (by simp; omega), List.map_take, List.getElem?_take_of_lt h1]
  · by_cases h2 : j < c + x.length
    · have := World.rangeAt_setCells_same w b (o + c) (x.map B) (by simpa using ht) (j - c) v (by
        rw [← hv]
        simp only [Sha.over, List.map_append]
        rw [List.getElem?_append_left (by simp; omega), List.getElem?_append_right (by simp; omega)]
        congr 1
        simp; omega)
      rw [show o + c + (j - c) = o + j by omega] at this
      exact this
    · rw [World.cell?_setCells_out _ _ _ _ _ (by intro _ _; right; show o + c + (x.map B).length ≤ o + j; simp; omega)]
      refine hr j v ?_
      rw [← hv]
      simp only [Sha.over, List.map_append]
      rw [List.getElem?_append_right (by simp; omega), List.map_drop, List.getElem?_drop]
      congr 1
      simp
      omega

theorem HashAt.over {w : World} {b o n c : Nat} {v : Sha.St} {pc x : List UInt8} (h : HashAt w b o v pc n) (hx : c + x.length ≤ 64) : HashAt (w.setCells b (o + 8 + c) (x.map B)) b o v (Sha.over pc c x) n := by
  refine ⟨?_, ?_, ?_, ?_, World.there_setCells h.there _ _ _⟩
  · exact World.rangeAt_setCells_apart h.st _ _ _ (by right; left; show o + 8 ≤ o + 8 + c; omega)
  · refine over_range h.buf (by rw [h.len]; exact hx) ?_
    intro j hj
    have := h.there (8 + c + j) (by omega)
    rw [show o + (8 + c + j) = o + 8 + c + j by omega] at this
    exact this
  · rw [Sha.over_length _ _ _ (by rw [h.len]; exact hx)]; exact h.len
  · rw [World.cell?_setCells_out _ _ _ _ _ (by intro _ _; right; show o + 8 + c + (x.map B).length ≤ o + 72; rw [List.length_map]; omega)]
    exact h.cnt

theorem ext_end (t : ByteArray) (m : Nat) : (t.extract m t.size).data.toList = t.data.toList.drop m := by
  rw [ByteArray.data_extract, Array.toList_extract]
  simp only [List.extract_eq_take_drop]
  rw [List.take_of_length_le (by simp)]

theorem RW.kept {w w' : World} {b o n : Nat} (h : RW w) (k : Kept w w' b o n) (hne : b ≠ 18) : RW w' := fun i hi => by
  rw [← h i hi]; exact World.cell?_of_block (w := w) (k.block _ h.lt (Ne.symm hne))

theorem takePiece_at (v : Sha.St) (pb po : Nat) (p : List UInt8) (X : Sha.St) (hX : Sha.comp v p = X) (hp : p.length = 64) (w : World) (hc : w.rangeAt pb po (p.map B)) (hk : RW w) :
    Calls Tryz.prog 78 #[.agg #[V v.a, V v.b, V v.c, V v.d, V v.e, V v.f, V v.g, V v.h], .pointer (some ⟨pb, po, none⟩)] w fun e w' => e = .returned (.agg #[V X.a, V X.b, V X.c, V X.d, V X.e, V X.f, V X.g, V X.h]) ∧ Below w.heap.size w w' := by
  subst hX
  exact takePiece_any v pb po p hp w hc hk

theorem HashAt.st8 {w : World} {b o n : Nat} {v : Sha.St} {pc : List UInt8} (h : HashAt w b o v pc n) : w.cell? ⟨b, o, none⟩ = some (V v.a) ∧ w.cell? ⟨b, o + 1, none⟩ = some (V v.b) ∧ w.cell? ⟨b, o + 2, none⟩ = some (V v.c) ∧ w.cell? ⟨b, o + 3, none⟩ = some (V v.d) ∧ w.cell? ⟨b, o + 4, none⟩ = some (V v.e) ∧ w.cell? ⟨b, o + 5, none⟩ = some (V v.f) ∧ w.cell? ⟨b, o + 6, none⟩ = some (V v.g) ∧ w.cell? ⟨b, o + 7, none⟩ = some (V v.h) ∧ w.frozen? ⟨b, o, none⟩ = false ∧ w.frozen? ⟨b, o + 1, none⟩ = false ∧ w.frozen? ⟨b, o + 2, none⟩ = false ∧ w.frozen? ⟨b, o + 3, none⟩ = false ∧ w.frozen? ⟨b, o + 4, none⟩ = false ∧ w.frozen? ⟨b, o + 5, none⟩ = false ∧ w.frozen? ⟨b, o + 6, none⟩ = false ∧ w.frozen? ⟨b, o + 7, none⟩ = false :=
  ⟨h.st 0 _ rfl, h.st 1 _ rfl, h.st 2 _ rfl, h.st 3 _ rfl, h.st 4 _ rfl, h.st 5 _ rfl, h.st 6 _ rfl, h.st 7 _ rfl, (h.there 0 (by decide)).2, (h.there 1 (by decide)).2, (h.there 2 (by decide)).2, (h.there 3 (by decide)).2, (h.there 4 (by decide)).2, (h.there 5 (by decide)).2, (h.there 6 (by decide)).2, (h.there 7 (by decide)).2⟩

theorem HashAt.below {w w' : World} {b o n : Nat} {v : Sha.St} {pc : List UInt8} (h : HashAt w b o v pc n) (hb : RowKit.Below w.heap.size w w') : HashAt w' b o v pc n := by
  have hl := h.lt
  exact ⟨range_below h.st hb hl, range_below h.buf hb hl, h.len, (hb.cell (p := ⟨b, o + 72, none⟩) hl).trans h.cnt, there_below h.there hb hl⟩

theorem HashAt.state {w : World} {b o n : Nat} {v : Sha.St} {pc : List UInt8} (h : HashAt w b o v pc n) (X : Sha.St) : HashAt (w.setCells b o ((Sha.words X).map V)) b o X pc n := by
  refine ⟨?_, ?_, h.len, ?_, World.there_setCells h.there _ _ _⟩
  · refine World.rangeAt_setCells_same _ _ _ _ (fun j hj => h.there j ?_)
    simp [Sha.words] at hj; omega
  · exact World.rangeAt_setCells_apart h.buf _ _ _ (by right; right; simp [Sha.words])
  · rw [World.cell?_setCells_out _ _ _ _ _ (by intro _ _; right; show o + 8 ≤ o + 72; omega)]
    exact h.cnt

theorem HashAt.count {w : World} {b o n m : Nat} {v : Sha.St} {pc : List UInt8} (h : HashAt w b o v pc n) (hm : (n : Int) + (m : Int) = ((n + m : Nat) : Int) := by omega) :
    HashAt (w.setCell ⟨b, o + 72, none⟩ (.int .u64 ((n : Int) + (m : Int)))) b o v pc (n + m) := by
  refine ⟨?_, ?_, h.len, ?_, there_set h.there _ _⟩
  · exact range_other h.st _ (by right; right; show o + 8 ≤ o + 72; omega) _
  · exact range_other h.buf _ (by right; right; show o + 8 + (pc.map B).length ≤ o + 72; rw [List.length_map, h.len]; omega) _
  · rw [World.cell?_setCell_same _ _ _ h.cnt, hm]

set_option maxRecDepth 100000 in
set_option maxHeartbeats 1600000 in
theorem add_any (b o : Nat) (l : List UInt8) (s : ByteArray) (w : World) (hl : l.length + s.size ≤ 1125899906842624) (hH : HashOf w b o l) (hk : RW w) (hne : b ≠ 18) :
    Calls Tryz.prog 63 #[.pointer (some ⟨b, o, none⟩), .string s] w fun e w' => e = .returned (.tuple #[]) ∧ HashOf w' b o (l ++ s.data.toList) ∧ Kept w w' b o 73 := by
  have HK := hide hk
  have HH := hide hH
  have HKB : Hid (b < w.heap.size) := by obtain ⟨pc, h, _⟩ := hH; exact h.lt
  clear hk hH
  go_enter Tryz.func63, Tryz.ntmps63
  go_wp2_with fail
  go_loopw [1] (fun r wr => ∃ (x : List UInt8) (t : ByteArray), r = .string t ∧ x ++ t.data.toList = l ++ s.data.toList ∧ x.length + t.size = l.length + s.size ∧ HashOf wr b o x ∧ Kept w wr b o 73) (fun r _ => strLen r)
  case atStart => exact ⟨l, s, rfl, rfl, rfl, HH.out, Kept.refl _ _ _ _⟩
  case round =>
    obtain ⟨x, t, rfl, hxt, hsz, hx, hkp⟩ := hrel
    by_cases hlt : 0 < t.size
    · obtain ⟨pc, hA, hpc⟩ := hx
      obtain ⟨m, hm⟩ : ∃ m, Nat.min t.size (64 - x.length % 64) = m := ⟨_, rfl⟩
      have hm1 : m ≤ t.size := by rw [← hm]; exact Nat.min_le_left _ _
      have hm2 : m ≤ 64 - x.length % 64 := by rw [← hm]; exact Nat.min_le_right _ _
      have hm0 : 0 < m := by rw [← hm]; exact Nat.lt_min.2 ⟨hlt, by omega⟩
      have HA := hide hA
      have HP := hide hpc
      have HX := hide hxt
      have HKP := hide hkp
      have HM := hide hm
      have hcnt := hA.cnt
      obtain ⟨c, hc⟩ : ∃ c, x.length % 64 = c := ⟨_, rfl⟩
      have htm : ((x.length : Nat) : Int).tmod 64 = (c : Int) := by rw [Int.tmod_eq_emod_of_nonneg (by omega)]; omega
      have hc64 : c < 64 := by omega
      have c0 : (0 : Int) ≤ (c : Int) := by omega
      have c1 : (c : Int) ≤ 64 := by omega
      have c2 : ¬ 64 = c := by omega
      have hth : Hid (wr.there b (o + 8 + c) m) := fun j hj => by
        have := hA.there (8 + c + j) (by omega)
        rw [show o + (8 + c + j) = o + 8 + c + j by omega] at this
        exact this
      have HC := hide hc
      clear hA hpc hxt hkp hm
      rw [hc] at hm2 HM HP
      clear hc
      generalize hv : Sha.after x (x.length / 64) = v at *
      have HV := hide hv
      clear hv
      go_upto_region 1 with fail
      go_cut [4] (fun s4 wx => s4 = .int .i64 (m : Int) ∧ HashAt wx b o v (Sha.over pc c (t.data.toList.take m)) x.length ∧ Kept w wx b o 73)
      case first =>
        go_region_held3 (fun w' => w'.cell? ⟨b, o + 72, none⟩ = some (.int .u64 (x.length : Int))) (first | exact keep_cnt hcnt (by simp; omega) | go_keep)
          ((refine step_copy_min (by rfl) _ _ _ _ (by rfl) 5 Tryz.underlying27 sizeOf8 b (o + 8 + c) (64 - c) (64 - c) m (by rfl) t (by rfl) HM.out hth.out ?_))
        go_wp2_with fail
        go_meet
        case rel =>
          have hx : c + (t.data.toList.take m).length ≤ 64 := by simp; omega
          have h1 : HashAt wr.drew b o v pc x.length := ⟨HA.out.st, HA.out.buf, HA.out.len, HA.out.cnt, HA.out.there⟩
          exact ⟨rfl, h1.over hx, (HKP.out.drew).setCells _ _ (by simp; omega)⟩
      case rest =>
        obtain ⟨rfl, h1, h2⟩ := hcut
        have d0 := h1.cnt
        have d1 : wc.frozen? ⟨b, o + 72, none⟩ = false := (h1.there 72 (by decide)).2
        have HA1 := hide h1
        have HK1 := hide h2
        clear h1 h2 hcnt
        have hext : Hid ((t.extract m t.size).data.toList = t.data.toList.drop m) := ext_end t m
        have hexs : Hid ((t.extract m t.size).size = t.size - m) := by show _ = _; simp [ByteArray.size_extract]
        have HX2 : Hid ((x ++ t.data.toList.take m) ++ t.data.toList.drop m = l ++ s.data.toList) := by
          show _ = _
          rw [List.append_assoc, List.take_append_drop]; exact HX.out
        have htl : Hid ((t.data.toList.take m).length = m) := by show _ = _; simp; omega
        have HN : Hid (HashAt (wc.setCell ⟨b, o + 72, none⟩ (.int .u64 ((x.length : Int) + (m : Int)))) b o v (Sha.over pc c (t.data.toList.take m)) (x.length + m)) := HA1.out.count
        have HKN : Hid (Kept w (wc.setCell ⟨b, o + 72, none⟩ (.int .u64 ((x.length : Int) + (m : Int)))) b o 73) := HK1.out.setCell _ (by omega) _
        have hxc := HC.out
        by_cases hfull : c + m = 64
        · have e0 : (((x.length : Int) + (m : Int)).tmod 64 == 0) = true := by rw [Int.tmod_eq_emod_of_nonneg (by omega), beq_iff_eq]; omega
          have e1 : (((x.length : Int) + (m : Int)) % 64 == 0) = true := by rw [beq_iff_eq]; omega
          clear hxc
          have hlen : Hid ((Sha.over pc c (t.data.toList.take m)).length = 64) := by
            show _ = _
            rw [Sha.over_length _ _ _ (by rw [HA.out.len, htl.out]; omega)]; exact HA.out.len
          have HRW : Hid (RW (wc.setCell ⟨b, o + 72, none⟩ (.int .u64 ((x.length : Int) + (m : Int))))) := HK.out.kept HKN.out hne
          have HX1 : Hid (Sha.after (x ++ t.data.toList.take m) ((x ++ t.data.toList.take m).length / 64) = Sha.comp v (Sha.over pc c (t.data.toList.take m))) := by
            show _ = _
            rw [Sha.after_full x _ pc HA.out.len (by rw [HC.out]; exact HP.out) (by rw [HC.out, htl.out]; omega), HC.out, HV.out]
          have HX0 : Hid ((x ++ t.data.toList.take m).length % 64 = 0) := by show _ = _; rw [List.length_append, htl.out]; have := HC.out; omega
          have HX9 : Hid ((x ++ t.data.toList.take m).length = x.length + m) := by show _ = _; rw [List.length_append, htl.out]
          go_upto_region 5 with fail
          generalize wc.setCell ⟨b, o + 72, none⟩ (.int .u64 ((x.length : Int) + (m : Int))) = Wn at *
          generalize hpc' : Sha.over pc c (t.data.toList.take m) = pc' at *
          clear hpc' d0 d1 HA1 HK1
          obtain ⟨X, hX⟩ : ∃ X, Sha.comp v pc' = X := ⟨_, rfl⟩
          have HCX := hide hX
          clear hX
          obtain ⟨s0, s1, s2, s3, s4, s5, s6, s7, z0, z1, z2, z3, z4, z5, z6, z7⟩ := HN.out.st8
          go_region_with (go_at_call 78; refine (takePiece_at v b (o + 8) pc' X HCX.out hlen.out _ (by exact HN.out.buf) (by exact HRW.out)).mono ?_; rintro e w2 ⟨rfl, hb2⟩; have N2 := HN.out.below (((Below.refl _ _).drew).trans hb2); obtain ⟨p0, p1, p2, p3, p4, p5, p6, p7, y0, y1, y2, y3, y4, y5, y6, y7⟩ := N2.st8)
          have N3 : HashAt (w2.setCells b o ((Sha.words X).map V)) b o X pc' (x.length + m) := N2.state X
          have K3 : Kept w (w2.setCells b o ((Sha.words X).map V)) b o 73 := ((HKN.out.drew).below hb2 (Nat.lt_of_lt_of_le HKB.out (Nat.le_refl _))).setCells _ _ (by simp [Sha.words])
          have N4 := hide N3
          have K4 := hide K3
          clear N3 K3 N2 hb2 s0 s1 s2 s3 s4 s5 s6 s7 z0 z1 z2 z3 z4 z5 z6 z7 p0 p1 p2 p3 p4 p5 p6 p7 y0 y1 y2 y3 y4 y5 y6 y7
          have hW : Hid (((((((((w2.setCell ⟨b, o, none⟩ (V X.a)).setCell ⟨b, o + 1, none⟩ (V X.b)).setCell ⟨b, o + 2, none⟩ (V X.c)).setCell ⟨b, o + 3, none⟩ (V X.d)).setCell ⟨b, o + 4, none⟩ (V X.e)).setCell ⟨b, o + 5, none⟩ (V X.f)).setCell ⟨b, o + 6, none⟩ (V X.g)).setCell ⟨b, o + 7, none⟩ (V X.h)) = w2.setCells b o ((Sha.words X).map V)) := rfl
          rw [hW.out]
          generalize w2.setCells b o ((Sha.words X).map V) = W3 at *
          clear hW
          go_wp2_with fail
          go_roundw
          case rel =>
            have R : HashOf W3 b o (x ++ t.data.toList.take m) := by
              refine ⟨pc', ?_, ?_⟩
              · rw [HX1.out, HCX.out, HX9.out]; exact N4.out
              · rw [HX0.out]
                have h0 := HX0.out
                rw [List.drop_of_length_le (by omega)]; rfl
            have R2 : x ++ t.data.toList.take m ++ (t.extract m t.size).data.toList = l ++ s.data.toList := by rw [hext.out]; exact HX2.out
            have R3 : (x ++ t.data.toList.take m).length + (t.extract m t.size).size = l.length + s.size := by rw [HX9.out, hexs.out]; omega
            first
              | exact ⟨x ++ t.data.toList.take m, t.extract m t.size, rfl, R2, R3, R, K4.out⟩
              | ((repeat apply Exists.intro); exact ⟨⟨x ++ t.data.toList.take m, t.extract m t.size, rfl, R2, R3, R, K4.out⟩, rfl⟩)
          case measure => simp only [strLen]; rw [hexs.out]; omega
        · have e0 : (((x.length : Int) + (m : Int)).tmod 64 == 0) = false := by rw [Int.tmod_eq_emod_of_nonneg (by omega), beq_eq_false_iff_ne]; omega
          have e1 : (((x.length : Int) + (m : Int)) % 64 == 0) = false := by rw [beq_eq_false_iff_ne]; omega
          clear hxc
          go_wp2_with fail
          go_roundw
          case rel =>
            have R : HashOf (wc.setCell ⟨b, o + 72, none⟩ (.int .u64 ((x.length : Int) + (m : Int)))) b o (x ++ t.data.toList.take m) := by
              have hb := Sha.buf_part x (t.data.toList.take m) pc HA.out.len (by rw [HC.out]; exact HP.out) (by rw [HC.out, htl.out]; omega)
              refine ⟨Sha.over pc c (t.data.toList.take m), ?_, ?_⟩
              · rw [hb.1, Sha.after_append _ _ _ (by omega), HV.out, List.length_append, htl.out]
                exact HN.out
              · rw [← HC.out]; exact hb.2
            have R2 : x ++ t.data.toList.take m ++ (t.extract m t.size).data.toList = l ++ s.data.toList := by rw [hext.out]; exact HX2.out
            have R3 : (x ++ t.data.toList.take m).length + (t.extract m t.size).size = l.length + s.size := by rw [List.length_append, htl.out, hexs.out]; omega
            first
              | exact ⟨x ++ t.data.toList.take m, t.extract m t.size, rfl, R2, R3, R, HKN.out⟩
              | ((repeat apply Exists.intro); exact ⟨⟨x ++ t.data.toList.take m, t.extract m t.size, rfl, R2, R3, R, HKN.out⟩, rfl⟩)
          case measure => simp only [strLen]; rw [hexs.out]; omega
    · have h0 : t.size = 0 := by omega
      have ht0 : t.data.toList = [] := List.eq_nil_of_length_eq_zero (by simpa using h0)
      rw [ht0, List.append_nil] at hxt
      have HX := hide hx
      have HKP := hide hkp
      have HXT := hide hxt
      clear hx hkp hxt ht0
      go_wp2_with fail
      go_end0
      rw [← HXT.out]
      exact ⟨rfl, HX.out, HKP.out⟩
end Go.Proofs.YtocpikgcbibcoaaGreatDoor.shaw
