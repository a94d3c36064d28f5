import Derived.Test.YtkibaedocieceaaDoorRows
import Derived.Test.YtkibaedocieceaaDoorDkMath
import Derived.Test.YtkibaedocieceaaDoorRanges
import Derived.WalkKit
import Derived.WalkSpells
import Derived.WalkLawsBesides
import Derived.Outline
import Derived.Laws.BitsAllLaws
import Derived.Laws.IdiomStrings
import Derived.Deep.OwnRows
import Derived.Deep.MidRow
import Derived.Deep.AppendSrc
import Derived.Laws.IdiomCopy
import Derived.Lib.AppendZerosOnto
namespace Go.Proofs.YtkibaedocieceaaDoor.dk
open Go.ChangeShapes Go.WideShapes Go.ChangeAt Go.RowKit Go.Proofs.YtkibaedocieceaaDoor.common

abbrev B (c : UInt8) : Value := .int .u8 (c.toNat : Int)
abbrev ptr (p : Nat) : Value := .pointer (some ⟨p, 0, none⟩)
theorem info8 : (Tryd.prog.info? 5).map (fun i => (i.zero, i.size, i.bytes)) = some (some (.int .u8 0), 1, 1) := by kernel_rfl
theorem infoA : (Tryd.prog.info? 76).map (fun i => (i.zero, i.size, i.bytes)) = some (some (.agg #[.int .i64 0, .int .i64 0]), 2, 16) := by kernel_rfl

/-- a line: a slice of one's own that may have been cut at its head; gb: the block that it lies in -/
def Ln (w : World) (e : TypeId) (size : Nat) (gb : Option Nat) (v : Value) (n : Nat) (xs : List Value) : Prop :=
  xs.length = n * size ∧ ((gb = none ∧ n = 0 ∧ ∃ ao, v = .slice ao 0 0) ∨
    ∃ g o cap, gb = some g ∧ v = .slice (some ⟨g, o, none⟩) n cap ∧ (∃ cur, w.heap[g]? = some (.cells cur e (0, 0))) ∧ 0 < cap ∧ n ≤ cap ∧ cap ≤ maxLen ∧ w.there g o (cap * size) ∧ w.rangeAt g o xs)

theorem there_block {w w' : World} {g o n : Nat} (h : w.there g o n) (hb : w'.heap[g]? = w.heap[g]?) : w'.there g o n := fun j hj =>
  ⟨by rw [World.cell?_of_block (a := ⟨g, o + j, none⟩) hb]; exact (h j hj).1, by rw [World.frozen?_of_block (a := ⟨g, o + j, none⟩) hb]; exact (h j hj).2⟩
theorem range_block {w w' : World} {g o : Nat} {xs : List Value} (h : w.rangeAt g o xs) (hb : w'.heap[g]? = w.heap[g]?) : w'.rangeAt g o xs := fun j u hu => by
  rw [World.cell?_of_block (a := ⟨g, o + j, none⟩) hb]; exact h j u hu

theorem Ln.keep {w w' : World} {e : TypeId} {size : Nat} {gb : Option Nat} {v : Value} {n : Nat} {xs : List Value} (h : Ln w e size gb v n xs) (hb : ∀ g, gb = some g → w'.heap[g]? = w.heap[g]?) : Ln w' e size gb v n xs := by
  refine ⟨h.1, ?_⟩
  rcases h.2 with h1 | ⟨g, o, cap, rfl, hv, ⟨cur, hc⟩, h2, h3, hm, h4, h5⟩
  · exact Or.inl h1
  · have hg := hb g rfl
    exact Or.inr ⟨g, o, cap, rfl, hv, ⟨cur, hg.trans hc⟩, h2, h3, hm, there_block h4 hg, range_block h5 hg⟩
theorem Ln.lt {w : World} {e : TypeId} {size : Nat} {gb : Option Nat} {v : Value} {n : Nat} {xs : List Value} (h : Ln w e size gb v n xs) : ∀ g, gb = some g → g < w.heap.size ∧ ∃ cur, w.heap[g]? = some (.cells cur e (0, 0)) := by
  intro g hg
  rcases h.2 with ⟨h1, _⟩ | ⟨g', o, cap, h1, hv, ⟨cur, hc⟩, _⟩
  · rw [h1] at hg; cases hg
  · rw [h1] at hg
    cases hg
    exact ⟨(Array.getElem?_eq_some_iff.1 hc).1, cur, hc⟩
theorem Ln.len {w : World} {e : TypeId} {size : Nat} {gb : Option Nat} {v : Value} {n : Nat} {xs : List Value} (h : Ln w e size gb v n xs) : ∃ ao cap, v = .slice ao n cap := by
  rcases h.2 with ⟨_, rfl, ao, rfl⟩ | ⟨g, o, cap, _, rfl, _⟩
  · exact ⟨ao, 0, rfl⟩
  · exact ⟨_, cap, rfl⟩
theorem ln_nil (w : World) (e : TypeId) (size : Nat) : Ln w e size none (.slice none 0 0) 0 [] := ⟨by simp, Or.inl ⟨rfl, rfl, none, rfl⟩⟩

/-- the first one of a line is taken -/
theorem Ln.tail {w : World} {e : TypeId} {size : Nat} {gb : Option Nat} {v : Value} {n : Nat} {x xs : List Value} (h : Ln w e size gb v (n + 1) (x ++ xs)) (hx : x.length = size) :
    ∃ g o cap, gb = some g ∧ v = .slice (some ⟨g, o, none⟩) (n + 1) (cap + 1) ∧ n ≤ cap ∧ w.rangeAt g o x ∧ g < w.heap.size ∧
      ∃ gb', (gb' = gb ∨ gb' = none) ∧ Ln w e size gb' (.slice (some (if cap = 0 then ⟨g, o, none⟩ else ⟨g, o + size, none⟩)) n cap) n xs := by
  have hl := h.1
  rw [List.length_append, hx, Nat.add_mul, Nat.one_mul] at hl
  have hlx : xs.length = n * size := by omega
  rcases h.2 with ⟨_, h0, _⟩ | ⟨g, o, cap, rfl, rfl, ⟨cur, hc⟩, h2, h3, hm, h4, h5⟩
  · cases h0
  obtain ⟨c, rfl⟩ : ∃ c, cap = c + 1 := ⟨cap - 1, by omega⟩
  refine ⟨g, o, c, rfl, rfl, by omega, fun j u hu => h5 j u ?_, (Array.getElem?_eq_some_iff.1 hc).1, ?_⟩
  · rw [List.getElem?_append_left (List.getElem?_eq_some_iff.1 hu).1]; exact hu
  · by_cases hc0 : c = 0
    · subst hc0
      obtain rfl : n = 0 := by omega
      exact ⟨none, Or.inr rfl, hlx, Or.inl ⟨rfl, rfl, _, rfl⟩⟩
    · refine ⟨some g, Or.inl rfl, hlx, Or.inr ⟨g, o + size, c, rfl, by rw [if_neg hc0], ⟨cur, hc⟩, by omega, by omega, by omega, fun j hj => ?_, fun j u hu => ?_⟩⟩
      · have := h4 (size + j) (by rw [Nat.add_mul, Nat.one_mul]; omega)
        rwa [← Nat.add_assoc] at this
      · have := h5 (size + j) u (by rw [List.getElem?_append_right (by omega), hx, Nat.add_sub_cancel_left]; exact hu)
        rwa [← Nat.add_assoc] at this

theorem cells_set {w : World} {g : Nat} {cur : Array Value} {e : TypeId} {fz : Nat × Nat} (a : Addr) (v : Value) (h : w.heap[g]? = some (.cells cur e fz)) : ∃ cur', (w.setCell a v).heap[g]? = some (.cells cur' e fz) := by
  by_cases hg : a.block = g
  · subst hg
    exact ⟨if a.spot.isSome then cur else cur.setIfInBounds a.off v, by simp [World.setCell, Array.getElem?_modify, h]⟩
  · exact ⟨cur, by simp [World.setCell, Array.getElem?_modify, h, hg]⟩
theorem cells_sets {g : Nat} {e : TypeId} {fz : Nat × Nat} (b : Nat) : ∀ (vs : List Value) (o : Nat) (w : World) (cur : Array Value), w.heap[g]? = some (.cells cur e fz) → ∃ cur', (w.setCells b o vs).heap[g]? = some (.cells cur' e fz)
  | [], _, _, cur, h => ⟨cur, h⟩
  | v :: r, o, w, cur, h => by
    obtain ⟨c', h'⟩ := cells_set (⟨b, o, none⟩ : Addr) v h
    exact cells_sets b r (o + 1) _ c' h'

/-- one more in the room behind a line -/
theorem Ln.room {w : World} {e : TypeId} {size g o n cap : Nat} {xs news : List Value} (h : Ln w e size (some g) (.slice (some ⟨g, o, none⟩) n cap) n xs) (hr : n + 1 ≤ cap) (hn : news.length = size) :
    Ln (w.setCells g (o + n * size) news) e size (some g) (.slice (some ⟨g, o, none⟩) (n + 1) cap) (n + 1) (xs ++ news) := by
  have hl := h.1
  refine ⟨by rw [List.length_append, hl, hn, Nat.add_mul, Nat.one_mul], ?_⟩
  rcases h.2 with ⟨h0, _⟩ | ⟨g', o', cap', h0, hv, ⟨cur, hc⟩, h2, h3, hm, h4, h5⟩
  · cases h0
  cases h0
  cases hv
  have hroom : n * size + size ≤ cap * size := by
    have := Nat.mul_le_mul_right size hr
    rwa [Nat.add_mul, Nat.one_mul] at this
  have ht : w.there g (o + n * size) news.length := fun j hj => by
    have := h4 (n * size + j) (by omega)
    rwa [← Nat.add_assoc] at this
  refine Or.inr ⟨g, o, cap, rfl, rfl, cells_sets g _ _ _ _ hc, by omega, by omega, hm, World.there_setCells h4 _ _ _, ?_⟩
  have r1 : (w.setCells g (o + n * size) news).rangeAt g o xs := World.rangeAt_setCells_apart h5 g (o + n * size) news (Or.inr (Or.inl (by omega)))
  have r2 := World.rangeAt_setCells_same w g (o + n * size) news ht
  intro j u hu
  by_cases hj : j < xs.length
  · rw [List.getElem?_append_left hj] at hu
    exact r1 j u hu
  · rw [List.getElem?_append_right (by omega)] at hu
    have := r2 (j - xs.length) u hu
    have e1 : o + n * size + (j - xs.length) = o + j := by omega
    rwa [e1] at this

/-- a line in a new block -/
theorem Ln.own {w : World} {base : Nat} {e : TypeId} {size : Nat} {v : Value} {n : Nat} {xs : List Value} (h : w.ownsRow base e size v n xs) (hn : 0 < n) : ∃ g, Ln w e size (some g) v n xs ∧ base ≤ g := by
  rcases h.2 with ⟨_, h0⟩ | ⟨g, cap, cur, rfl, hb, hc, h1, h2, h3, h4⟩
  · omega
  refine ⟨g, ⟨h.1, Or.inr ⟨g, 0, cap, rfl, rfl, ⟨cur, hc⟩, by omega, h1, h2, fun j hj => ⟨?_, ?_⟩, fun j u hu => ?_⟩⟩, hb⟩
  · have : j < cur.size := by omega
    simp [World.cell?, hc, this]
  · simp [World.frozen?, hc]
  · have hj := (List.getElem?_eq_some_iff.1 hu).1
    rw [← h4, List.getElem?_take] at hu
    split at hu
    · simp only [World.cell?, hc]
      simpa using hu
    · cases hu



theorem sets_other (w : World) (g o : Nat) (vs : List Value) (k : Nat) (h : k ≠ g) : (w.setCells g o vs).heap[k]? = w.heap[k]? := by
  induction vs generalizing o w with
  | nil => rfl
  | cons v r ih =>
    show ((w.setCell ⟨g, o, none⟩ v).setCells g (o + 1) r).heap[k]? = _
    rw [ih]
    simp [World.setCell, Array.getElem?_modify, Ne.symm h]
theorem set_other (w : World) (a : Addr) (v : Value) (k : Nat) (h : k ≠ a.block) : (w.setCell a v).heap[k]? = w.heap[k]? := by
  simp [World.setCell, Array.getElem?_modify, Ne.symm h]
theorem size_set (w : World) (a : Addr) (v : Value) : (w.setCell a v).heap.size = w.heap.size := by simp [World.setCell]
theorem size_sets (g : Nat) : ∀ (vs : List Value) (o : Nat) (w : World), (w.setCells g o vs).heap.size = w.heap.size
  | [], _, _ => rfl
  | v :: r, o, w => by show ((w.setCell ⟨g, o, none⟩ v).setCells g (o + 1) r).heap.size = _; rw [size_sets g r, size_set]
theorem os_sets (g : Nat) : ∀ (vs : List Value) (o : Nat) (w : World), (w.setCells g o vs).os = w.os ∧ (w.setCells g o vs).tape = w.tape ∧ (w.setCells g o vs).output = w.output
  | [], _, _ => ⟨rfl, rfl, rfl⟩
  | v :: r, o, w => os_sets g r (o + 1) (w.setCell ⟨g, o, none⟩ v)

/-- all but some blocks is as it was -/
structure Fr (F : List Nat) (w w' : World) : Prop where
  os : w'.os = w.os
  tape : w'.tape = w.tape
  output : w'.output = w.output
  size : w.heap.size ≤ w'.heap.size
  block : ∀ k, k < w.heap.size → k ∉ F → w'.heap[k]? = w.heap[k]?
theorem Fr.refl (F : List Nat) (w : World) : Fr F w w := ⟨rfl, rfl, rfl, Nat.le_refl _, fun _ _ _ => rfl⟩
theorem Fr.trans {F G : List Nat} {a b c : World} (h : Fr F a b) (k : Fr G b c) (hs : ∀ i ∈ G, i ∈ F ∨ a.heap.size ≤ i) : Fr F a c :=
  ⟨k.os.trans h.os, k.tape.trans h.tape, k.output.trans h.output, Nat.le_trans h.size k.size, fun i hi hr => (k.block i (Nat.lt_of_lt_of_le hi h.size) (fun hG => by
    rcases hs i hG with h1 | h1
    · exact hr h1
    · omega)).trans (h.block i hi hr)⟩
theorem Fr.of {F : List Nat} {w w' : World} (h : Below w.heap.size w w') : Fr F w w' := ⟨h.os, h.tape, h.output, h.size, fun k hk _ => h.block k hk⟩
theorem Fr.next {F : List Nat} {a w w' : World} (h : Fr F a w) (hb : Below w.heap.size w w') : Fr F a w' := h.trans (Fr.of (F := []) hb) (fun i hi => by cases hi)
theorem Fr.set {F : List Nat} {a w : World} (h : Fr F a w) (q : Addr) (v : Value) (hq : q.block ∈ F ∨ a.heap.size ≤ q.block) : Fr F a (w.setCell q v) :=
  ⟨h.os, h.tape, h.output, by rw [size_set]; exact h.size, fun k hk hn => (set_other _ _ _ _ (fun e => by
    rcases hq with h1 | h1
    · exact hn (e ▸ h1)
    · omega)).trans (h.block k hk hn)⟩
theorem Fr.sets {F : List Nat} {a w : World} (h : Fr F a w) (g o : Nat) (vs : List Value) (hq : g ∈ F ∨ a.heap.size ≤ g) : Fr F a (w.setCells g o vs) := by
  obtain ⟨e1, e2, e3⟩ := os_sets g vs o w
  exact ⟨e1.trans h.os, e2.trans h.tape, e3.trans h.output, by rw [size_sets]; exact h.size, fun k hk hn => (sets_other _ _ _ _ _ (fun e => by
    rcases hq with h1 | h1
    · exact hn (e ▸ h1)
    · omega)).trans (h.block k hk hn)⟩
theorem Fr.alloc {F : List Nat} {a w : World} (h : Fr F a w) (o : Obj) : Fr F a (w.alloc o) := h.next ((Below.refl _ _).alloc (Nat.le_refl _) _)
theorem Fr.drew {F : List Nat} {a w : World} (h : Fr F a w) : Fr F a w.drew := ⟨h.os, h.tape, h.output, h.size, h.block⟩
theorem Fr.drewN {F : List Nat} {a w : World} (h : Fr F a w) (n : Nat) : Fr F a (w.drewN n) := ⟨h.os, h.tape, h.output, h.size, h.block⟩
theorem Fr.below {F : List Nat} {base : Nat} {w w' : World} (h : Fr F w w') (hF : ∀ k ∈ F, base ≤ k) (hb : base ≤ w.heap.size) : Below base w w' :=
  ⟨h.os, h.tape, h.output, h.size, fun k hk => h.block k (by omega) (fun hm => by have := hF k hm; omega)⟩
theorem Fr.mono {F G : List Nat} {w w' : World} (h : Fr F w w') (hs : ∀ k ∈ F, k ∈ G) : Fr G w w' := ⟨h.os, h.tape, h.output, h.size, fun k hk hn => h.block k hk (fun hm => hn (hs k hm))⟩

/-- the cells of arms -/
def acs (l : List (Nat × Int)) : List Value := l.flatMap fun a => [.int .i64 (a.1 : Int), .int .i64 a.2]
theorem acs_cons (a : Nat × Int) (l : List (Nat × Int)) : acs (a :: l) = [.int .i64 (a.1 : Int), .int .i64 a.2] ++ acs l := rfl
theorem acs_snoc (a : Nat × Int) (l : List (Nat × Int)) : acs (l ++ [a]) = acs l ++ [.int .i64 (a.1 : Int), .int .i64 a.2] := by simp [acs, List.flatMap_append]

/-- a disk in memory: its own cells, its bytes, its arms; F: the blocks that are its own -/
structure Lk (w : World) (p : Nat) (gb ga : Option Nat) (vb va : Value) (x : St) : Prop where
  cell : w.heap[p]? = some (.cells #[vb, .int .i64 (x.s : Int), .int .i64 (x.r : Int), va, .bool x.d] 66)
  bytes : Ln w 5 1 gb vb x.b.length (x.b.map B)
  arms : Ln w 76 2 ga va x.a.length (acs x.a)
def fp (p : Nat) (gb ga : Option Nat) : List Nat := p :: (gb.toList ++ ga.toList)
theorem fp_p (p : Nat) (gb ga : Option Nat) : p ∈ fp p gb ga := List.mem_cons_self ..
theorem fp_b {p g : Nat} {gb ga : Option Nat} (h : gb = some g) : g ∈ fp p gb ga := by subst h; simp [fp]
theorem fp_a {p g : Nat} {gb ga : Option Nat} (h : ga = some g) : g ∈ fp p gb ga := by subst h; simp [fp]
theorem fp_cases {p k : Nat} {gb ga : Option Nat} (h : k ∈ fp p gb ga) : k = p ∨ gb = some k ∨ ga = some k := by
  rcases List.mem_cons.1 h with h | h
  · exact Or.inl h
  · rcases List.mem_append.1 h with h | h
    · exact Or.inr (Or.inl (by simpa using h))
    · exact Or.inr (Or.inr (by simpa using h))
def Dk (w : World) (p : Nat) (F : List Nat) (x : St) : Prop := ∃ gb ga vb va, F = fp p gb ga ∧ Lk w p gb ga vb va x
theorem Lk.keep {w w' : World} {p : Nat} {gb ga : Option Nat} {vb va : Value} {x : St} (h : Lk w p gb ga vb va x) (hk : ∀ k ∈ fp p gb ga, w'.heap[k]? = w.heap[k]?) : Lk w' p gb ga vb va x :=
  ⟨(hk p (fp_p _ _ _)).trans h.cell, h.bytes.keep fun g hg => hk g (fp_b hg), h.arms.keep fun g hg => hk g (fp_a hg)⟩
theorem Lk.lt {w : World} {p : Nat} {gb ga : Option Nat} {vb va : Value} {x : St} (h : Lk w p gb ga vb va x) : ∀ k ∈ fp p gb ga, k < w.heap.size := fun k hk => by
  rcases fp_cases hk with rfl | hb | ha
  · exact (Array.getElem?_eq_some_iff.1 h.cell).1
  · exact (h.bytes.lt k hb).1
  · exact (h.arms.lt k ha).1
theorem Dk.keep {w w' : World} {p : Nat} {F : List Nat} {x : St} (h : Dk w p F x) (hk : ∀ k ∈ F, w'.heap[k]? = w.heap[k]?) : Dk w' p F x := by
  obtain ⟨gb, ga, vb, va, rfl, h⟩ := h
  exact ⟨gb, ga, vb, va, rfl, h.keep hk⟩
theorem Dk.lt {w : World} {p : Nat} {F : List Nat} {x : St} (h : Dk w p F x) : ∀ k ∈ F, k < w.heap.size := by
  obtain ⟨gb, ga, vb, va, rfl, h⟩ := h
  exact h.lt
theorem Dk.mem {w : World} {p : Nat} {F : List Nat} {x : St} (h : Dk w p F x) : p ∈ F := by
  obtain ⟨gb, ga, vb, va, rfl, h⟩ := h
  exact fp_p _ _ _
theorem Dk.below {w w' : World} {p : Nat} {F : List Nat} {x : St} (h : Dk w p F x) (hb : Below w.heap.size w w') : Dk w' p F x := h.keep fun k hk => hb.block k (h.lt k hk)
theorem Dk.other {w w' : World} {p : Nat} {F G : List Nat} {x : St} (h : Dk w p F x) (hf : Fr G w w') (hn : ∀ k ∈ F, k ∉ G) : Dk w' p F x := h.keep fun k hk => hf.block k (h.lt k hk) (hn k hk)
/-- a disk behind a call on it -/
def Mv (w : World) (p : Nat) (F : List Nat) (x : St) (w' : World) : Prop := ∃ F', Dk w' p F' x ∧ Fr F w w' ∧ ∀ k ∈ F', k ∈ F ∨ w.heap.size ≤ k
theorem Dk.stay {w : World} {p : Nat} {F : List Nat} {x : St} (h : Dk w p F x) {w' : World} (hb : Below w.heap.size w w') : Mv w p F x w' := ⟨F, h.below hb, Fr.of hb, fun _ hk => Or.inl hk⟩
theorem Mv.next {w w1 w2 : World} {p : Nat} {F : List Nat} {x : St} (h : Mv w p F x w1) (hb : Below w1.heap.size w1 w2) : Mv w p F x w2 := by
  obtain ⟨F', h1, h2, h3⟩ := h
  exact ⟨F', h1.below hb, h2.next hb, h3⟩
theorem Mv.trans {w w1 w2 : World} {p : Nat} {F F1 : List Nat} {x : St} (hf : Fr F w w1) (hs : ∀ k ∈ F1, k ∈ F ∨ w.heap.size ≤ k) (h : Mv w1 p F1 x w2) : Mv w p F x w2 := by
  obtain ⟨F2, h1, h2, h3⟩ := h
  refine ⟨F2, h1, hf.trans h2 hs, fun k hk => ?_⟩
  rcases h3 k hk with h4 | h4
  · exact hs k h4
  · exact Or.inr (Nat.le_trans hf.size h4)
end Go.Proofs.YtkibaedocieceaaDoor.dk
