import Derived.Test.YtkamnkldgeaaaaaDoorRows
import Derived.Test.YtkamnkldgeaaaaaDoorRanges
import Derived.WalkKit
import Derived.WalkSpells
import Derived.WalkLawsBesides
import Derived.Outline
import Derived.Laws.BitsAllLaws
import Derived.Laws.IdiomStrings
import Derived.Deep.OwnRows
import Derived.Deep.MidRow
import Derived.Deep.AppendSrc
import Derived.Laws.IdiomCopy
import Derived.Lib.AppendZerosOnto
import Derived.Laws.CopyOwn
import Derived.Laws.BytesArg
namespace Go.Proofs.YtkamnkldgeaaaaaDoor.dk
open Go.ChangeShapes Go.WideShapes Go.ChangeAt Go.RowKit Go.Proofs.YtkamnkldgeaaaaaDoor.common

abbrev B (c : UInt8) : Value := .int .u8 (c.toNat : Int)
abbrev ptr (p : Nat) : Value := .pointer (some ⟨p, 0, none⟩)
theorem info8 : (Tryd.prog.info? 5).map (fun i => (i.zero, i.size, i.bytes)) = some (some (.int .u8 0), 1, 1) := by kernel_rfl

/-- a line: a slice of one's own that may have been cut at its head; gb: the block that it lies in -/
def Ln (w : World) (e : TypeId) (size : Nat) (gb : Option Nat) (v : Value) (n : Nat) (xs : List Value) : Prop :=
  xs.length = n * size ∧ ((gb = none ∧ n = 0 ∧ ∃ ao, v = .slice ao 0 0) ∨
    ∃ g o cap, gb = some g ∧ v = .slice (some ⟨g, o, none⟩) n cap ∧ (∃ cur, w.heap[g]? = some (.cells cur e (0, 0))) ∧ 0 < cap ∧ n ≤ cap ∧ cap ≤ maxLen ∧ w.there g o (cap * size) ∧ w.rangeAt g o xs)

theorem there_block {w w' : World} {g o n : Nat} (h : w.there g o n) (hb : w'.heap[g]? = w.heap[g]?) : w'.there g o n := fun j hj =>
  ⟨by rw [World.cell?_of_block (a := ⟨g, o + j, none⟩) hb]; exact (h j hj).1, by rw [World.frozen?_of_block (a := ⟨g, o + j, none⟩) hb]; exact (h j hj).2⟩
theorem range_block {w w' : World} {g o : Nat} {xs : List Value} (h : w.rangeAt g o xs) (hb : w'.heap[g]? = w.heap[g]?) : w'.rangeAt g o xs := fun j u hu => by
  rw [World.cell?_of_block (a := ⟨g, o + j, none⟩) hb]; exact h j u hu

theorem Ln.keep {w w' : World} {e : TypeId} {size : Nat} {gb : Option Nat} {v : Value} {n : Nat} {xs : List Value} (h : Ln w e size gb v n xs) (hb : ∀ g, gb = some g → w'.heap[g]? = w.heap[g]?) : Ln w' e size gb v n xs := by
  refine ⟨h.1, ?_⟩
  rcases h.2 with h1 | ⟨g, o, cap, rfl, hv, ⟨cur, hc⟩, h2, h3, hm, h4, h5⟩
  · exact Or.inl h1
  · have hg := hb g rfl
    exact Or.inr ⟨g, o, cap, rfl, hv, ⟨cur, hg.trans hc⟩, h2, h3, hm, there_block h4 hg, range_block h5 hg⟩
theorem Ln.lt {w : World} {e : TypeId} {size : Nat} {gb : Option Nat} {v : Value} {n : Nat} {xs : List Value} (h : Ln w e size gb v n xs) : ∀ g, gb = some g → g < w.heap.size ∧ ∃ cur, w.heap[g]? = some (.cells cur e (0, 0)) := by
  intro g hg
  rcases h.2 with ⟨h1, _⟩ | ⟨g', o, cap, h1, hv, ⟨cur, hc⟩, _⟩
  · rw [h1] at hg; cases hg
  · rw [h1] at hg
    cases hg
    exact ⟨(Array.getElem?_eq_some_iff.1 hc).1, cur, hc⟩
theorem Ln.len {w : World} {e : TypeId} {size : Nat} {gb : Option Nat} {v : Value} {n : Nat} {xs : List Value} (h : Ln w e size gb v n xs) : ∃ ao cap, v = .slice ao n cap := by
  rcases h.2 with ⟨_, rfl, ao, rfl⟩ | ⟨g, o, cap, _, rfl, _⟩
  · exact ⟨ao, 0, rfl⟩
  · exact ⟨_, cap, rfl⟩
theorem ln_nil (w : World) (e : TypeId) (size : Nat) : Ln w e size none (.slice none 0 0) 0 [] := ⟨by simp, Or.inl ⟨rfl, rfl, none, rfl⟩⟩

/-- the first one of a line is taken -/
theorem Ln.tail {w : World} {e : TypeId} {size : Nat} {gb : Option Nat} {v : Value} {n : Nat} {x xs : List Value} (h : Ln w e size gb v (n + 1) (x ++ xs)) (hx : x.length = size) :
    ∃ g o cap, gb = some g ∧ v = .slice (some ⟨g, o, none⟩) (n + 1) (cap + 1) ∧ n ≤ cap ∧ w.rangeAt g o x ∧ g < w.heap.size ∧
      ∃ gb', (gb' = gb ∨ gb' = none) ∧ Ln w e size gb' (.slice (some (if cap = 0 then ⟨g, o, none⟩ else ⟨g, o + size, none⟩)) n cap) n xs := by
  have hl := h.1
  rw [List.length_append, hx, Nat.add_mul, Nat.one_mul] at hl
  have hlx : xs.length = n * size := by omega
  rcases h.2 with ⟨_, h0, _⟩ | ⟨g, o, cap, rfl, rfl, ⟨cur, hc⟩, h2, h3, hm, h4, h5⟩
  · cases h0
  obtain ⟨c, rfl⟩ : ∃ c, cap = c + 1 := ⟨cap - 1, by omega⟩
  refine ⟨g, o, c, rfl, rfl, by omega, fun j u hu => h5 j u ?_, (Array.getElem?_eq_some_iff.1 hc).1, ?_⟩
  · rw [List.getElem?_append_left (List.getElem?_eq_some_iff.1 hu).1]; exact hu
  · by_cases hc0 : c = 0
    · subst hc0
      obtain rfl : n = 0 := by omega
      exact ⟨none, Or.inr rfl, hlx, Or.inl ⟨rfl, rfl, _, rfl⟩⟩
    · refine ⟨some g, Or.inl rfl, hlx, Or.inr ⟨g, o + size, c, rfl, by rw [if_neg hc0], ⟨cur, hc⟩, by omega, by omega, by omega, fun j hj => ?_, fun j u hu => ?_⟩⟩
      · have := h4 (size + j) (by rw [Nat.add_mul, Nat.one_mul]; omega)
        rwa [← Nat.add_assoc] at this
      · have := h5 (size + j) u (by rw [List.getElem?_append_right (by omega), hx, Nat.add_sub_cancel_left]; exact hu)
        rwa [← Nat.add_assoc] at this

theorem cells_set {w : World} {g : Nat} {cur : Array Value} {e : TypeId} {fz : Nat × Nat} (a : Addr) (v : Value) (h : w.heap[g]? = some (.cells cur e fz)) : ∃ cur', (w.setCell a v).heap[g]? = some (.cells cur' e fz) := by
  by_cases hg : a.block = g
  · subst hg
    exact ⟨if a.spot.isSome then cur else cur.setIfInBounds a.off v, by simp [World.setCell, Array.getElem?_modify, h]⟩
  · exact ⟨cur, by simp [World.setCell, Array.getElem?_modify, h, hg]⟩
theorem cells_sets {g : Nat} {e : TypeId} {fz : Nat × Nat} (b : Nat) : ∀ (vs : List Value) (o : Nat) (w : World) (cur : Array Value), w.heap[g]? = some (.cells cur e fz) → ∃ cur', (w.setCells b o vs).heap[g]? = some (.cells cur' e fz)
  | [], _, _, cur, h => ⟨cur, h⟩
  | v :: r, o, w, cur, h => by
    obtain ⟨c', h'⟩ := cells_set (⟨b, o, none⟩ : Addr) v h
    exact cells_sets b r (o + 1) _ c' h'

/-- one more in the room behind a line -/
theorem Ln.room {w : World} {e : TypeId} {size g o n cap : Nat} {xs news : List Value} (h : Ln w e size (some g) (.slice (some ⟨g, o, none⟩) n cap) n xs) (hr : n + 1 ≤ cap) (hn : news.length = size) :
    Ln (w.setCells g (o + n * size) news) e size (some g) (.slice (some ⟨g, o, none⟩) (n + 1) cap) (n + 1) (xs ++ news) := by
  have hl := h.1
  refine ⟨by rw [List.length_append, hl, hn, Nat.add_mul, Nat.one_mul], ?_⟩
  rcases h.2 with ⟨h0, _⟩ | ⟨g', o', cap', h0, hv, ⟨cur, hc⟩, h2, h3, hm, h4, h5⟩
  · cases h0
  cases h0
  cases hv
  have hroom : n * size + size ≤ cap * size := by
    have := Nat.mul_le_mul_right size hr
    rwa [Nat.add_mul, Nat.one_mul] at this
  have ht : w.there g (o + n * size) news.length := fun j hj => by
    have := h4 (n * size + j) (by omega)
    rwa [← Nat.add_assoc] at this
  refine Or.inr ⟨g, o, cap, rfl, rfl, cells_sets g _ _ _ _ hc, by omega, by omega, hm, World.there_setCells h4 _ _ _, ?_⟩
  have r1 : (w.setCells g (o + n * size) news).rangeAt g o xs := World.rangeAt_setCells_apart h5 g (o + n * size) news (Or.inr (Or.inl (by omega)))
  have r2 := World.rangeAt_setCells_same w g (o + n * size) news ht
  intro j u hu
  by_cases hj : j < xs.length
  · rw [List.getElem?_append_left hj] at hu
    exact r1 j u hu
  · rw [List.getElem?_append_right (by omega)] at hu
    have := r2 (j - xs.length) u hu
    have e1 : o + n * size + (j - xs.length) = o + j := by omega
    rwa [e1] at this

/-- a line in a new block -/
theorem Ln.own {w : World} {base : Nat} {e : TypeId} {size : Nat} {v : Value} {n : Nat} {xs : List Value} (h : w.ownsRow base e size v n xs) (hn : 0 < n) : ∃ g, Ln w e size (some g) v n xs ∧ base ≤ g := by
  rcases h.2 with ⟨_, h0⟩ | ⟨g, cap, cur, rfl, hb, hc, h1, h2, h3, h4⟩
  · omega
  refine ⟨g, ⟨h.1, Or.inr ⟨g, 0, cap, rfl, rfl, ⟨cur, hc⟩, by omega, h1, h2, fun j hj => ⟨?_, ?_⟩, fun j u hu => ?_⟩⟩, hb⟩
  · have : j < cur.size := by omega
    simp [World.cell?, hc, this]
  · simp [World.frozen?, hc]
  · have hj := (List.getElem?_eq_some_iff.1 hu).1
    rw [← h4, List.getElem?_take] at hu
    split at hu
    · simp only [World.cell?, hc]
      simpa using hu
    · cases hu



theorem sets_other (w : World) (g o : Nat) (vs : List Value) (k : Nat) (h : k ≠ g) : (w.setCells g o vs).heap[k]? = w.heap[k]? := by
  induction vs generalizing o w with
  | nil => rfl
  | cons v r ih =>
    show ((w.setCell ⟨g, o, none⟩ v).setCells g (o + 1) r).heap[k]? = _
    rw [ih]
    simp [World.setCell, Array.getElem?_modify, Ne.symm h]
theorem set_other (w : World) (a : Addr) (v : Value) (k : Nat) (h : k ≠ a.block) : (w.setCell a v).heap[k]? = w.heap[k]? := by
  simp [World.setCell, Array.getElem?_modify, Ne.symm h]
theorem size_set (w : World) (a : Addr) (v : Value) : (w.setCell a v).heap.size = w.heap.size := by simp [World.setCell]
theorem size_sets (g : Nat) : ∀ (vs : List Value) (o : Nat) (w : World), (w.setCells g o vs).heap.size = w.heap.size
  | [], _, _ => rfl
  | v :: r, o, w => by show ((w.setCell ⟨g, o, none⟩ v).setCells g (o + 1) r).heap.size = _; rw [size_sets g r, size_set]
theorem os_sets (g : Nat) : ∀ (vs : List Value) (o : Nat) (w : World), (w.setCells g o vs).os = w.os ∧ (w.setCells g o vs).tape = w.tape ∧ (w.setCells g o vs).output = w.output
  | [], _, _ => ⟨rfl, rfl, rfl⟩
  | v :: r, o, w => os_sets g r (o + 1) (w.setCell ⟨g, o, none⟩ v)

/-- all but some blocks is as it was -/
structure Fr (F : List Nat) (w w' : World) : Prop where
  os : w'.os = w.os
  tape : w'.tape = w.tape
  output : w'.output = w.output
  size : w.heap.size ≤ w'.heap.size
  block : ∀ k, k < w.heap.size → k ∉ F → w'.heap[k]? = w.heap[k]?
theorem Fr.refl (F : List Nat) (w : World) : Fr F w w := ⟨rfl, rfl, rfl, Nat.le_refl _, fun _ _ _ => rfl⟩
theorem Fr.trans {F G : List Nat} {a b c : World} (h : Fr F a b) (k : Fr G b c) (hs : ∀ i ∈ G, i ∈ F ∨ a.heap.size ≤ i) : Fr F a c :=
  ⟨k.os.trans h.os, k.tape.trans h.tape, k.output.trans h.output, Nat.le_trans h.size k.size, fun i hi hr => (k.block i (Nat.lt_of_lt_of_le hi h.size) (fun hG => by
    rcases hs i hG with h1 | h1
    · exact hr h1
    · omega)).trans (h.block i hi hr)⟩
theorem Fr.of {F : List Nat} {w w' : World} (h : Below w.heap.size w w') : Fr F w w' := ⟨h.os, h.tape, h.output, h.size, fun k hk _ => h.block k hk⟩
theorem Fr.next {F : List Nat} {a w w' : World} (h : Fr F a w) (hb : Below w.heap.size w w') : Fr F a w' := h.trans (Fr.of (F := []) hb) (fun i hi => by cases hi)
theorem Fr.set {F : List Nat} {a w : World} (h : Fr F a w) (q : Addr) (v : Value) (hq : q.block ∈ F ∨ a.heap.size ≤ q.block) : Fr F a (w.setCell q v) :=
  ⟨h.os, h.tape, h.output, by rw [size_set]; exact h.size, fun k hk hn => (set_other _ _ _ _ (fun e => by
    rcases hq with h1 | h1
    · exact hn (e ▸ h1)
    · omega)).trans (h.block k hk hn)⟩
theorem Fr.sets {F : List Nat} {a w : World} (h : Fr F a w) (g o : Nat) (vs : List Value) (hq : g ∈ F ∨ a.heap.size ≤ g) : Fr F a (w.setCells g o vs) := by
  obtain ⟨e1, e2, e3⟩ := os_sets g vs o w
  exact ⟨e1.trans h.os, e2.trans h.tape, e3.trans h.output, by rw [size_sets]; exact h.size, fun k hk hn => (sets_other _ _ _ _ _ (fun e => by
    rcases hq with h1 | h1
    · exact hn (e ▸ h1)
    · omega)).trans (h.block k hk hn)⟩
theorem Fr.alloc {F : List Nat} {a w : World} (h : Fr F a w) (o : Obj) : Fr F a (w.alloc o) := h.next ((Below.refl _ _).alloc (Nat.le_refl _) _)
theorem Fr.drew {F : List Nat} {a w : World} (h : Fr F a w) : Fr F a w.drew := ⟨h.os, h.tape, h.output, h.size, h.block⟩
theorem Fr.drewN {F : List Nat} {a w : World} (h : Fr F a w) (n : Nat) : Fr F a (w.drewN n) := ⟨h.os, h.tape, h.output, h.size, h.block⟩
theorem Fr.below {F : List Nat} {base : Nat} {w w' : World} (h : Fr F w w') (hF : ∀ k ∈ F, base ≤ k) (hb : base ≤ w.heap.size) : Below base w w' :=
  ⟨h.os, h.tape, h.output, h.size, fun k hk => h.block k (by omega) (fun hm => by have := hF k hm; omega)⟩
theorem Fr.mono {F G : List Nat} {w w' : World} (h : Fr F w w') (hs : ∀ k ∈ F, k ∈ G) : Fr G w w' := ⟨h.os, h.tape, h.output, h.size, fun k hk hn => h.block k hk (fun hm => hn (hs k hm))⟩


/-- bytes that can be read at a slice -/
def Rd (w : World) (v : Value) (l : List UInt8) : Prop := ∃ oa cap, v = .slice oa l.length cap ∧ (0 < l.length → ∃ g o, oa = some ⟨g, o, none⟩ ∧ g < w.heap.size ∧ w.rangeAt g o (l.map B))
theorem rd_nil (w : World) : Rd w (.slice none 0 0) [] := ⟨none, 0, rfl, fun h => absurd h (by decide)⟩
theorem Rd.keep {w w' : World} {v : Value} {l : List UInt8} (h : Rd w v l) (hb : ∀ oa n cap, v = .slice (some oa) n cap → w'.heap[oa.block]? = w.heap[oa.block]?) (hs : w.heap.size ≤ w'.heap.size) : Rd w' v l := by
  obtain ⟨oa, cap, rfl, h⟩ := h
  refine ⟨oa, cap, rfl, fun hl => ?_⟩
  obtain ⟨g, o, rfl, hg, hr⟩ := h hl
  exact ⟨g, o, rfl, by omega, range_block hr (hb _ _ _ rfl)⟩
theorem Rd.below {w w' : World} {v : Value} {l : List UInt8} (h : Rd w v l) (hb : Below w.heap.size w w') : Rd w' v l := by
  obtain ⟨oa, cap, rfl, h⟩ := h
  refine ⟨oa, cap, rfl, fun hl => ?_⟩
  obtain ⟨g, o, rfl, hg, hr⟩ := h hl
  exact ⟨g, o, rfl, Nat.lt_of_lt_of_le hg hb.size, range_block hr (hb.block g hg)⟩
theorem Ln.rd {w : World} {gb : Option Nat} {v : Value} {l : List UInt8} (h : Ln w 5 1 gb v l.length (l.map B)) : Rd w v l := by
  rcases h.2 with ⟨_, h0, ao, rfl⟩ | ⟨g, o, cap, rfl, rfl, ⟨cur, hc⟩, _, _, _, _, hr⟩
  · exact ⟨ao, 0, by rw [h0], fun hl => absurd hl (by omega)⟩
  · exact ⟨_, cap, rfl, fun _ => ⟨g, o, rfl, (Array.getElem?_eq_some_iff.1 hc).1, hr⟩⟩
theorem rd_own {w : World} {base : Nat} {v : Value} {l : List UInt8} (h : w.ownsRow base 5 1 v l.length (l.map B)) : Rd w v l := by
  rcases h.2 with ⟨rfl, h0⟩ | ⟨g, cap, cur, rfl, _, hc, h1, _, h3, h4⟩
  · exact ⟨none, 0, by rw [h0], fun hl => absurd hl (by omega)⟩
  · refine ⟨_, cap, rfl, fun _ => ⟨g, 0, rfl, (Array.getElem?_eq_some_iff.1 hc).1, fun j u hu => ?_⟩⟩
    rw [← h4, List.getElem?_take] at hu
    split at hu
    · simp only [World.cell?, hc]
      simpa using hu
    · cases hu
/-- a new block with just these bytes -/
def Nw (w : World) (g : Nat) (l : List UInt8) : Prop := w.heap[g]? = some (.cells (l.map B).toArray 5 (0, 0))
theorem Nw.own {w : World} {g : Nat} {l : List UInt8} (h : Nw w g l) (base : Nat) (hb : base ≤ g) (hl : l.length ≤ maxLen) : w.ownsRow base 5 1 (.slice (some ⟨g, 0, none⟩) l.length l.length) l.length (l.map B) :=
  ⟨by simp, Or.inr ⟨g, l.length, _, rfl, hb, h, Nat.le_refl _, hl, by simp, by rw [Nat.mul_one]; exact List.take_of_length_le (by simp)⟩⟩
theorem Nw.ln {w : World} {g : Nat} {l : List UInt8} (h : Nw w g l) (hl : l.length ≤ maxLen) : ∃ gb, (gb = none ∨ gb = some g) ∧ Ln w 5 1 gb (.slice (some ⟨g, 0, none⟩) l.length l.length) l.length (l.map B) := by
  by_cases h0 : 0 < l.length
  · obtain ⟨k, h1, _⟩ := Ln.own (h.own 0 (Nat.zero_le _) hl) h0
    obtain ⟨c, hc⟩ := h1.lt k rfl
    rcases h1.2 with ⟨h2, _⟩ | ⟨g', o, cap, h2, h3, _⟩
    · cases h2
    · cases h2
      cases h3
      exact ⟨_, Or.inr rfl, h1⟩
  · obtain rfl : l = [] := List.eq_nil_of_length_eq_zero (by omega)
    exact ⟨none, Or.inl rfl, by simp, Or.inl ⟨rfl, rfl, _, rfl⟩⟩
theorem Nw.below {w w' : World} {g : Nat} {l : List UInt8} (h : Nw w g l) (hb : Below w.heap.size w w') : Nw w' g l := (hb.block g (Array.getElem?_eq_some_iff.1 h).1).trans h
theorem Nw.rd {w : World} {g : Nat} {l : List UInt8} (h : Nw w g l) (c : Nat) : Rd w (.slice (some ⟨g, 0, none⟩) l.length c) l :=
  ⟨_, c, rfl, fun _ => ⟨g, 0, rfl, (Array.getElem?_eq_some_iff.1 h).1, fun j u hu => by
    have h' : w.heap[g]? = some (.cells (l.map B).toArray 5 (0, 0)) := h
    simp only [World.cell?, h']
    simpa using hu⟩⟩
theorem size8 : (Tryd.prog.info? 5).map (·.size) = some 1 := by kernel_rfl
theorem made_len (n : Nat) : (madeCells #[.int .u8 0] n).toList.length = n := by unfold madeCells; simp
theorem there_of {w : World} {g : Nat} {cur : List Value} {t : TypeId} (hc : w.heap[g]? = some (.cells cur.toArray t (0, 0))) (o n : Nat) (h : o + n ≤ cur.length) : w.there g o n := fun j hj =>
  ⟨by have : o + j < cur.length := by omega
      simp [World.cell?, hc, this], by simp [World.frozen?, hc]⟩
/-- copy of bytes that can be read into a row -/
theorem copy_run (W : World) (g o dLen dCap : Nat) (oa : Option Addr) (cap : Nat) (l : List UInt8) (hr : 0 < l.length → ∃ g o, oa = some ⟨g, o, none⟩ ∧ g < W.heap.size ∧ W.rangeAt g o (l.map B)) (hd : l.length ≤ dLen) (ht : W.there g o l.length) :
    (Builtin.copy_ #[25, 25] 3 #[.slice (some ⟨g, o, none⟩) dLen dCap, .slice oa l.length cap]).run Tryd.prog W = .ok (goInt l.length) (W.setCells g o (l.map B)) := by
  by_cases h0 : 0 < l.length
  · obtain ⟨g', o', rfl, _, hr⟩ := hr h0
    have := run_copy_cells (P := Tryd.prog) W 25 25 3 5 g o dLen dCap ⟨g', o', none⟩ l.length cap (l.map B) Tryd.underlying25 size8 (by rw [List.length_map]; exact (Nat.min_eq_left hd).symm) (fun j u hu => by rw [Addr.add_mid]; exact hr j u hu) (fun j hj => (ht j (by simpa using hj)).1) (fun j hj => (ht j (by simpa using hj)).2) (fun v hv => by obtain ⟨x, _, rfl⟩ := List.mem_map.1 hv; rfl)
    rw [List.length_map] at this
    exact this
  · obtain rfl : l = [] := List.eq_nil_of_length_eq_zero (by omega)
    exact run_copy_none (P := Tryd.prog) W 25 25 3 5 _ _ _ _ _ _ Tryd.underlying25 size8 (Nat.zero_min _)
theorem sets_here {w : World} {g : Nat} {cur : List Value} {t : TypeId} (hc : w.heap[g]? = some (.cells cur.toArray t (0, 0))) (vs : List Value) (o : Nat) (h : o + vs.length ≤ cur.length) : (w.setCells g o vs).heap[g]? = some (.cells (cur.take o ++ (vs ++ cur.drop (o + vs.length))).toArray t (0, 0)) := by
  induction vs generalizing o w cur with
  | nil =>
    show w.heap[g]? = _
    rw [hc]
    simp
  | cons v r ih =>
    have h1 : o < cur.length := by simp at h; omega
    have h2 : (w.setCell ⟨g, o, none⟩ v).heap[g]? = some (.cells (cur.set o v).toArray t (0, 0)) := by
      simp [World.setCell, Array.getElem?_modify, hc]
    have h3 := ih h2 (o + 1) (by rw [List.length_set]; simp at h; omega)
    show ((w.setCell ⟨g, o, none⟩ v).setCells g (o + 1) r).heap[g]? = _
    rw [h3]
    congr 3
    have e1 : (cur.set o v).take (o + 1) = cur.take o ++ [v] := by
      rw [List.take_succ_eq_append_getElem (by rw [List.length_set]; exact h1), List.take_set_of_le (Nat.le_refl _)]
      simp
    have e2 : (cur.set o v).drop (o + 1 + r.length) = cur.drop (o + (v :: r).length) := by
      rw [List.drop_set_of_lt (by omega)]
      congr 1
      simp; omega
    rw [e1, e2, List.append_assoc]
    rfl

theorem own_ge {w : World} {base : Nat} {e : TypeId} {size : Nat} {v : Value} {n : Nat} {xs : List Value} (h : w.ownsRow base e size v n xs) : ∀ b, v.ownBlock = some b → base ≤ b := by
  intro b hb
  rcases h.2 with ⟨rfl, _⟩ | ⟨g, cap, cur, rfl, hg, _⟩
  · cases hb
  · cases hb; exact hg
theorem take_snocL {α : Type} (l : List α) (k : Nat) (h : k < l.length) : l.take (k + 1) = l.take k ++ [l[k]] := by
  rw [List.take_succ_eq_append_getElem h]

theorem Rd.cell {w : World} {oa : Option Addr} {c : Nat} {l : List UInt8} (h : Rd w (.slice oa l.length c) l) (hl : 0 < l.length) : ∃ g o, oa = some ⟨g, o, none⟩ ∧ ∀ k (hk : k < l.length), w.cell? ⟨g, o + k, none⟩ = some (B l[k]) := by
  obtain ⟨oa', c', hv, h⟩ := h
  cases hv
  obtain ⟨g, o, rfl, _, hr⟩ := h hl
  exact ⟨g, o, rfl, fun k hk => hr k _ (by simp [hk])⟩
theorem Rd.drewN {w : World} {v : Value} {l : List UInt8} (h : Rd w v l) (n : Nat) : Rd (w.drewN n) v l := h.keep (fun _ _ _ _ => rfl) (Nat.le_refl _)
theorem Rd.len {w : World} {v : Value} {l : List UInt8} (h : Rd w v l) : ∃ oa c, v = .slice oa l.length c := by
  obtain ⟨oa, c, rfl, _⟩ := h
  exact ⟨oa, c, rfl⟩
theorem bdN {b : Nat} {a c : World} (h : Below b a c) (n : Nat) : Below b a (c.drewN n) := ⟨h.1, h.2, h.3, h.4, h.5⟩

theorem cell_of {w : World} {F : Nat} {a : Array Value} {t : TypeId} (h : w.heap[F]? = some (.cells a t)) (j : Nat) : w.cell? ⟨F, j, none⟩ = a[j]? := by simp [World.cell?, h]
theorem free_of {w : World} {F : Nat} {a : Array Value} {t : TypeId} (h : w.heap[F]? = some (.cells a t)) (j : Nat) : w.frozen? ⟨F, j, none⟩ = false := by simp [World.frozen?, h]
theorem results_c {fn : Func} {p : Tmp} {ty : TypeId} {P : Program} {w : World} {b o : Nat} {cs : List Value} {d : TypeDesc} (h : fn.results = #[.cell p ty]) (tmps : Array Value) (hx : tmps.getD p undef = .pointer (some ⟨b, o, none⟩))
    (hc : w.rangeAt b o cs) (hu : P.underlying ty = some d) (hd : d.isRow = true) (hi : (P.info? ty).map (·.size) = some cs.length) : (results fn tmps).run P w = .ok (.agg cs.toArray) w := by
  have hx' : tmps[p]?.getD undef = .pointer (some ⟨b, o, none⟩) := by simpa using hx
  simp [results, h, hx', asAddr, run_loadVar_mid w b o ty cs d hc hu hd hi]
theorem range_of {w : World} {F : Nat} {l : List Value} {t : TypeId} (h : w.heap[F]? = some (.cells l.toArray t)) : w.rangeAt F 0 l := fun j v hv => by
  rw [Nat.zero_add]
  simp [World.cell?, h, hv]
theorem keepD {a c d : World} (h1 : Below a.heap.size a c) (h2 : Below c.heap.size c d) : Below a.heap.size a d := h1.trans (h2.mono h1.size)
theorem own_below {w w' : World} {base : Nat} {e : TypeId} {size : Nat} {v : Value} {n : Nat} {xs : List Value} (h : w.ownsRow base e size v n xs) (hb : Below w.heap.size w w') : w'.ownsRow base e size v n xs := by
  refine ⟨h.1, ?_⟩
  rcases h.2 with hh | ⟨g, cap, cur, rfl, hg, hh, hn⟩
  · exact Or.inl hh
  · exact Or.inr ⟨g, cap, cur, rfl, hg, (hb.block g (Array.getElem?_eq_some_iff.1 hh).1).trans hh, hn⟩
theorem conv_rd {w : World} {v : Value} {l : List UInt8} (h : Rd w v l) : (convert 25 9 v).run Tryd.prog w = .ok (.string ⟨l.toArray⟩) w := by
  obtain ⟨oa, cap, rfl, h⟩ := h
  cases oa with
  | none =>
    have h0 : l = [] := by
      apply Decidable.byContradiction
      intro hn
      obtain ⟨g, o, he, _⟩ := h (List.length_pos_iff.2 hn)
      cases he
    subst h0
    exact run_convert_bytes_nil (P := Tryd.prog) w 25 5 Tryd.underlying25 Tryd.underlying5 0 _ 9 Tryd.underlying9
  | some a =>
    refine run_convert_bytes_back (P := Tryd.prog) w 25 9 5 a cap l Tryd.underlying25 Tryd.underlying5 Tryd.underlying9 ?_
    intro j hj
    obtain ⟨g, o, he, _, hr⟩ := h (by omega)
    cases he
    rw [Addr.add_mid]
    exact hr j _ (by simp [hj])
end Go.Proofs.YtkamnkldgeaaaaaDoor.dk
