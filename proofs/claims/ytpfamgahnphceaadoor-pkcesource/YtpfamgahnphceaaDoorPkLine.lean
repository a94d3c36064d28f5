import Derived.Test.YtpfamgahnphceaaDoorPkBase
import Derived.Test.YtpfamgahnphceaaDoorRadixKit
import Derived.Deep.MidRow
import Derived.Deep.RegionLaw
import Derived.Deep.RegionLawGrows
import Derived.Deep.Upon
namespace Go.Proofs.YtpfamgahnphceaaDoor.pk
open Go.ChangeShapes Go.WideShapes Go.ChangeAt Go.RowKit Go.Proofs.YtpfamgahnphceaaDoor.common

/-- a line: a slice of one's own that may have been cut at its head; gb: the block that it lies in -/
def Ln (w : World) (e : TypeId) (size : Nat) (gb : Option Nat) (v : Value) (n : Nat) (xs : List Value) : Prop :=
  xs.length = n * size ∧ ((gb = none ∧ n = 0 ∧ ∃ ao, v = .slice ao 0 0) ∨
    ∃ g o cap, gb = some g ∧ v = .slice (some ⟨g, o, none⟩) n cap ∧ (∃ cur, w.heap[g]? = some (.cells cur e (0, 0))) ∧ 0 < cap ∧ n ≤ cap ∧ w.there g o (cap * size) ∧ w.rangeAt g o xs)

theorem there_block {w w' : World} {g o n : Nat} (h : w.there g o n) (hb : w'.heap[g]? = w.heap[g]?) : w'.there g o n := fun j hj =>
  ⟨by rw [World.cell?_of_block (a := ⟨g, o + j, none⟩) hb]; exact (h j hj).1, by rw [World.frozen?_of_block (a := ⟨g, o + j, none⟩) hb]; exact (h j hj).2⟩
theorem range_block {w w' : World} {g o : Nat} {xs : List Value} (h : w.rangeAt g o xs) (hb : w'.heap[g]? = w.heap[g]?) : w'.rangeAt g o xs := fun j u hu => by
  rw [World.cell?_of_block (a := ⟨g, o + j, none⟩) hb]; exact h j u hu

theorem Ln.keep {w w' : World} {e : TypeId} {size : Nat} {gb : Option Nat} {v : Value} {n : Nat} {xs : List Value} (h : Ln w e size gb v n xs) (hb : ∀ g, gb = some g → w'.heap[g]? = w.heap[g]?) : Ln w' e size gb v n xs := by
  refine ⟨h.1, ?_⟩
  rcases h.2 with h1 | ⟨g, o, cap, rfl, hv, ⟨cur, hc⟩, h2, h3, h4, h5⟩
  · exact Or.inl h1
  · have hg := hb g rfl
    exact Or.inr ⟨g, o, cap, rfl, hv, ⟨cur, hg.trans hc⟩, h2, h3, there_block h4 hg, range_block h5 hg⟩
theorem Ln.lt {w : World} {e : TypeId} {size : Nat} {gb : Option Nat} {v : Value} {n : Nat} {xs : List Value} (h : Ln w e size gb v n xs) : ∀ g, gb = some g → g < w.heap.size ∧ ∃ cur, w.heap[g]? = some (.cells cur e (0, 0)) := by
  intro g hg
  rcases h.2 with ⟨h1, _⟩ | ⟨g', o, cap, h1, hv, ⟨cur, hc⟩, _⟩
  · rw [h1] at hg; cases hg
  · rw [h1] at hg
    cases hg
    exact ⟨(Array.getElem?_eq_some_iff.1 hc).1, cur, hc⟩
theorem Ln.len {w : World} {e : TypeId} {size : Nat} {gb : Option Nat} {v : Value} {n : Nat} {xs : List Value} (h : Ln w e size gb v n xs) : ∃ ao cap, v = .slice ao n cap := by
  rcases h.2 with ⟨_, rfl, ao, rfl⟩ | ⟨g, o, cap, _, rfl, _⟩
  · exact ⟨ao, 0, rfl⟩
  · exact ⟨_, cap, rfl⟩
theorem ln_nil (w : World) (e : TypeId) (size : Nat) : Ln w e size none (.slice none 0 0) 0 [] := ⟨by simp, Or.inl ⟨rfl, rfl, none, rfl⟩⟩

/-- the first one of a line is taken -/
theorem Ln.tail {w : World} {e : TypeId} {size : Nat} {gb : Option Nat} {v : Value} {n : Nat} {x xs : List Value} (h : Ln w e size gb v (n + 1) (x ++ xs)) (hx : x.length = size) :
    ∃ g o cap, gb = some g ∧ v = .slice (some ⟨g, o, none⟩) (n + 1) (cap + 1) ∧ n ≤ cap ∧ w.rangeAt g o x ∧ g < w.heap.size ∧
      ∃ gb', (gb' = gb ∨ gb' = none) ∧ Ln w e size gb' (.slice (some (if cap = 0 then ⟨g, o, none⟩ else ⟨g, o + size, none⟩)) n cap) n xs := by
  have hl := h.1
  rw [List.length_append, hx, Nat.add_mul, Nat.one_mul] at hl
  have hlx : xs.length = n * size := by omega
  rcases h.2 with ⟨_, h0, _⟩ | ⟨g, o, cap, rfl, rfl, ⟨cur, hc⟩, h2, h3, h4, h5⟩
  · cases h0
  obtain ⟨c, rfl⟩ : ∃ c, cap = c + 1 := ⟨cap - 1, by omega⟩
  refine ⟨g, o, c, rfl, rfl, by omega, fun j u hu => h5 j u ?_, (Array.getElem?_eq_some_iff.1 hc).1, ?_⟩
  · rw [List.getElem?_append_left (List.getElem?_eq_some_iff.1 hu).1]; exact hu
  · by_cases hc0 : c = 0
    · subst hc0
      obtain rfl : n = 0 := by omega
      exact ⟨none, Or.inr rfl, hlx, Or.inl ⟨rfl, rfl, _, rfl⟩⟩
    · refine ⟨some g, Or.inl rfl, hlx, Or.inr ⟨g, o + size, c, rfl, by rw [if_neg hc0], ⟨cur, hc⟩, by omega, by omega, fun j hj => ?_, fun j u hu => ?_⟩⟩
      · have := h4 (size + j) (by rw [Nat.add_mul, Nat.one_mul]; omega)
        rwa [← Nat.add_assoc] at this
      · have := h5 (size + j) u (by rw [List.getElem?_append_right (by omega), hx, Nat.add_sub_cancel_left]; exact hu)
        rwa [← Nat.add_assoc] at this

theorem cells_set {w : World} {g : Nat} {cur : Array Value} {e : TypeId} {fz : Nat × Nat} (a : Addr) (v : Value) (h : w.heap[g]? = some (.cells cur e fz)) : ∃ cur', (w.setCell a v).heap[g]? = some (.cells cur' e fz) := by
  by_cases hg : a.block = g
  · subst hg
    exact ⟨if a.spot.isSome then cur else cur.setIfInBounds a.off v, by simp [World.setCell, Array.getElem?_modify, h]⟩
  · exact ⟨cur, by simp [World.setCell, Array.getElem?_modify, h, hg]⟩
theorem cells_sets {g : Nat} {e : TypeId} {fz : Nat × Nat} (b : Nat) : ∀ (vs : List Value) (o : Nat) (w : World) (cur : Array Value), w.heap[g]? = some (.cells cur e fz) → ∃ cur', (w.setCells b o vs).heap[g]? = some (.cells cur' e fz)
  | [], _, _, cur, h => ⟨cur, h⟩
  | v :: r, o, w, cur, h => by
    obtain ⟨c', h'⟩ := cells_set (⟨b, o, none⟩ : Addr) v h
    exact cells_sets b r (o + 1) _ c' h'

/-- one more in the room behind a line -/
theorem Ln.room {w : World} {e : TypeId} {size g o n cap : Nat} {xs news : List Value} (h : Ln w e size (some g) (.slice (some ⟨g, o, none⟩) n cap) n xs) (hr : n + 1 ≤ cap) (hn : news.length = size) :
    Ln (w.setCells g (o + n * size) news) e size (some g) (.slice (some ⟨g, o, none⟩) (n + 1) cap) (n + 1) (xs ++ news) := by
  have hl := h.1
  refine ⟨by rw [List.length_append, hl, hn, Nat.add_mul, Nat.one_mul], ?_⟩
  rcases h.2 with ⟨h0, _⟩ | ⟨g', o', cap', h0, hv, ⟨cur, hc⟩, h2, h3, h4, h5⟩
  · cases h0
  cases h0
  cases hv
  have hroom : n * size + size ≤ cap * size := by
    have := Nat.mul_le_mul_right size hr
    rwa [Nat.add_mul, Nat.one_mul] at this
  have ht : w.there g (o + n * size) news.length := fun j hj => by
    have := h4 (n * size + j) (by omega)
    rwa [← Nat.add_assoc] at this
  refine Or.inr ⟨g, o, cap, rfl, rfl, cells_sets g _ _ _ _ hc, by omega, by omega, World.there_setCells h4 _ _ _, ?_⟩
  have r1 : (w.setCells g (o + n * size) news).rangeAt g o xs := World.rangeAt_setCells_apart h5 g (o + n * size) news (Or.inr (Or.inl (by omega)))
  have r2 := World.rangeAt_setCells_same w g (o + n * size) news ht
  intro j u hu
  by_cases hj : j < xs.length
  · rw [List.getElem?_append_left hj] at hu
    exact r1 j u hu
  · rw [List.getElem?_append_right (by omega)] at hu
    have := r2 (j - xs.length) u hu
    have e1 : o + n * size + (j - xs.length) = o + j := by omega
    rwa [e1] at this

/-- a line in a new block -/
theorem Ln.own {w : World} {base : Nat} {e : TypeId} {size : Nat} {v : Value} {n : Nat} {xs : List Value} (h : w.ownsRow base e size v n xs) (hn : 0 < n) : ∃ g, Ln w e size (some g) v n xs ∧ base ≤ g := by
  rcases h.2 with ⟨_, h0⟩ | ⟨g, cap, cur, rfl, hb, hc, h1, h2, h3, h4⟩
  · omega
  refine ⟨g, ⟨h.1, Or.inr ⟨g, 0, cap, rfl, rfl, ⟨cur, hc⟩, by omega, h1, fun j hj => ⟨?_, ?_⟩, fun j u hu => ?_⟩⟩, hb⟩
  · have : j < cur.size := by omega
    simp [World.cell?, hc, this]
  · simp [World.frozen?, hc]
  · have hj := (List.getElem?_eq_some_iff.1 hu).1
    rw [← h4, List.getElem?_take] at hu
    split at hu
    · simp only [World.cell?, hc]
      simpa using hu
    · cases hu

end Go.Proofs.YtpfamgahnphceaaDoor.pk
