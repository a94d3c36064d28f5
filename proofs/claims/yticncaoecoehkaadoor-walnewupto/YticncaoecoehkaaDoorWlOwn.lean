import Derived.Test.YticncaoecoehkaaDoorRdKit
namespace Go.Proofs.YticncaoecoehkaaDoor.wl
open Go.ChangeShapes Go.WideShapes Go.ChangeAt Go.RowKit Go.Proofs.YticncaoecoehkaaDoor.common Go.Proofs.YticncaoecoehkaaDoor.dk

/-- bytes of one's own in a block from lo up to hi -/
def Ow (w : World) (lo hi : Nat) (v : Value) (l : List UInt8) : Prop := w.ownsRow lo 5 1 v l.length (l.map B) ∧ hi ≤ w.heap.size ∧ ∀ b, v.ownBlock = some b → b < hi
theorem ow_of {w : World} {lo : Nat} {v : Value} {l : List UInt8} (h : w.ownsRow lo 5 1 v l.length (l.map B)) : Ow w lo w.heap.size v l := ⟨h, Nat.le_refl _, fun b hb => by
  rcases h.2 with ⟨rfl, _⟩ | ⟨g, cap, cur, rfl, hg, hh, _⟩
  · cases hb
  · cases hb
    exact (Array.getElem?_eq_some_iff.1 hh).1⟩
theorem Ow.fr {w w' : World} {lo hi : Nat} {v : Value} {l : List UInt8} {F : List Nat} (h : Ow w lo hi v l) (hf : Fr F w w') (hF : ∀ k ∈ F, k < lo ∨ hi ≤ k) : Ow w' lo hi v l := by
  refine ⟨⟨h.1.1, ?_⟩, Nat.le_trans h.2.1 hf.size, h.2.2⟩
  rcases h.1.2 with hh | ⟨g, cap, cur, rfl, hg, hh, hn⟩
  · exact Or.inl hh
  · have h1 := h.2.2 g rfl
    refine Or.inr ⟨g, cap, cur, rfl, hg, (hf.block g (Array.getElem?_eq_some_iff.1 hh).1 (fun hm => ?_)).trans hh, hn⟩
    have := hF g hm
    omega
theorem Ow.below {w w' : World} {lo hi : Nat} {v : Value} {l : List UInt8} (h : Ow w lo hi v l) (hb : Below w.heap.size w w') : Ow w' lo hi v l := h.fr (F := []) (Fr.of hb) (fun k hk => by cases hk)
theorem Ow.low {w w' : World} {lo hi K : Nat} {v : Value} {l : List UInt8} (h : Ow w lo hi v l) (hb : Below K w w') (hK : hi ≤ K) : Ow w' lo hi v l := by
  refine ⟨⟨h.1.1, ?_⟩, Nat.le_trans h.2.1 hb.size, h.2.2⟩
  rcases h.1.2 with hh | ⟨g, cap, cur, rfl, hg, hh, hn⟩
  · exact Or.inl hh
  · have h1 := h.2.2 g rfl
    exact Or.inr ⟨g, cap, cur, rfl, hg, (hb.block g (by omega)).trans hh, hn⟩
theorem Ow.own {w : World} {lo hi : Nat} {v : Value} {l : List UInt8} (h : Ow w lo hi v l) : ∀ k ∈ v.ownBlock.toList, lo ≤ k ∧ k < hi := fun k hk => by
  have hk' : v.ownBlock = Option.some k := by simpa using hk
  exact ⟨own_ge h.1 k hk', h.2.2 k hk'⟩
theorem Ow.rd {w : World} {lo hi : Nat} {v : Value} {l : List UInt8} (h : Ow w lo hi v l) : Rd w v l := rd_own h.1
theorem Ow.slot {w : World} {lo hi : Nat} {v : Value} {l : List UInt8} (h : Ow w lo hi v l) (hl : 0 < l.length) : ∃ g cap, v = .slice (some ⟨g, 0, none⟩) l.length cap ∧ lo ≤ g ∧ g < hi ∧ l.length ≤ cap := by
  rcases h.1.2 with ⟨_, h0⟩ | ⟨g, cap, cur, rfl, hg, _, h1, _⟩
  · omega
  · exact ⟨g, cap, rfl, hg, h.2.2 g rfl, h1⟩
/-- one byte is written -/
theorem Ow.set {w : World} {lo hi g cap : Nat} {l : List UInt8} (h : Ow w lo hi (.slice (some ⟨g, 0, none⟩) l.length cap) l) (k : Nat) (c : UInt8) : Ow (w.setCell ⟨g, k, none⟩ (B c)) lo hi (.slice (some ⟨g, 0, none⟩) (l.set k c).length cap) (l.set k c) := by
  refine ⟨⟨by simp, ?_⟩, by rw [size_set]; exact h.2.1, fun b hb => h.2.2 b hb⟩
  rcases h.1.2 with ⟨hv, _⟩ | ⟨g', cap', cur, hv, hg, hh, h1, h2, h3, h4⟩
  · cases hv
  · cases hv
    refine Or.inr ⟨g, cap, cur.setIfInBounds k (B c), by rw [List.length_set], hg, ?_, by rw [List.length_set]; exact h1, h2, by rw [Array.size_setIfInBounds]; exact h3, ?_⟩
    · simp [World.setCell, Array.getElem?_modify, hh]
    · rw [List.length_set, Array.toList_setIfInBounds, List.map_set, ← h4, List.take_set]
theorem Ow.cell {w : World} {lo hi g cap n : Nat} {l : List UInt8} (h : Ow w lo hi (.slice (some ⟨g, 0, none⟩) n cap) l) (k : Nat) (hk : k < l.length) : w.cell? ⟨g, k, none⟩ = some (B l[k]) ∧ w.frozen? ⟨g, k, none⟩ = false := by
  rcases h.1.2 with ⟨hv, _⟩ | ⟨g', cap', cur, hv, hg, hh, h1, h2, h3, h4⟩
  · cases hv
  · cases hv
    refine ⟨?_, free_of hh k⟩
    have e : (cur.toList.take (l.length * 1))[k]? = (l.map B)[k]? := by rw [h4]
    rw [List.getElem?_take_of_lt (by omega)] at e
    simp only [World.cell?, hh]
    simp [hk] at e
    simpa using e
/-- the head of bytes that can be read -/
theorem Rd.take {w : World} {oa : Option Addr} {c : Nat} {l : List UInt8} (h : Rd w (.slice oa l.length c) l) (k : Nat) (hk : k ≤ l.length) (c' : Nat) : Rd w (.slice oa k c') (l.take k) := by
  obtain ⟨oa', c2, hv, h⟩ := h
  cases hv
  refine ⟨oa, c', by rw [List.length_take, Nat.min_eq_left hk], fun hl => ?_⟩
  rw [List.length_take] at hl
  obtain ⟨g, o, e, hg, hr⟩ := h (by omega)
  refine ⟨g, o, e, hg, fun j u hu => hr j u ?_⟩
  rw [List.map_take, List.getElem?_take] at hu
  split at hu
  · exact hu
  · cases hu
theorem xor255 (x : UInt8) : bits .xor .u8 (x.toNat : Int) 255 = ((x ^^^ 255).toNat : Int) := by
  have h := u8_xor_nat x.toNat 255 x.toNat_lt (by decide)
  have e : ((255 : Nat) : Int) = 255 := rfl
  rw [e] at h
  rw [h, UInt8.toNat_xor]
  rfl
theorem add_one (x : UInt8) : ((x.toNat : Int) + 1) % 256 = ((x + 1).toNat : Int) := by
  rw [UInt8.toNat_add]
  simp
end Go.Proofs.YticncaoecoehkaaDoor.wl
