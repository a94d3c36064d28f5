import Derived.Test.YtjalggkhpnfbiaaDoorBPageMath
import Derived.Laws.OwnMore
import Derived.Maps.AppendAt
import Derived.Deep.OwnRows
namespace Go.Proofs.YtjalggkhpnfbiaaDoor.ak
open Go.ChangeShapes Go.WideShapes Go.ChangeAt Go.RowKit Go.Proofs.YtjalggkhpnfbiaaDoor.common

section
variable {P : Program} (w : World)

end

end Go.Proofs.YtjalggkhpnfbiaaDoor.ak

namespace Go.Proofs.YtjalggkhpnfbiaaDoor.mm
open Go.ChangeShapes Go.WideShapes Go.ChangeAt Go.RowKit Go.Proofs.YtjalggkhpnfbiaaDoor.common Go.Maps

theorem own_keepI {w w' : World} {base : Nat} {e : TypeId} {size : Nat} {v : Value} {n : Nat} {xs : List Value} (h : w.ownsRow base e size v n xs) (hk : ∀ g, v.ownBlock = some g → w'.heap[g]? = w.heap[g]?) : w'.ownsRow base e size v n xs := by
  refine ⟨h.1, ?_⟩
  rcases h.2 with h1 | ⟨g, cap, cur, rfl, h1, h2, h3⟩
  · exact Or.inl h1
  · exact Or.inr ⟨g, cap, cur, rfl, h1, (hk g rfl).trans h2, h3⟩
theorem own_low {w : World} {base base' : Nat} {e : TypeId} {size : Nat} {v : Value} {n : Nat} {xs : List Value} (h : w.ownsRow base e size v n xs) (hb : base' ≤ base) : w.ownsRow base' e size v n xs := by
  refine ⟨h.1, ?_⟩
  rcases h.2 with hh | ⟨g, cap, cur, hv, hg, hr⟩
  · exact Or.inl hh
  · exact Or.inr ⟨g, cap, cur, hv, Nat.le_trans hb hg, hr⟩
theorem rows_neT {w : World} {base base' : Nat} {e e' : TypeId} {z z' : Nat} {v v' : Value} {n n' : Nat} {xs xs' : List Value} (he : e ≠ e') (h : w.ownsRow base e z v n xs) (h' : w.ownsRow base' e' z' v' n' xs') (m : Nat) (hm : v.ownBlock = some m) : v'.ownBlock ≠ some m := by
  rcases h.2 with ⟨rfl, _⟩ | ⟨g, cap, cur, rfl, _, hh, _⟩
  · cases hm
  · cases hm
    rcases h'.2 with ⟨rfl, _⟩ | ⟨g', cap', cur', rfl, _, hh', _⟩
    · intro h; cases h
    · intro h
      simp only [Value.ownBlock, Option.some.injEq] at h
      subst h
      rw [hh] at hh'
      cases hh'
      exact he rfl
/-- a head of a row -/
theorem own_head {w : World} {base : Nat} {e : TypeId} {z b cap n k : Nat} {xs ys : List Value} (h : w.ownsRow base e z (.slice (some ⟨b, 0, none⟩) (n + k) cap) (n + k) (xs ++ ys)) (hx : xs.length = n * z) : w.ownsRow base e z (.slice (some ⟨b, 0, none⟩) n cap) n xs := by
  refine ⟨hx, ?_⟩
  rcases h.2 with ⟨hv, _⟩ | ⟨g, c, cur, hv, hg, hh, h1, h2, h3, h4⟩
  · cases hv
  · cases hv
    refine Or.inr ⟨b, cap, cur, rfl, hg, hh, by omega, h2, h3, ?_⟩
    have h5 := congrArg (List.take (n * z)) h4
    rw [List.take_take, Nat.min_eq_left (Nat.mul_le_mul_right _ (Nat.le_add_right _ _)), ← hx, List.take_left'  rfl] at h5
    rw [← hx]
    exact h5

/-- all but the blocks from B0 to B1 is as it was -/
structure Mid (B0 B1 : Nat) (w w' : World) : Prop where
  os : w'.os = w.os
  tape : w'.tape = w.tape
  output : w'.output = w.output
  size : w.heap.size ≤ w'.heap.size
  block : ∀ k, k < w.heap.size → (k < B0 ∨ B1 ≤ k) → w'.heap[k]? = w.heap[k]?
theorem Mid.refl (B0 B1 : Nat) (w : World) : Mid B0 B1 w w := ⟨rfl, rfl, rfl, Nat.le_refl _, fun _ _ _ => rfl⟩
theorem Mid.trans {B0 B1 : Nat} {a b c : World} (h : Mid B0 B1 a b) (k : Mid B0 B1 b c) : Mid B0 B1 a c :=
  ⟨k.os.trans h.os, k.tape.trans h.tape, k.output.trans h.output, Nat.le_trans h.size k.size, fun i hi hr => (k.block i (Nat.lt_of_lt_of_le hi h.size) hr).trans (h.block i hi hr)⟩
theorem Mid.grown {B0 B1 : Nat} {a w w' : World} {row : Option Nat} (h : Mid B0 B1 a w) (hg : w.grownBy w' row) (hr : ∀ k, row = some k → (B0 ≤ k ∧ k < B1) ∨ a.heap.size ≤ k) : Mid B0 B1 a w' :=
  ⟨hg.os.trans h.os, hg.tape.trans h.tape, hg.output.trans h.output, Nat.le_trans h.size hg.size, fun k hk hr2 => (hg.block k (Nat.lt_of_lt_of_le hk h.size) (fun e => by have := hr k e.symm; omega)).trans (h.block k hk hr2)⟩
theorem Mid.below {B0 B1 : Nat} {a w w' : World} (h : Mid B0 B1 a w) (hb : Below w.heap.size w w') : Mid B0 B1 a w' :=
  h.trans ⟨hb.os, hb.tape, hb.output, hb.size, fun k hk _ => hb.block k hk⟩
theorem Mid.low {B0 B1 : Nat} {a w : World} (h : Mid B0 B1 a w) (h0 : B0 ≤ a.heap.size) : Below B0 a w := ⟨h.os, h.tape, h.output, h.size, fun k hk => h.block k (by omega) (Or.inl hk)⟩
theorem Mid.at_ {B0 B1 : Nat} {a w : World} (h : Mid B0 B1 a w) {k : Nat} {o : Obj} (ho : a.heap[k]? = some o) (hk : k < B0 ∨ B1 ≤ k) : w.heap[k]? = some o := (h.block k (Array.getElem?_eq_some_iff.1 ho).1 hk).trans ho

/-- rows in blocks of their own, between B0 and B1 -/
structure Fx (B0 B1 N : Nat) (v : Nat → Value) : Prop where
  ne : ∀ i j, i < N → j < N → i ≠ j → ∀ m, (v i).ownBlock = some m → (v j).ownBlock ≠ some m
  rng : ∀ i, i < N → ∀ m, (v i).ownBlock = some m → B0 ≤ m ∧ m < B1
structure Rws (B0 B1 N : Nat) (W0 : World) (e : Nat → TypeId) (z n : Nat → Nat) (v : Nat → Value) (X : Nat → List Value) (W : World) : Prop where
  mid : Mid B0 B1 W0 W
  row : ∀ j, j < N → W.ownsRow 0 (e j) (z j) (v j) (n j) (X j)

section
variable {B0 B1 N : Nat} {W0 W W1 : World} {e : Nat → TypeId} {z n : Nat → Nat} {v : Nat → Value} {X : Nat → List Value}

theorem Rws.below (h : Rws B0 B1 N W0 e z n v X W) (hb : Below W.heap.size W W1) : Rws B0 B1 N W0 e z n v X W1 :=
  ⟨h.mid.below hb, fun j hj => own_keepI (h.row j hj) (fun g hg => hb.block g ((h.row j hj).lt g hg).2)⟩
theorem Rws.under (h : Rws B0 B1 N W0 e z n v X W) (h1 : Rws B0 B1 N W e z n v X W1) : Rws B0 B1 N W0 e z n v X W1 := ⟨h.mid.trans h1.mid, h1.row⟩
/-- one row is written -/
theorem Rws.touch (h : Rws B0 B1 N W0 e z n v X W) (fx : Fx B0 B1 N v) {i b : Nat} (hi : i < N) (hb : (v i).ownBlock = some b) (hg : W.grownBy W1 (some b)) {x : List Value} (hr : W1.ownsRow 0 (e i) (z i) (v i) (n i) x) {X' : Nat → List Value} (hX : ∀ j, X' j = if j = i then x else X j) : Rws B0 B1 N W0 e z n v X' W1 := by
  refine ⟨h.mid.grown hg (fun k hk => by cases hk; exact Or.inl (fx.rng i hi b hb)), fun j hj => ?_⟩
  rw [hX j]
  by_cases hji : j = i
  · subst hji
    rw [if_pos rfl]
    exact hr
  · rw [if_neg hji]
    refine own_keepI (h.row j hj) (fun g hgb => hg.block g ((h.row j hj).lt g hgb).2 (fun e => ?_))
    cases e
    exact fx.ne i j hi hj (fun e => hji e.symm) _ hb hgb
/-- what is written lies elsewhere -/
theorem Rws.other (h : Rws B0 B1 N W0 e z n v X W) (fx : Fx B0 B1 N v) (hB : B1 ≤ W0.heap.size) {row : Option Nat} (hg : W.grownBy W1 row) (hm : ∀ m, row = some m → W0.heap.size ≤ m) : Rws B0 B1 N W0 e z n v X W1 := by
  refine ⟨h.mid.grown hg (fun k hk => Or.inr (hm k hk)), fun j hj => ?_⟩
  refine own_keepI (h.row j hj) (fun g hgb => hg.block g ((h.row j hj).lt g hgb).2 (fun e => ?_))
  have h1 := hm g e.symm
  have h2 := (fx.rng j hj g hgb).2
  omega

/-- the i-th row while it is grown beside, k elements -/
structure Gs (B0 B1 N : Nat) (W0 : World) (e : Nat → TypeId) (z n : Nat → Nat) (v : Nat → Value) (X : Nat → List Value) (i k : Nat) (ys : List Value) (u : Value) (W : World) : Prop where
  rws : Rws B0 B1 N W0 e z n v X W
  row : W.ownsRow 0 (e i) (z i) u (n i + k) (X i ++ ys)
  at_ : (∃ b c, v i = .slice (some ⟨b, 0, none⟩) (n i) c ∧ u = .slice (some ⟨b, 0, none⟩) (n i + k) c) ∨ ∀ m, u.ownBlock = some m → W0.heap.size ≤ m
theorem Gs.start {i : Nat} (h : Rws B0 B1 N W0 e z n v X W) (hi : i < N) : Gs B0 B1 N W0 e z n v X i 0 [] (v i) W := by
  refine ⟨h, by rw [List.append_nil]; exact h.row i hi, ?_⟩
  rcases (h.row i hi).2 with ⟨hv, h0⟩ | ⟨b, cap, cur, hv, hg, hh, hn⟩
  · right
    intro m hm
    rw [hv] at hm
    cases hm
  · left
    exact ⟨b, cap, hv, hv⟩
theorem Gs.below {i k : Nat} {ys : List Value} {u : Value} (h : Gs B0 B1 N W0 e z n v X i k ys u W) (hb : Below W.heap.size W W1) : Gs B0 B1 N W0 e z n v X i k ys u W1 :=
  ⟨h.rws.below hb, own_keepI h.row (fun g hg => hb.block g (h.row.lt g hg).2), h.at_⟩
theorem Gs.next {i k : Nat} {ys y : List Value} {u u' : Value} (h : Gs B0 B1 N W0 e z n v X i k ys u W) (fx : Fx B0 B1 N v) (hB : B1 ≤ W0.heap.size) (hi : i < N)
    (hrow : W1.ownsRow 0 (e i) (z i) u' (n i + k + 1) (X i ++ ys ++ y))
    (hat : (∃ b cap, u = .slice (some ⟨b, 0, none⟩) (n i + k) cap ∧ u' = .slice (some ⟨b, 0, none⟩) (n i + k + 1) cap ∧ W.grownBy W1 (some b)) ∨ (u'.ownBlock = some W.heap.size ∧ W.grownBy W1 none)) : Gs B0 B1 N W0 e z n v X i (k + 1) (ys ++ y) u' W1 := by
  have hrow' : W1.ownsRow 0 (e i) (z i) u' (n i + (k + 1)) (X i ++ (ys ++ y)) := by
    rw [← List.append_assoc]
    exact hrow
  rcases hat with ⟨b, cap, hu, hu', hg⟩ | ⟨hb, hg⟩
  · rcases h.at_ with ⟨b2, c2, hv2, hu2⟩ | hout
    · rw [hu] at hu2
      cases hu2
      have hbo : (v i).ownBlock = some b := by rw [hv2]; rfl
      refine ⟨h.rws.touch fx hi hbo hg (x := X i) ?_ (fun j => ?_), hrow', Or.inl ⟨b, cap, hv2, hu'⟩⟩
      · rw [hu'] at hrow'
        rw [hv2]
        exact own_head hrow' (h.rws.row i hi).1
      · split
        · rename_i hj; rw [hj]
        · rfl
    · have hb1 := hout b (by rw [hu]; rfl)
      refine ⟨h.rws.other fx hB hg (fun m hm => by cases hm; exact hb1), hrow', Or.inr (fun m hm => ?_)⟩
      rw [hu'] at hm
      cases hm
      exact hb1
  · refine ⟨h.rws.other fx hB hg (fun m hm => by cases hm), hrow', Or.inr (fun m hm => ?_)⟩
    rw [hb] at hm
    cases hm
    exact h.rws.mid.size
/-- another row grows -/
theorem Gs.beside {i k j m : Nat} {ys zs : List Value} {u x x' : Value} (h : Gs B0 B1 N W0 e z n v X i k ys u W) (hj : Gs B0 B1 N W0 e z n v X j m zs x W) (hr : Rws B0 B1 N W0 e z n v X W1) (he : e i ≠ e j)
    (hat : (∃ b cap, x = .slice (some ⟨b, 0, none⟩) (n j + m) cap ∧ x' = .slice (some ⟨b, 0, none⟩) (n j + m + 1) cap ∧ W.grownBy W1 (some b)) ∨ (x'.ownBlock = some W.heap.size ∧ W.grownBy W1 none)) : Gs B0 B1 N W0 e z n v X i k ys u W1 := by
  refine ⟨hr, own_keepI h.row (fun g hg => ?_), h.at_⟩
  rcases hat with ⟨b, cap, hx, _, hgr⟩ | ⟨_, hgr⟩
  · exact hgr.block g (h.row.lt g hg).2 (fun e' => rows_neT he h.row hj.row g hg (by rw [hx, e']; rfl))
  · exact hgr.block g (h.row.lt g hg).2 (fun e' => by cases e')
end
/-- the rows of what was made apart -/
theorem own_mid {w w' : World} {B0 B1 base : Nat} {e : TypeId} {z : Nat} {v : Value} {n : Nat} {xs : List Value} (h : w.ownsRow base e z v n xs) (hm : Mid B0 B1 w w') (hb : B1 ≤ base) : w'.ownsRow base e z v n xs :=
  own_keepI h (fun g hg => hm.block g (h.lt g hg).2 (Or.inr (Nat.le_trans hb (h.lt g hg).1)))
end Go.Proofs.YtjalggkhpnfbiaaDoor.mm
