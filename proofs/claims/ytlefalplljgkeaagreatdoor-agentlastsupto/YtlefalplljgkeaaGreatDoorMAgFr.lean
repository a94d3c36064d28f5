import Derived.Test.YtlefalplljgkeaaGreatDoorMAgMap
namespace Go.Proofs.YtlefalplljgkeaaGreatDoor.ag
open Go.ChangeShapes Go.WideShapes Go.ChangeAt Go.RowKit Go.Proofs.YtlefalplljgkeaaGreatDoor.common Go.Maps Go.WideElems

/-- all but the blocks of S is as it was -/
structure Tn (S : Nat → Prop) (w w' : World) : Prop where
  os : w'.os = w.os
  tape : w'.tape = w.tape
  output : w'.output = w.output
  size : w.heap.size ≤ w'.heap.size
  block : ∀ k, k < w.heap.size → ¬ S k → w'.heap[k]? = w.heap[k]?
theorem Tn.refl (S : Nat → Prop) (w : World) : Tn S w w := ⟨rfl, rfl, rfl, Nat.le_refl _, fun _ _ _ => rfl⟩
theorem Tn.trans {S : Nat → Prop} {a b c : World} (h : Tn S a b) (k : Tn S b c) : Tn S a c :=
  ⟨k.os.trans h.os, k.tape.trans h.tape, k.output.trans h.output, Nat.le_trans h.size k.size, fun i hi hS => (k.block i (Nat.lt_of_lt_of_le hi h.size) hS).trans (h.block i hi hS)⟩
theorem Tn.of {S : Nat → Prop} {a b : World} (h : Below a.heap.size a b) : Tn S a b := ⟨h.os, h.tape, h.output, h.size, fun i hi _ => h.block i hi⟩
theorem Tn.grown {S : Nat → Prop} {a b : World} {r : Option Nat} (h : a.grownBy b r) (hr : ∀ k, r = some k → S k ∨ a.heap.size ≤ k) : Tn S a b :=
  ⟨h.os, h.tape, h.output, h.size, fun i hi hS => h.block i hi fun e => by
    rcases hr i e.symm with h1 | h1
    · exact hS h1
    · omega⟩
theorem Tn.set {S : Nat → Prop} (a : World) (p : Addr) (v : Value) (hp : S p.block) : Tn S a (a.setCell p v) := by
  refine ⟨rfl, rfl, rfl, by simp [World.setCell], fun i hi hS => ?_⟩
  have : i ≠ p.block := fun e => hS (e ▸ hp)
  simp [World.setCell, Array.getElem?_modify, Ne.symm this]
theorem Tn.alloc {S : Nat → Prop} (a : World) (o : Obj) : Tn S a (a.alloc o) := Tn.of ((Below.refl _ _).alloc (Nat.le_refl _) _)
theorem Tn.drew {S : Nat → Prop} {a b : World} (h : Tn S a b) : Tn S a b.drew := ⟨h.os, h.tape, h.output, h.size, h.block⟩
theorem Tn.mono {S T : Nat → Prop} {a b : World} (h : Tn S a b) (hS : ∀ k, k < a.heap.size → S k → T k) : Tn T a b := ⟨h.os, h.tape, h.output, h.size, fun i hi hT => h.block i hi fun e => hT (hS i hi e)⟩
theorem Tn.below {S : Nat → Prop} {n : Nat} {a b : World} (h : Tn S a b) (hS : ∀ k, S k → n ≤ k) (hn : n ≤ a.heap.size) : Below n a b :=
  ⟨h.os, h.tape, h.output, h.size, fun i hi => h.block i (Nat.lt_of_lt_of_le hi hn) fun e => by have := hS i e; omega⟩
/-- behind a: b has come about by new memory and by S's blocks -/
theorem Tn.keeps {S : Nat → Prop} {w w' : World} (h : Tn S w w') {k : Nat} {o : Obj} (hk : w.heap[k]? = some o) (hS : ¬ S k) : w'.heap[k]? = some o :=
  (h.block k (Array.getElem?_eq_some_iff.1 hk).1 hS).trans hk

/-- is a row still to come? -/
def lf (left : Lit → Bool) (x : Ck) : Bool := left (keyL x.name)
def strike (left : Lit → Bool) (x : Ck) : Lit → Bool := fun z => left z && !z.sameKey (keyL x.name)
theorem lf_strike (left : Lit → Bool) (x y : Ck) : lf (strike left x) y = (lf left y && !decide (y.name = x.name)) := by
  unfold lf strike; rw [keyL_same]
abbrev Nod (R : List Ck) : Prop := R.Pairwise fun a b => a.name ≠ b.name
/-- those that count or are still to come -/
def kp (R : List Ck) (left : Lit → Bool) (now : Int) : List Ck := R.filter fun y => y.lasts now || lf left y
theorem kp_start {R : List Ck} {left : Lit → Bool} {now : Int} (h : ∀ y ∈ R, lf left y = true) : kp R left now = R :=
  List.filter_eq_self.2 fun y hy => by rw [h y hy]; simp
theorem kp_end {R : List Ck} {left : Lit → Bool} {now : Int} (h : ∀ kl, left kl = false) : kp R left now = still R now := by
  unfold kp still
  refine List.filter_congr fun y _ => ?_
  have : lf left y = false := h _
  rw [this]; simp
theorem kp_in {R : List Ck} {left : Lit → Bool} {now : Int} {y : Ck} (h : y ∈ kp R left now) : y ∈ R := (List.mem_filter.1 h).1
theorem kp_stay {R : List Ck} (hn : Nod R) {x : Ck} (hx : x ∈ R) {left : Lit → Bool} {now : Int} (hc : x.lasts now = true) : kp R (strike left x) now = kp R left now := by
  unfold kp
  refine List.filter_congr fun y hy => ?_
  rw [lf_strike]
  by_cases e : y.name = x.name
  · have : y = x := nod_uniq hn hy hx e
    subst this; simp [hc]
  · simp [e]
theorem kp_go {R : List Ck} (hn : Nod R) {x : Ck} (hx : x ∈ R) {left : Lit → Bool} {now : Int} (hc : x.lasts now = false) : (kp R left now).filter (fun r => decide (r.name ≠ x.name)) = kp R (strike left x) now := by
  unfold kp
  rw [List.filter_filter]
  refine List.filter_congr fun y hy => ?_
  rw [lf_strike]
  by_cases e : y.name = x.name
  · have : y = x := nod_uniq hn hy hx e
    subst this; simp [hc]
  · simp [e]


theorem blk {w w' : World} {p : Nat} {o : Obj} (h : w.heap[p]? = some o) (b : Below w.heap.size w w') : w'.heap[p]? = some o := (b.block p (Array.getElem?_eq_some_iff.1 h).1).trans h
theorem al (w : World) (o : Obj) : Below w.heap.size w (w.alloc o) := (Below.refl _ _).alloc (Nat.le_refl _) _
theorem kW {B : Nat} {a w w' : World} (h : Below B a w) (h' : Below w.heap.size w w') (hB : B ≤ w.heap.size) : Below B a w' := h.trans (h'.mono hB)
theorem lt_of {w : World} {p : Nat} {o : Obj} (h : w.heap[p]? = some o) : p < w.heap.size := (Array.getElem?_eq_some_iff.1 h).1
theorem heap_at (w : World) (o : Obj) : (w.alloc o).heap[w.heap.size]? = some o := by show (w.heap.push _)[w.heap.size]? = _; simp

/-- a jar in memory -/
def Jar (w : World) (mb : Nat) (R : List Ck) : Prop := ∃ D n, Owns w mb n D ∧ Hs D R
theorem Jar.turn {w w' : World} {mb : Nat} {R : List Ck} (h : Jar w mb R) {S : Nat → Prop} (hT : Tn S w w') (hm : ¬ S mb) : Jar w' mb R := by
  obtain ⟨D, n, ⟨es, clock, hb, F, hs, hD⟩, hH⟩ := h
  exact ⟨D, n, ⟨es, clock, hT.keeps hb hm, F, hs, hD⟩, hH⟩
theorem Jar.below {w w' : World} {mb : Nat} {R : List Ck} (h : Jar w mb R) (hb : Below w.heap.size w w') : Jar w' mb R := h.turn (S := fun _ => False) (Tn.of hb) (fun h => h)
theorem Jar.lt {w : World} {mb : Nat} {R : List Ck} (h : Jar w mb R) : mb < w.heap.size := by
  obtain ⟨D, n, ⟨es, clock, hb, _⟩, _⟩ := h
  exact (Array.getElem?_eq_some_iff.1 hb).1
end Go.Proofs.YtlefalplljgkeaaGreatDoor.ag
