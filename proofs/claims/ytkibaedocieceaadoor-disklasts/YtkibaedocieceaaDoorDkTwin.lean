import Derived.Test.YtkibaedocieceaaDoorDkCopy
namespace Go.Proofs.YtkibaedocieceaaDoor.dk
open Go.ChangeShapes Go.WideShapes Go.ChangeAt Go.RowKit Go.Proofs.YtkibaedocieceaaDoor.common

abbrev hvv (room : Int) (vs : Value) (keep : Int) (vm : Value) : Value := .agg #[.int .i64 room, vs, .int .i64 keep, vm]
/-- two disks in one state -/
structure Twin (base : Nat) (W0 w : World) (e : Nat → Addr) (pa pb : Nat) (Fa Fb : List Nat) (x y : St) (j : Nat) : Prop where
  a : Run base w e pa Fa x j
  b : Run base w e pb Fb y j
  ap : ∀ q ∈ Fa, q ∉ Fb
  low : Below base W0 w
theorem Twin.keep {base : Nat} {W0 w w' : World} {e : Nat → Addr} {pa pb : Nat} {Fa Fb : List Nat} {x y : St} {j : Nat} (h : Twin base W0 w e pa pb Fa Fb x y j) (hb : Below w.heap.size w w') (hs : base ≤ w.heap.size) : Twin base W0 w' e pa pb Fa Fb x y j :=
  ⟨h.a.keep hb, h.b.keep hb, h.ap, h.low.trans (hb.mono hs)⟩
/-- a step on the first one -/
theorem Twin.actA {base : Nat} {W0 w : World} {e : Nat → Addr} {pa pb : Nat} {Fa Fb : List Nat} {x y : St} {j : Nat} (h : Twin base W0 w e pa pb Fa Fb x y j) (hb : base ≤ w.heap.size) (s : Sp) (ht : s.t.size ≤ reachBytes) (hj : (j + 1) * 16 ≤ 140737488355328) (h1 : s.n ≤ 9223372036854775807) (h2 : -9223372036854775808 ≤ s.m) (h3 : s.m ≤ 9223372036854775807) :
    Calls Tryd.prog 12 #[ptr pa, spv s] w fun r' w' => ∃ ov cv Fa', r' = .returned (sdv (.slice ov (x.step s).2.l.length cv) (x.step s).2.n (x.step s).2.e) ∧ Ans w Fa' (.slice ov (x.step s).2.l.length cv) (x.step s).2.l w' ∧ Run base w' e pa Fa' (x.step s).1 (j + 1) ∧ Run base w' e pb Fb y j ∧ (∀ q ∈ Fa', q ∉ Fb) ∧ Below base W0 w' ∧ Fr Fa w w' ∧ ∀ q ∈ Fb, q < w.heap.size := by
  refine (h.a.act s ht hj h1 h2 h3).mono ?_
  rintro r' w' ⟨v, F', rfl, hA, hR, hf, hs⟩
  obtain ⟨ov, cv, rfl⟩ := hA.form
  refine ⟨ov, cv, F', rfl, hA, hR, h.b.other hf (fun q hq hm => h.ap q hm hq) h.a.low, fun q hq hm => ?_, h.low.trans (hf.below h.a.low hb), hf, h.b.disk.lt⟩
  rcases hs q hq with h1 | h1
  · exact h.ap q h1 hm
  · have := h.b.disk.lt q hm; omega
theorem Twin.actB {base : Nat} {W0 w : World} {e : Nat → Addr} {pa pb : Nat} {Fa Fb : List Nat} {x y : St} {j : Nat} (ha : Run base w e pa Fa x (j + 1)) (hbR : Run base w e pb Fb y j) (ap : ∀ q ∈ Fa, q ∉ Fb) (low : Below base W0 w) (hb : base ≤ w.heap.size) (s : Sp) (ht : s.t.size ≤ reachBytes) (hj : (j + 1) * 16 ≤ 140737488355328) (h1 : s.n ≤ 9223372036854775807) (h2 : -9223372036854775808 ≤ s.m) (h3 : s.m ≤ 9223372036854775807) :
    Calls Tryd.prog 12 #[ptr pb, spv s] w fun r' w' => ∃ ov cv Fb', r' = .returned (sdv (.slice ov (y.step s).2.l.length cv) (y.step s).2.n (y.step s).2.e) ∧ Ans w Fb' (.slice ov (y.step s).2.l.length cv) (y.step s).2.l w' ∧ Twin base W0 w' e pa pb Fa Fb' x (y.step s).1 (j + 1) ∧ Fr Fb w w' := by
  refine (hbR.act s ht hj h1 h2 h3).mono ?_
  rintro r' w' ⟨v, F', rfl, hA, hR, hf, hs⟩
  obtain ⟨ov, cv, rfl⟩ := hA.form
  refine ⟨ov, cv, F', rfl, hA, ⟨ha.other hf ap hbR.low, hR, fun q hq hm => ?_, low.trans (hf.below hbR.low hb)⟩, hf⟩
  rcases hs q hm with h1 | h1
  · exact ap q hq h1
  · have := ha.disk.lt q hq; omega
abbrev stc (s : Sp) : Obj := .cells #[.int .i64 s.k, .int .i64 s.o, .int .i64 s.n, .int .i64 s.m, .string s.t] 34
/-- the same step on both, one behind the other: the answers are the same -/
theorem Twin.both {base : Nat} {W0 w : World} {e : Nat → Addr} {pa pb : Nat} {Fa Fb : List Nat} {x : St} {j : Nat} (h : Twin base W0 w e pa pb Fa Fb x x j) (hb : base ≤ w.heap.size) (s : Sp) (ht : s.t.size ≤ reachBytes) (hj : (j + 1) * 16 ≤ 140737488355328) (h1 : s.n ≤ 9223372036854775807) (h2 : -9223372036854775808 ≤ s.m) (h3 : s.m ≤ 9223372036854775807) (g : Nat) (hg : w.heap[g]? = some (stc s)) (hgF : g ∉ Fa) (hgb : g < w.heap.size) :
    Calls Tryd.prog 12 #[ptr pa, spv s] w fun r' w' => ∃ ov cv, r' = .returned (sdv (.slice ov (x.step s).2.l.length cv) (x.step s).2.n (x.step s).2.e) ∧ w'.heap[g]? = some (stc s) ∧
      Calls Tryd.prog 12 #[ptr pb, spv s] w' fun r' w'' => ∃ ow cw Fa' Fb', r' = .returned (sdv (.slice ow (x.step s).2.l.length cw) (x.step s).2.n (x.step s).2.e) ∧ Rd w'' (.slice ov (x.step s).2.l.length cv) (x.step s).2.l ∧ Rd w'' (.slice ow (x.step s).2.l.length cw) (x.step s).2.l ∧ Twin base W0 w'' e pa pb Fa' Fb' (x.step s).1 (x.step s).1 (j + 1) := by
  refine (h.actA hb s ht hj h1 h2 h3).mono ?_
  rintro r' w' ⟨ov, cv, Fa', rfl, hA, hRa, hRb, hap, hlow, hf, hlt⟩
  refine ⟨ov, cv, rfl, (hf.block g hgb hgF).trans hg, ?_⟩
  have hv := hA.away (G := Fb) (fun q hq => Or.inr (Or.inl (hlt q hq)))
  refine (Twin.actB hRa hRb hap hlow (Nat.le_trans hb hf.size) s ht hj h1 h2 h3).mono ?_
  rintro r' w'' ⟨ow, cw, Fb', rfl, hA2, hT, hf2⟩
  exact ⟨ow, cw, Fa', Fb', rfl, hA.rd.fr hf2 hv.1 hv.2, hA2.rd, hT⟩
end Go.Proofs.YtkibaedocieceaaDoor.dk
