import Derived.Test.YtkamnkldgeaaaaaDoorDrTold
import Derived.Test.YtkamnkldgeaaaaaDoorDkPair
namespace Go.Proofs.YtkamnkldgeaaaaaDoor.dr
open Go.ChangeShapes Go.WideShapes Go.ChangeAt Go.RowKit Go.Proofs.YtkamnkldgeaaaaaDoor.common Go.Proofs.YtkamnkldgeaaaaaDoor.dk

abbrev stcQ (s : Sp) : Obj := .cells #[.int .i64 s.k, .int .i64 s.o, .int .i64 s.n, .int .i64 s.m, .string s.t] 38
/-- two disks and the document's two, in the same states -/
structure Qd (base : Nat) (W0 w : World) (e : Nat → Addr) (pa pb pc pd : Nat) (Fa Fb Fc Fd : List Nat) (x y : St) (j : Nat) : Prop where
  a : Run base w e pa Fa x j
  b : Run base w e pb Fb y j
  c : Dq w pc Fc (sq x)
  d : Dq w pd Fd (sq y)
  lc : ∀ q ∈ Fc, base ≤ q
  ld : ∀ q ∈ Fd, base ≤ q
  ab : ∀ q ∈ Fa, q ∉ Fb
  ac : ∀ q ∈ Fa, q ∉ Fc
  ad : ∀ q ∈ Fa, q ∉ Fd
  bc : ∀ q ∈ Fb, q ∉ Fc
  bd : ∀ q ∈ Fb, q ∉ Fd
  cd : ∀ q ∈ Fc, q ∉ Fd
  low : Below base W0 w
theorem Qd.swap {base : Nat} {W0 w : World} {e : Nat → Addr} {pa pb pc pd : Nat} {Fa Fb Fc Fd : List Nat} {x y : St} {j : Nat} (h : Qd base W0 w e pa pb pc pd Fa Fb Fc Fd x y j) : Qd base W0 w e pb pa pd pc Fb Fa Fd Fc y x j :=
  ⟨h.b, h.a, h.d, h.c, h.ld, h.lc, fun q h1 h2 => h.ab q h2 h1, h.bd, h.bc, h.ad, h.ac, fun q h1 h2 => h.cd q h2 h1, h.low⟩
theorem Qd.keep {base : Nat} {W0 w w' : World} {e : Nat → Addr} {pa pb pc pd : Nat} {Fa Fb Fc Fd : List Nat} {x y : St} {j : Nat} (h : Qd base W0 w e pa pb pc pd Fa Fb Fc Fd x y j) (hb : Below w.heap.size w w') : Qd base W0 w' e pa pb pc pd Fa Fb Fc Fd x y j :=
  ⟨h.a.keep hb, h.b.keep hb, h.c.below hb, h.d.below hb, h.lc, h.ld, h.ab, h.ac, h.ad, h.bc, h.bd, h.cd, h.low.trans (hb.mono h.a.err.size)⟩
theorem run_up {base : Nat} {w : World} {e : Nat → Addr} {p : Nat} {F : List Nat} {x : St} {j : Nat} (h : Run base w e p F x j) : Run base w e p F x (j + 1) := ⟨h.disk, h.low, h.err, h.fine, Nat.le_succ_of_le h.arms⟩
/-- the same step on the first one and on the document's: the answers are the same -/
theorem Qd.both {base : Nat} {W0 w : World} {e : Nat → Addr} {pa pb pc pd : Nat} {Fa Fb Fc Fd : List Nat} {x y : St} {j : Nat} (h : Qd base W0 w e pa pb pc pd Fa Fb Fc Fd x y j) (s : Sp) (ht : s.t.size ≤ reachBytes) (hj : (j + 1) * 16 ≤ 140737488355328) (h1 : s.n ≤ 9223372036854775807) (h2 : -9223372036854775808 ≤ s.m) (h3 : s.m ≤ 9223372036854775807) :
    Calls Tryd.prog 12 #[ptr pa, spv s] w fun r' w' => ∃ ov cv, r' = .returned (sdv (.slice ov (x.step s).2.l.length cv) (x.step s).2.n (x.step s).2.e) ∧ Fr Fa w w' ∧
      ∀ w1, Below w'.heap.size w' w1 → Calls Tryd.prog 14 #[ptr pc, spv s] w1 fun r' w'' => ∃ ow cw Fa' Fc', r' = .returned (sdv (.slice ow (x.step s).2.l.length cw) (x.step s).2.n (x.step s).2.e) ∧ Rd w'' (.slice ov (x.step s).2.l.length cv) (x.step s).2.l ∧ Rd w'' (.slice ow (x.step s).2.l.length cw) (x.step s).2.l ∧ Qd base W0 w'' e pa pb pc pd Fa' Fb Fc' Fd (x.step s).1 y (j + 1) := by
  refine (h.a.act s ht hj h1 h2 h3).mono ?_
  rintro r' w' ⟨v, Fa', rfl, hA, hRa, hf, hs⟩
  obtain ⟨ov, cv, rfl⟩ := hA.form
  refine ⟨ov, cv, rfl, hf, fun w1 hw1 => ?_⟩
  have dis : ∀ {G : List Nat}, (∀ q ∈ Fa, q ∉ G) → (∀ q ∈ G, q < w.heap.size) → ∀ q ∈ Fa', q ∉ G := fun {G} k1 k2 q hq hm => by
    rcases hs q hq with k | k
    · exact k1 q k hm
    · have := k2 q hm; omega
  have hC1 : Dq w1 pc Fc (sq x) := (h.c.other hf (fun q hq hm => h.ac q hm hq)).below hw1
  have hD1 : Dq w1 pd Fd (sq y) := (h.d.other hf (fun q hq hm => h.ad q hm hq)).below hw1
  have hB1 : Run base w1 e pb Fb y j := (h.b.other hf (fun q hq hm => h.ab q hm hq) h.a.low).keep hw1
  have hA1 : Run base w1 e pa Fa' (x.step s).1 (j + 1) := hRa.keep hw1
  have hlow : Below base W0 w1 := (h.low.trans (hf.below h.a.low h.a.err.size)).trans (hw1.mono hRa.err.size)
  have hv := hA.away (G := Fc) (fun q hq => Or.inr (Or.inl (h.c.lt q hq)))
  refine (told_any w1 pc Fc x s ⟨hC1, h.a.fine, ht, Nat.le_trans (Nat.mul_le_mul_right _ (Nat.succ_le_succ h.a.arms)) hj⟩).mono ?_
  rintro r' w'' ⟨v2, Fc', rfl, hA2, hC2, hf2, hs2⟩
  obtain ⟨ow, cw, rfl, _⟩ := own_slice hA2.1
  have dis2 : ∀ {G : List Nat}, (∀ q ∈ G, q ∉ Fc) → (∀ q ∈ G, q < w1.heap.size) → ∀ q ∈ G, q ∉ Fc' := fun {G} k1 k2 q hq hm => by
    rcases hs2 q hm with k | k
    · exact k1 q hq k
    · have := k2 q hq; omega
  have hac' : ∀ q ∈ Fa', q ∉ Fc := dis h.ac (fun q hq => h.c.lt q hq)
  refine ⟨ow, cw, Fa', Fc', rfl, ?_, rd_own hA2.1, ⟨hA1.other hf2 hac' h.lc, (run_up hB1).other hf2 h.bc h.lc, hC2, hD1.other hf2 (fun q hq hm => h.cd q hm hq), fun q hq => ?_, h.ld, dis h.ab h.b.disk.lt, dis2 hac' hA1.disk.lt, dis h.ad (fun q hq => h.d.lt q hq), dis2 h.bc hB1.disk.lt, h.bd, fun q hq hm => ?_, hlow.trans (hf2.below h.lc hA1.err.size)⟩⟩
  · exact (hA.rd.below hw1).fr hf2 hv.1 (fun a n c ea => Nat.lt_of_lt_of_le (hv.2 a n c ea) hw1.size)
  · rcases hs2 q hq with k | k
    · exact h.lc q k
    · exact Nat.le_trans hA1.err.size k
  · rcases hs2 q hq with k | k
    · exact h.cd q k hm
    · have := hD1.lt q hm; omega
theorem Qd.down {base : Nat} {W0 w : World} {e : Nat → Addr} {pa pb pc pd : Nat} {Fa Fb Fc Fd : List Nat} {x y : St} {i j : Nat} (h : Qd base W0 w e pa pb pc pd Fa Fb Fc Fd x y i) (h1 : x.a.length ≤ j) (h2 : y.a.length ≤ j) : Qd base W0 w e pa pb pc pd Fa Fb Fc Fd x y j :=
  ⟨⟨h.a.disk, h.a.low, h.a.err, h.a.fine, h1⟩, ⟨h.b.disk, h.b.low, h.b.err, h.b.fine, h2⟩, h.c, h.d, h.lc, h.ld, h.ab, h.ac, h.ad, h.bc, h.bd, h.cd, h.low⟩
end Go.Proofs.YtkamnkldgeaaaaaDoor.dr
