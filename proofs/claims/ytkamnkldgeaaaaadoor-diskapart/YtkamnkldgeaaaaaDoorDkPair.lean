import Derived.Test.YtkamnkldgeaaaaaDoorDkSame
import Derived.Test.YtkamnkldgeaaaaaDoorDkOpen
import Derived.Test.YtkamnkldgeaaaaaDoorDkFine
namespace Go.Proofs.YtkamnkldgeaaaaaDoor.dk
open Go.ChangeShapes Go.WideShapes Go.ChangeAt Go.RowKit Go.Proofs.YtkamnkldgeaaaaaDoor.common

/-- a slice of steps that reads as ss -/
def LiesP (w : World) (v : Value) (ss : List Sp) : Prop :=
  ∃ oa cap, v = .slice oa ss.length cap ∧ ∀ i (h : i < ss.length), ∃ b o, oa = some ⟨b, o, none⟩ ∧ b < w.heap.size ∧ w.rangeAt b (o + i * 5) (spc ss[i])
theorem LiesP.below {w w' : World} {v : Value} {ss : List Sp} (h : LiesP w v ss) (hb : Below w.heap.size w w') : LiesP w' v ss := by
  obtain ⟨oa, cap, hv, h⟩ := h
  refine ⟨oa, cap, hv, fun i hi => ?_⟩
  obtain ⟨b, o, e, hlt, hr⟩ := h i hi
  exact ⟨b, o, e, Nat.lt_of_lt_of_le hlt hb.size, range_block hr (hb.block b hlt)⟩
/-- steps that may be -/
structure Steps (ss : List Sp) : Prop where
  len : (ss.length + 1) * 16 ≤ 140737488355328
  text : ∀ s ∈ ss, s.t.size ≤ reachBytes
  num : ∀ s ∈ ss, s.n ≤ 9223372036854775807 ∧ -9223372036854775808 ≤ s.m ∧ s.m ≤ 9223372036854775807
/-- a disk within a law: begun at base, behind j steps -/
structure Run (base : Nat) (w : World) (e : Nat → Addr) (p : Nat) (F : List Nat) (x : St) (j : Nat) : Prop where
  disk : Dk w p F x
  low : ∀ k ∈ F, base ≤ k
  err : Er w base e
  fine : Fine x
  arms : x.a.length ≤ j
theorem Run.keep {base : Nat} {w w' : World} {e : Nat → Addr} {p : Nat} {F : List Nat} {x : St} {j : Nat} (h : Run base w e p F x j) (hb : Below w.heap.size w w') : Run base w' e p F x j := ⟨h.disk.below hb, h.low, h.err.below hb, h.fine, h.arms⟩
theorem Run.other {base : Nat} {w w' : World} {e : Nat → Addr} {p : Nat} {F G : List Nat} {x : St} {j : Nat} (h : Run base w e p F x j) (hf : Fr G w w') (hn : ∀ k ∈ F, k ∉ G) (hG : ∀ k ∈ G, base ≤ k) : Run base w' e p F x j := ⟨h.disk.other hf hn, h.low, h.err.fr hf hG, h.fine, h.arms⟩
theorem Run.can {base : Nat} {w : World} {e : Nat → Addr} {p : Nat} {F : List Nat} {x : St} {j : Nat} (h : Run base w e p F x j) (s : Sp) (ht : s.t.size ≤ reachBytes) (hj : (j + 1) * 16 ≤ 140737488355328) : Can w base p F x e s :=
  ⟨h.disk, h.err, h.low, h.fine, ht, Nat.le_trans (Nat.mul_le_mul_right _ (Nat.succ_le_succ h.arms)) hj⟩
/-- a step of a run -/
def Ran (base : Nat) (w : World) (e : Nat → Addr) (p : Nat) (F : List Nat) (y : St) (a : An) (j : Nat) (r' : Ending) (w' : World) : Prop :=
  ∃ v F', r' = .returned (sdv v a.n a.e) ∧ Ans w F' v a.l w' ∧ Run base w' e p F' y (j + 1) ∧ Fr F w w' ∧ ∀ k ∈ F', k ∈ F ∨ w.heap.size ≤ k
theorem Run.act {base : Nat} {w : World} {e : Nat → Addr} {p : Nat} {F : List Nat} {x : St} {j : Nat} (h : Run base w e p F x j) (s : Sp) (ht : s.t.size ≤ reachBytes) (hj : (j + 1) * 16 ≤ 140737488355328) (h1 : s.n ≤ 9223372036854775807) (h2 : -9223372036854775808 ≤ s.m) (h3 : s.m ≤ 9223372036854775807) :
    Calls Tryd.prog 12 #[ptr p, spv s] w fun r' w' => Ran base w e p F (x.step s).1 (x.step s).2 j r' w' := by
  refine (act_any w base p F x e s (h.can s ht hj)).mono ?_
  rintro r' w' ⟨v, F', rfl, hA, hD, hf, hs⟩
  refine ⟨v, F', rfl, hA, ⟨hD, fun k hk => ?_, h.err.fr hf h.low, h.fine.step s h1 h2 h3, ?_⟩, hf, hs⟩
  · rcases hs k hk with h1 | h1
    · exact h.low k h1
    · exact Nat.le_trans h.err.size h1
  · exact Nat.le_trans (step_arms x s) (Nat.succ_le_succ h.arms)
theorem look_step (x : St) : x.step lk = (x, ⟨x.b, x.s, 0⟩) := by unfold St.step; simp
/-- to look is no step -/
theorem Run.look {base : Nat} {w : World} {e : Nat → Addr} {p : Nat} {F : List Nat} {x : St} {j : Nat} (h : Run base w e p F x j) (hj : (j + 1) * 16 ≤ 140737488355328) :
    Calls Tryd.prog 12 #[ptr p, spv lk] w fun r' w' => ∃ v F', r' = .returned (sdv v x.s 0) ∧ Ans w F' v x.b w' ∧ Run base w' e p F' x j ∧ Fr F w w' ∧ ∀ k ∈ F', k ∈ F ∨ w.heap.size ≤ k := by
  refine (act_any w base p F x e lk (h.can lk (Nat.zero_le _) hj)).mono ?_
  rw [look_step]
  rintro r' w' ⟨v, F', rfl, hA, hD, hf, hs⟩
  refine ⟨v, F', rfl, hA, ⟨hD, fun k hk => ?_, h.err.fr hf h.low, h.fine, h.arms⟩, hf, hs⟩
  rcases hs k hk with h1 | h1
  · exact h.low k h1
  · exact Nat.le_trans h.err.size h1
/-- a list that was answered, behind what happens to a disk -/
theorem Rd.fr {w w' : World} {v : Value} {l : List UInt8} {G : List Nat} (h : Rd w v l) (hf : Fr G w w') (hn : ∀ a n c, v = .slice (some a) n c → a.block ∉ G) (hlt : ∀ a n c, v = .slice (some a) n c → a.block < w.heap.size) : Rd w' v l :=
  h.keep (fun oa n cap hv => hf.block _ (hlt oa n cap hv) (hn oa n cap hv)) hf.size
theorem Ans.form {w : World} {F' : List Nat} {v : Value} {l : List UInt8} {w' : World} (h : Ans w F' v l w') : ∃ oa c, v = .slice oa l.length c := h.rd.len
theorem Ans.away {w : World} {F' : List Nat} {v : Value} {l : List UInt8} {w' : World} (h : Ans w F' v l w') {G : List Nat} (hG : ∀ k ∈ G, k ∈ F' ∨ k < w.heap.size ∨ w'.heap.size ≤ k) : (∀ a n c, v = .slice (some a) n c → a.block ∉ G) ∧ ∀ a n c, v = .slice (some a) n c → a.block < w'.heap.size := by
  rcases h with ⟨rfl, _⟩ | ⟨g, rfl, h1, h2, h3⟩
  · exact ⟨fun a n c e => (by cases e), fun a n c e => (by cases e)⟩
  · have hlt := (Array.getElem?_eq_some_iff.1 h3).1
    refine ⟨fun a n c e hm => ?_, fun a n c e => ?_⟩
    · cases e
      rcases hG _ hm with h4 | h4 | h4
      · exact h2 h4
      · have : g < w.heap.size := h4; omega
      · have : w'.heap.size ≤ g := h4; omega
    · cases e; exact hlt
theorem opened_run {w w' : World} {e : Nat → Addr} {x : St} {base : Nat} {r' : Ending} (h : Opened w x r' w') (hb : base ≤ w.heap.size) (he : Er w base e) (hx : Fine x) (ha : x.a = []) : ∃ g F, r' = .returned (ptr g) ∧ Run base w' e g F x 0 ∧ (∀ k ∈ F, w.heap.size ≤ k) ∧ Below w.heap.size w w' := by
  obtain ⟨g, F, rfl, h1, h2, h3⟩ := h
  exact ⟨g, F, rfl, ⟨h1, fun k hk => Nat.le_trans hb (h2 k hk), he.below h3, hx, by rw [ha]; exact Nat.le_refl _⟩, h2, h3⟩
theorem fine_new (l : List UInt8) (n : Nat) (r : Int) (hn : n ≤ l.length) (hl : l.length ≤ 140737488355328) : Fine ⟨l, n, roomOf r, [], false⟩ :=
  ⟨⟨hn, roomOf_le r, hl⟩, fun a ha => (by cases ha), fun a ha => (by cases ha)⟩
end Go.Proofs.YtkamnkldgeaaaaaDoor.dk
