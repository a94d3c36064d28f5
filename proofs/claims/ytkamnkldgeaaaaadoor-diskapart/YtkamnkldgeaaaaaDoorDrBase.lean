import Derived.Test.YtkamnkldgeaaaaaDoorDkMore
import Derived.Test.YtkamnkldgeaaaaaDoorAppRd
import Derived.Deep.DeepAppendWide
import Derived.Deep.AppendLies
import Derived.Deep.RegionLawGrows
namespace Go.Proofs.YtkamnkldgeaaaaaDoor.dr
open Go.ChangeShapes Go.WideShapes Go.ChangeAt Go.RowKit Go.Proofs.YtkamnkldgeaaaaaDoor.common Go.Proofs.YtkamnkldgeaaaaaDoor.dk

/-- the document's disk: what lasts, what does not yet, the room, the arms, dead? -/
structure Sq where
  A : List UInt8
  T : List UInt8
  r : Nat
  a : List (Nat × Int)
  d : Bool
/-- the document's disk in memory -/
abbrev dqc (vs vt : Value) (r : Nat) (d : Bool) (va : Value) : Array Value := #[vs, vt, .int .i64 (r : Int), .bool d, va]
structure Lq (w : World) (p : Nat) (vs vt va : Value) (x : Sq) : Prop where
  cell : w.heap[p]? = some (.cells (dqc vs vt x.r x.d va) 58)
  safe : w.ownsRow 0 5 1 vs x.A.length (x.A.map B)
  tail : w.ownsRow 0 5 1 vt x.T.length (x.T.map B)
  arms : w.ownsRow 0 77 2 va x.a.length (acs x.a)
  sep : ∀ b, vs.ownBlock = some b → vt.ownBlock ≠ some b
def fq (p : Nat) (vs vt va : Value) : List Nat := p :: (vs.ownBlock.toList ++ (vt.ownBlock.toList ++ va.ownBlock.toList))
theorem fq_p (p : Nat) (vs vt va : Value) : p ∈ fq p vs vt va := List.mem_cons_self ..
theorem fq_cases {p k : Nat} {vs vt va : Value} (h : k ∈ fq p vs vt va) : k = p ∨ vs.ownBlock = some k ∨ vt.ownBlock = some k ∨ va.ownBlock = some k := by
  rcases List.mem_cons.1 h with h | h
  · exact Or.inl h
  · rcases List.mem_append.1 h with h | h
    · exact Or.inr (Or.inl (by simpa using h))
    · rcases List.mem_append.1 h with h | h
      · exact Or.inr (Or.inr (Or.inl (by simpa using h)))
      · exact Or.inr (Or.inr (Or.inr (by simpa using h)))
theorem fq_s {p k : Nat} {vs vt va : Value} (h : vs.ownBlock = some k) : k ∈ fq p vs vt va := by simp [fq, h]
theorem fq_t {p k : Nat} {vs vt va : Value} (h : vt.ownBlock = some k) : k ∈ fq p vs vt va := by simp [fq, h]
theorem fq_a {p k : Nat} {vs vt va : Value} (h : va.ownBlock = some k) : k ∈ fq p vs vt va := by simp [fq, h]
def Dq (w : World) (p : Nat) (F : List Nat) (x : Sq) : Prop := ∃ vs vt va, F = fq p vs vt va ∧ Lq w p vs vt va x
theorem own_keepK {w w' : World} {base : Nat} {e : TypeId} {size : Nat} {v : Value} {n : Nat} {xs : List Value} (h : w.ownsRow base e size v n xs) (hk : ∀ g, v.ownBlock = some g → w'.heap[g]? = w.heap[g]?) : w'.ownsRow base e size v n xs := by
  refine ⟨h.1, ?_⟩
  rcases h.2 with h1 | ⟨g, cap, cur, rfl, h1, h2, h3⟩
  · exact Or.inl h1
  · exact Or.inr ⟨g, cap, cur, rfl, h1, (hk g rfl).trans h2, h3⟩
theorem own_at {w : World} {base : Nat} {e : TypeId} {size : Nat} {v : Value} {n : Nat} {xs : List Value} (h : w.ownsRow base e size v n xs) : ∀ g, v.ownBlock = some g → g < w.heap.size ∧ ∃ cur, w.heap[g]? = some (.cells cur e (0, 0)) := fun g hg => by
  rcases h.2 with ⟨rfl, _⟩ | ⟨g', cap, cur, rfl, h1, h2, _⟩
  · cases hg
  · cases hg; exact ⟨(Array.getElem?_eq_some_iff.1 h2).1, cur, h2⟩
theorem own_slice {w : World} {base : Nat} {e : TypeId} {size : Nat} {v : Value} {n : Nat} {xs : List Value} (h : w.ownsRow base e size v n xs) : ∃ o c, v = .slice o n c ∧ n ≤ c := by
  rcases h.2 with ⟨rfl, rfl⟩ | ⟨g, cap, cur, rfl, _, _, h1, _⟩
  · exact ⟨none, 0, rfl, Nat.le_refl _⟩
  · exact ⟨_, cap, rfl, h1⟩
theorem Lq.keep {w w' : World} {p : Nat} {vs vt va : Value} {x : Sq} (h : Lq w p vs vt va x) (hk : ∀ k ∈ fq p vs vt va, w'.heap[k]? = w.heap[k]?) : Lq w' p vs vt va x :=
  ⟨(hk p (fq_p _ _ _ _)).trans h.cell, own_keepK h.safe fun g hg => hk g (fq_s hg), own_keepK h.tail fun g hg => hk g (fq_t hg), own_keepK h.arms fun g hg => hk g (fq_a hg), h.sep⟩
theorem Lq.lt {w : World} {p : Nat} {vs vt va : Value} {x : Sq} (h : Lq w p vs vt va x) : ∀ k ∈ fq p vs vt va, k < w.heap.size := fun k hk => by
  rcases fq_cases hk with rfl | hb | hb | hb
  · exact (Array.getElem?_eq_some_iff.1 h.cell).1
  · exact (own_at h.safe k hb).1
  · exact (own_at h.tail k hb).1
  · exact (own_at h.arms k hb).1
theorem Dq.keep {w w' : World} {p : Nat} {F : List Nat} {x : Sq} (h : Dq w p F x) (hk : ∀ k ∈ F, w'.heap[k]? = w.heap[k]?) : Dq w' p F x := by
  obtain ⟨vs, vt, va, rfl, h⟩ := h
  exact ⟨vs, vt, va, rfl, h.keep hk⟩
theorem Dq.lt {w : World} {p : Nat} {F : List Nat} {x : Sq} (h : Dq w p F x) : ∀ k ∈ F, k < w.heap.size := by
  obtain ⟨vs, vt, va, rfl, h⟩ := h
  exact h.lt
theorem Dq.below {w w' : World} {p : Nat} {F : List Nat} {x : Sq} (h : Dq w p F x) (hb : Below w.heap.size w w') : Dq w' p F x := h.keep fun k hk => hb.block k (h.lt k hk)
theorem Dq.other {w w' : World} {p : Nat} {F G : List Nat} {x : Sq} (h : Dq w p F x) (hf : Fr G w w') (hn : ∀ k ∈ F, k ∉ G) : Dq w' p F x := h.keep fun k hk => hf.block k (h.lt k hk) (hn k hk)
/-- the document's disk behind a call on it -/
def Mq (w : World) (p : Nat) (F : List Nat) (x : Sq) (w' : World) : Prop := ∃ F', Dq w' p F' x ∧ Fr F w w' ∧ ∀ k ∈ F', k ∈ F ∨ w.heap.size ≤ k
theorem Mq.trans {w w1 w2 : World} {p : Nat} {F F1 : List Nat} {x : Sq} (hf : Fr F w w1) (hs : ∀ k ∈ F1, k ∈ F ∨ w.heap.size ≤ k) (h : Mq w1 p F1 x w2) : Mq w p F x w2 := by
  obtain ⟨F2, h1, h2, h3⟩ := h
  refine ⟨F2, h1, hf.trans h2 hs, fun k hk => ?_⟩
  rcases h3 k hk with h4 | h4
  · exact hs k h4
  · exact Or.inr (Nat.le_trans hf.size h4)
/-- the blocks of a disk are no other's -/
structure Apt (p : Nat) (vs vt va : Value) : Prop where
  ps : ∀ b, vs.ownBlock = some b → b ≠ p
  pt : ∀ b, vt.ownBlock = some b → b ≠ p
  pa : ∀ b, va.ownBlock = some b → b ≠ p
  sa : ∀ b, vs.ownBlock = some b → va.ownBlock ≠ some b
  ta : ∀ b, vt.ownBlock = some b → va.ownBlock ≠ some b
set_option maxRecDepth 100000 in
theorem Lq.apt {w : World} {p : Nat} {vs vt va : Value} {x : Sq} (h : Lq w p vs vt va x) : Apt p vs vt va := by
  have ne : ∀ {b c : Nat} {e1 e2 : TypeId} {c1 c2 : Array Value}, w.heap[b]? = some (.cells c1 e1 (0, 0)) → w.heap[c]? = some (.cells c2 e2 (0, 0)) → e1 ≠ e2 → b ≠ c := fun h1 h2 hne e0 => by
    rw [e0, h2] at h1
    obtain ⟨_, h7, _⟩ := Obj.cells.inj (Option.some.inj h1)
    exact hne h7.symm
  refine ⟨fun b hb => ?_, fun b hb => ?_, fun b hb => ?_, fun b hb hc => ?_, fun b hb hc => ?_⟩
  · obtain ⟨_, _, h1⟩ := own_at h.safe b hb
    exact ne h1 h.cell (by decide)
  · obtain ⟨_, _, h1⟩ := own_at h.tail b hb
    exact ne h1 h.cell (by decide)
  · obtain ⟨_, _, h1⟩ := own_at h.arms b hb
    exact ne h1 h.cell (by decide)
  · obtain ⟨_, _, h1⟩ := own_at h.safe b hb
    obtain ⟨_, _, h2⟩ := own_at h.arms b hc
    exact ne h1 h2 (by decide) rfl
  · obtain ⟨_, _, h1⟩ := own_at h.tail b hb
    obtain ⟨_, _, h2⟩ := own_at h.arms b hc
    exact ne h1 h2 (by decide) rfl
end Go.Proofs.YtkamnkldgeaaaaaDoor.dr
