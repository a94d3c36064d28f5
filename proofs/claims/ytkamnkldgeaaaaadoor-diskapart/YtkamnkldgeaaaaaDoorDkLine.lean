import Derived.Test.YtkamnkldgeaaaaaDoorRows
import Derived.Test.YtkamnkldgeaaaaaDoorDkMath
import Derived.Test.YtkamnkldgeaaaaaDoorRdKit
import Derived.Test.YtkamnkldgeaaaaaDoorRanges
import Derived.WalkKit
import Derived.WalkSpells
import Derived.WalkLawsBesides
import Derived.Outline
import Derived.Laws.BitsAllLaws
import Derived.Laws.IdiomStrings
import Derived.Deep.OwnRows
import Derived.Deep.MidRow
import Derived.Deep.AppendSrc
import Derived.Laws.IdiomCopy
import Derived.Lib.AppendZerosOnto
namespace Go.Proofs.YtkamnkldgeaaaaaDoor.dk
open Go.ChangeShapes Go.WideShapes Go.ChangeAt Go.RowKit Go.Proofs.YtkamnkldgeaaaaaDoor.common

theorem infoA : (Tryd.prog.info? 74).map (fun i => (i.zero, i.size, i.bytes)) = some (some (.agg #[.int .i64 0, .int .i64 0]), 2, 16) := by kernel_rfl
/-- the cells of arms -/
def acs (l : List (Nat × Int)) : List Value := l.flatMap fun a => [.int .i64 (a.1 : Int), .int .i64 a.2]
theorem acs_cons (a : Nat × Int) (l : List (Nat × Int)) : acs (a :: l) = [.int .i64 (a.1 : Int), .int .i64 a.2] ++ acs l := rfl
theorem acs_snoc (a : Nat × Int) (l : List (Nat × Int)) : acs (l ++ [a]) = acs l ++ [.int .i64 (a.1 : Int), .int .i64 a.2] := by simp [acs, List.flatMap_append]

/-- a disk in memory: its own cells, its bytes, its arms; F: the blocks that are its own -/
structure Lk (w : World) (p : Nat) (gb ga : Option Nat) (vb va : Value) (x : St) : Prop where
  cell : w.heap[p]? = some (.cells #[vb, .int .i64 (x.s : Int), .int .i64 (x.r : Int), va, .bool x.d] 55)
  bytes : Ln w 5 1 gb vb x.b.length (x.b.map B)
  arms : Ln w 74 2 ga va x.a.length (acs x.a)
def fp (p : Nat) (gb ga : Option Nat) : List Nat := p :: (gb.toList ++ ga.toList)
theorem fp_p (p : Nat) (gb ga : Option Nat) : p ∈ fp p gb ga := List.mem_cons_self ..
theorem fp_b {p g : Nat} {gb ga : Option Nat} (h : gb = some g) : g ∈ fp p gb ga := by subst h; simp [fp]
theorem fp_a {p g : Nat} {gb ga : Option Nat} (h : ga = some g) : g ∈ fp p gb ga := by subst h; simp [fp]
theorem fp_cases {p k : Nat} {gb ga : Option Nat} (h : k ∈ fp p gb ga) : k = p ∨ gb = some k ∨ ga = some k := by
  rcases List.mem_cons.1 h with h | h
  · exact Or.inl h
  · rcases List.mem_append.1 h with h | h
    · exact Or.inr (Or.inl (by simpa using h))
    · exact Or.inr (Or.inr (by simpa using h))
def Dk (w : World) (p : Nat) (F : List Nat) (x : St) : Prop := ∃ gb ga vb va, F = fp p gb ga ∧ Lk w p gb ga vb va x
theorem Lk.keep {w w' : World} {p : Nat} {gb ga : Option Nat} {vb va : Value} {x : St} (h : Lk w p gb ga vb va x) (hk : ∀ k ∈ fp p gb ga, w'.heap[k]? = w.heap[k]?) : Lk w' p gb ga vb va x :=
  ⟨(hk p (fp_p _ _ _)).trans h.cell, h.bytes.keep fun g hg => hk g (fp_b hg), h.arms.keep fun g hg => hk g (fp_a hg)⟩
theorem Lk.lt {w : World} {p : Nat} {gb ga : Option Nat} {vb va : Value} {x : St} (h : Lk w p gb ga vb va x) : ∀ k ∈ fp p gb ga, k < w.heap.size := fun k hk => by
  rcases fp_cases hk with rfl | hb | ha
  · exact (Array.getElem?_eq_some_iff.1 h.cell).1
  · exact (h.bytes.lt k hb).1
  · exact (h.arms.lt k ha).1
theorem Dk.keep {w w' : World} {p : Nat} {F : List Nat} {x : St} (h : Dk w p F x) (hk : ∀ k ∈ F, w'.heap[k]? = w.heap[k]?) : Dk w' p F x := by
  obtain ⟨gb, ga, vb, va, rfl, h⟩ := h
  exact ⟨gb, ga, vb, va, rfl, h.keep hk⟩
theorem Dk.lt {w : World} {p : Nat} {F : List Nat} {x : St} (h : Dk w p F x) : ∀ k ∈ F, k < w.heap.size := by
  obtain ⟨gb, ga, vb, va, rfl, h⟩ := h
  exact h.lt
theorem Dk.mem {w : World} {p : Nat} {F : List Nat} {x : St} (h : Dk w p F x) : p ∈ F := by
  obtain ⟨gb, ga, vb, va, rfl, h⟩ := h
  exact fp_p _ _ _
theorem Dk.below {w w' : World} {p : Nat} {F : List Nat} {x : St} (h : Dk w p F x) (hb : Below w.heap.size w w') : Dk w' p F x := h.keep fun k hk => hb.block k (h.lt k hk)
theorem Dk.other {w w' : World} {p : Nat} {F G : List Nat} {x : St} (h : Dk w p F x) (hf : Fr G w w') (hn : ∀ k ∈ F, k ∉ G) : Dk w' p F x := h.keep fun k hk => hf.block k (h.lt k hk) (hn k hk)
/-- a disk behind a call on it -/
def Mv (w : World) (p : Nat) (F : List Nat) (x : St) (w' : World) : Prop := ∃ F', Dk w' p F' x ∧ Fr F w w' ∧ ∀ k ∈ F', k ∈ F ∨ w.heap.size ≤ k
theorem Dk.stay {w : World} {p : Nat} {F : List Nat} {x : St} (h : Dk w p F x) {w' : World} (hb : Below w.heap.size w w') : Mv w p F x w' := ⟨F, h.below hb, Fr.of hb, fun _ hk => Or.inl hk⟩
theorem Mv.next {w w1 w2 : World} {p : Nat} {F : List Nat} {x : St} (h : Mv w p F x w1) (hb : Below w1.heap.size w1 w2) : Mv w p F x w2 := by
  obtain ⟨F', h1, h2, h3⟩ := h
  exact ⟨F', h1.below hb, h2.next hb, h3⟩
theorem Mv.trans {w w1 w2 : World} {p : Nat} {F F1 : List Nat} {x : St} (hf : Fr F w w1) (hs : ∀ k ∈ F1, k ∈ F ∨ w.heap.size ≤ k) (h : Mv w1 p F1 x w2) : Mv w p F x w2 := by
  obtain ⟨F2, h1, h2, h3⟩ := h
  refine ⟨F2, h1, hf.trans h2 hs, fun k hk => ?_⟩
  rcases h3 k hk with h4 | h4
  · exact hs k h4
  · exact Or.inr (Nat.le_trans hf.size h4)
end Go.Proofs.YtkamnkldgeaaaaaDoor.dk
