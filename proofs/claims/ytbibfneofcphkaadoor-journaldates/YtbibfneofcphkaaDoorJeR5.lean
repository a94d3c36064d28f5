import Derived.Test.YtbibfneofcphkaaDoorJeR4
import Derived.Deep.RegionHeld3
namespace Go.Proofs.YtbibfneofcphkaaDoor.je
open Go.ChangeShapes Go.WideShapes Go.ChangeAt Go.RowKit Go.Proofs.YtbibfneofcphkaaDoor.common Go.Proofs.YtbibfneofcphkaaDoor.Jc Go.Proofs.YtbibfneofcphkaaDoor.jc
attribute [local go_sem ↓] Go.wp_at_zero Go.wp_at_succ

/-- what timed answers, written out -/
theorem tm_two (a b c h i s : Int) : ∃ e0 e1 e2 e3 e4 e5 e6 n : Int, tmR a b c h i s = .tuple #[dI e0 e1 e2 e3 e4 e5 e6, .int .i64 n] ∧ ((n = -1 ∧ gD a b c h i s = none) ∨ ∃ x, gD a b c h i s = some x ∧ dI e0 e1 e2 e3 e4 e5 e6 = dv x ∧ n = (x.sec : Int)) := by
  unfold tmR
  cases h : gD a b c h i s with
  | none => exact ⟨_, _, _, _, _, _, _, _, rfl, Or.inl ⟨rfl, rfl⟩⟩
  | some x => exact ⟨x.y, x.m, x.d, x.h, x.i, x.s, x.w, _, rfl, Or.inr ⟨x, rfl, rfl, rfl⟩⟩
/-- two dates, all below as it was -/
structure Rs (w wr : World) (A B : Nat) (x : Dt) (d0 d1 d2 d3 d4 d5 d6 : Int) : Prop where
  ty : Da wr A x.y x.m x.d x.h x.i x.s x.w
  db : Da wr B d0 d1 d2 d3 d4 d5 d6
  ne : A ≠ B
  ba : w.heap.size ≤ A
  bb : w.heap.size ≤ B
  bel : Below w.heap.size w wr
theorem Da.lt {w : World} {b : Nat} {a0 a1 a2 a3 a4 a5 a6 : Int} (h : Da w b a0 a1 a2 a3 a4 a5 a6) : b < w.heap.size := (Array.getElem?_eq_some_iff.1 h).1
theorem Da.next {w w' : World} {b : Nat} {a0 a1 a2 a3 a4 a5 a6 : Int} (h : Da w b a0 a1 a2 a3 a4 a5 a6) (k : Below w.heap.size w w') : Da w' b a0 a1 a2 a3 a4 a5 a6 := (k.block _ h.lt).trans h
theorem Rs.next {w wr w' : World} {A B : Nat} {x : Dt} {d0 d1 d2 d3 d4 d5 d6 : Int} (h : Rs w wr A B x d0 d1 d2 d3 d4 d5 d6) (k : Below wr.heap.size wr w') : Rs w w' A B x d0 d1 d2 d3 d4 d5 d6 :=
  ⟨h.ty.next k, h.db.next k, h.ne, h.ba, h.bb, keepW h.bel k (Nat.le_trans h.ba (Nat.le_of_lt h.ty.lt))⟩
/-- the second date stored anew -/
theorem Rs.put {w wr : World} {A B : Nat} {x : Dt} {d0 d1 d2 d3 d4 d5 d6 : Int} (h : Rs w wr A B x d0 d1 d2 d3 d4 d5 d6) (e0 e1 e2 e3 e4 e5 e6 : Int) : Rs w (wr.setCells B 0 [.int .i64 e0, .int .i64 e1, .int .i64 e2, .int .i64 e3, .int .i64 e4, .int .i64 e5, .int .i64 e6]) A B x e0 e1 e2 e3 e4 e5 e6 := by
  refine ⟨?_, ?_, h.ne, h.ba, h.bb, below_setCells h.bel h.bb _ _⟩
  · have k := h.ty
    unfold Da at k ⊢
    simp only [World.setCells]
    rw [set_else h.ne, set_else h.ne, set_else h.ne, set_else h.ne, set_else h.ne, set_else h.ne, set_else h.ne]
    exact k
  · have k := h.db
    unfold Da at k ⊢
    simp only [World.setCells]
    rw [set_box (set_box (set_box (set_box (set_box (set_box (set_box k 0 _) 1 _) 2 _) 3 _) 4 _) 5 _) 6 _]
    rfl
theorem Rs.there {w wr : World} {A B : Nat} {x : Dt} {d0 d1 d2 d3 d4 d5 d6 : Int} (h : Rs w wr A B x d0 d1 d2 d3 d4 d5 d6) : wr.there B 0 7 := by
  have k := h.db
  unfold Da at k
  exact there_of k
/-- the answer as a value -/
def ansV : Option Nat → Value
  | some n => .tuple #[.int .i64 (n : Int), .int .i64 0]
  | none => .tuple #[.int .i64 0, .int .i64 2]
theorem txt_eq (a b : List UInt8) : ((tx a).toList == (tx b).toList) = decide (a = b) := by
  have e : ∀ l : List UInt8, (tx l).toList = l := fun l => by rw [ByteArray.toList_eq]; simp [tx]
  rw [e, e]
  by_cases h : a = b
  · rw [decide_eq_true h, h]; simp
  · rw [decide_eq_false h]; exact beq_false_of_ne h
end Go.Proofs.YtbibfneofcphkaaDoor.je
