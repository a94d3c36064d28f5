import Derived.Test.YtlbhiefamnpphaaDoorJcW5
namespace Go.Proofs.YtlbhiefamnpphaaDoor.jc
open Go.ChangeShapes Go.WideShapes Go.ChangeAt Go.RowKit Go.Proofs.YtlbhiefamnpphaaDoor.common Go.Proofs.YtlbhiefamnpphaaDoor.Jc

theorem tab_most (k : Nat) (h : k < 12) : tab.getD k 0 ≤ 31 := by
  match k, h with
  | 0, _ => decide
  | 1, _ => decide
  | 2, _ => decide
  | 3, _ => decide
  | 4, _ => decide
  | 5, _ => decide
  | 6, _ => decide
  | 7, _ => decide
  | 8, _ => decide
  | 9, _ => decide
  | 10, _ => decide
  | 11, _ => decide

theorem wrp (n : Int) (h : -9223372036854775808 ≤ n ∧ n ≤ 9223372036854775807) : wrap64 n = n := by unfold wrap64; omega
theorem heap2 (w : World) (A Z : Obj) : ((w.alloc A).alloc Z).heap[w.heap.size + 1]? = some Z := by
  have := heap_new (w.alloc A) Z
  rwa [World.size_alloc] at this
theorem heap3 (w : World) (A Z Q : Obj) : (((w.alloc A).alloc Z).alloc Q).heap[w.heap.size + 1]? = some Z := by
  have h := heap2 w A Z
  have hl := (Array.getElem?_eq_some_iff.1 h).1
  show (((w.alloc A).alloc Z).heap.push _)[w.heap.size + 1]? = _
  rw [Array.getElem?_push, if_neg (by omega), h]
end Go.Proofs.YtlbhiefamnpphaaDoor.jc
