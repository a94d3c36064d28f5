import Derived.Test.YtlbhiefamnpphaaDoorJcW1
import Derived.Test.YtlbhiefamnpphaaDoorRanges
import Derived.Deep.MidRow
namespace Go.Proofs.YtlbhiefamnpphaaDoor.jc
open Go.ChangeShapes Go.WideShapes Go.ChangeAt Go.RowKit Go.Proofs.YtlbhiefamnpphaaDoor.common Go.Proofs.YtlbhiefamnpphaaDoor.Jc

theorem heap_new (w : World) (o : Obj) : (w.alloc o).heap[w.heap.size]? = some o := by show (w.heap.push _)[w.heap.size]? = _; simp
theorem there_of {w : World} {F : Nat} {C : Array Value} {t : TypeId} (h : w.heap[F]? = some (.cells C t)) : w.there F 0 C.size := fun j hj => by
  constructor
  · simp [World.cell?, h, hj]
  · simp [World.frozen?, h]
theorem range_of {w : World} {F : Nat} {l : List Value} {t : TypeId} (h : w.heap[F]? = some (.cells l.toArray t)) : w.rangeAt F 0 l := fun j v hv => by
  simpa [World.cell?, h] using hv
theorem sizeD : (Tryd.prog.info? 26).map (·.size) = some 7 := by kernel_rfl
theorem one7 (a b c d e f g : Int) : (#[.int .i64 a, .int .i64 b, .int .i64 c, .int .i64 d, .int .i64 e, .int .i64 f, .int .i64 g] : Array Value).all (·.oneCell') = true := all_oneCell_toArray (cs := [.int .i64 a, .int .i64 b, .int .i64 c, .int .i64 d, .int .i64 e, .int .i64 f, .int .i64 g]) (fun v hv => by simp at hv; rcases hv with rfl | rfl | rfl | rfl | rfl | rfl | rfl <;> rfl)
end Go.Proofs.YtlbhiefamnpphaaDoor.jc
