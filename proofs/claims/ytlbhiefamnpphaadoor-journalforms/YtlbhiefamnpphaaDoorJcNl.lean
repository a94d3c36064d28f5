import Derived.Test.YtlbhiefamnpphaaDoorJcNa
import Derived.Test.YtlbhiefamnpphaaDoorPickWalk
import Derived.Test.YtlbhiefamnpphaaDoorErrWalks
namespace Go.Proofs.YtlbhiefamnpphaaDoor.jc
open Go.ChangeShapes Go.WideShapes Go.ChangeAt Go.RowKit Go.Proofs.YtlbhiefamnpphaaDoor.common Go.Proofs.YtlbhiefamnpphaaDoor.Jc

abbrev ob (x : Dt) : Obj := .cells #[.int .i64 (x.y : Int), .int .i64 (x.m : Int), .int .i64 (x.d : Int), .int .i64 (x.h : Int), .int .i64 (x.i : Int), .int .i64 (x.s : Int), .int .i64 (x.w : Int)] 26
theorem obc {w : World} {b : Nat} {x : Dt} (h : w.heap[b]? = some (ob x)) : w.cell? ⟨b, 0, none⟩ = some (.int .i64 (x.y : Int)) ∧ w.cell? ⟨b, 1, none⟩ = some (.int .i64 (x.m : Int)) ∧ w.cell? ⟨b, 2, none⟩ = some (.int .i64 (x.d : Int)) ∧ w.cell? ⟨b, 3, none⟩ = some (.int .i64 (x.h : Int)) ∧ w.cell? ⟨b, 4, none⟩ = some (.int .i64 (x.i : Int)) ∧ w.cell? ⟨b, 5, none⟩ = some (.int .i64 (x.s : Int)) ∧ w.cell? ⟨b, 6, none⟩ = some (.int .i64 (x.w : Int)) := by
  refine ⟨?_, ?_, ?_, ?_, ?_, ?_, ?_⟩ <;> simp [World.cell?, h]
theorem obr {w : World} {b : Nat} {x : Dt} (h : w.heap[b]? = some (ob x)) : w.rangeAt b 0 [.int .i64 (x.y : Int), .int .i64 (x.m : Int), .int .i64 (x.d : Int), .int .i64 (x.h : Int), .int .i64 (x.i : Int), .int .i64 (x.s : Int), .int .i64 (x.w : Int)] := range_of (t := 26) h
theorem ob_lt {w : World} {b : Nat} {x : Dt} (h : w.heap[b]? = some (ob x)) : b < w.heap.size := (Array.getElem?_eq_some_iff.1 h).1
theorem ob_fr {w w' : World} {b : Nat} {x : Dt} (h : w.heap[b]? = some (ob x)) (hb : Below w.heap.size w w') : w'.heap[b]? = some (ob x) := (hb.block _ (ob_lt h)).trans h
theorem ob_al {w : World} {b : Nat} {x : Dt} (h : w.heap[b]? = some (ob x)) (o : Obj) : (w.alloc o).heap[b]? = some (ob x) := ob_fr h ((Below.refl _ _).alloc (Nat.le_refl _) _)

end Go.Proofs.YtlbhiefamnpphaaDoor.jc
