import Derived.Test.YtlbhiefamnpphaaDoorCommon
import Derived.BigQuiet
namespace Go.Proofs.YtlbhiefamnpphaaDoor.rc
open Go.ChangeShapes Go.WideShapes Go.ChangeAt Go.RowKit Go.Proofs.YtlbhiefamnpphaaDoor.common

/-- a region that draws its order, whose operations and callees keep to a class of worlds (those that f gives) -/
theorem wp_region_cls {P : Program} {id : Nat} {Q : Exit → Act → World → Prop} {a : Act} {w : World} {l : List Oper} (f : World → World) (hm : P.follows .mixedOrders = true) (hB : Region.lexB .any l.toArray = true) (w0 : World) (h0 : w.drew = f w0)
    (h : wpQuiet P l.toArray (fun w' => ∃ n, w' = f n) (fun a' => ∀ w', (∃ n, w' = f n) → Q .normal a' w') l a) : (Code.region id l.toArray true).wp P Q a w :=
  wp_region_quiet (C := fun w' => ∃ n, w' = f n) hm hB ⟨w0, h0⟩ (by simpa using h)
/-- the worlds above a base, as a function's values -/
theorem class_of (W : World) : ∃ f : World → World, (∀ X, Below W.heap.size W (f X)) ∧ (∀ X, Below W.heap.size W X → f X = X) := by
  classical
  refine ⟨fun X => if Below W.heap.size W X then X else W, fun X => ?_, fun X h => if_pos h⟩
  show Below W.heap.size W (if Below W.heap.size W X then X else W)
  by_cases h : Below W.heap.size W X
  · rw [if_pos h]; exact h
  · rw [if_neg h]; exact Below.refl _ _
end Go.Proofs.YtlbhiefamnpphaaDoor.rc
