import Derived.Test.YthhkhpgffamdhaaDoorCommon
import Derived.Test.YthhkhpgffamdhaaDoorMedW3
namespace Go.Proofs.YthhkhpgffamdhaaDoor.fd
open Go.ChangeShapes Go.WideShapes Go.ChangeAt Go.RowKit Go.Proofs.YthhkhpgffamdhaaDoor.common Go.Proofs.YthhkhpgffamdhaaDoor.bk

/-- a struct of four cells in a new block -/
theorem box4Q (w : World) (x y z u : Value) (t : TypeId) : (∀ X, Below (w.alloc (.cells #[x, y, z, u] t)).heap.size (w.alloc (.cells #[x, y, z, u] t)) X → X.cell? ⟨w.heap.size, 0, none⟩ = some x) ∧
    (∀ X, Below (w.alloc (.cells #[x, y, z, u] t)).heap.size (w.alloc (.cells #[x, y, z, u] t)) X → X.cell? ⟨w.heap.size, 1, none⟩ = some y) ∧
    (∀ X, Below (w.alloc (.cells #[x, y, z, u] t)).heap.size (w.alloc (.cells #[x, y, z, u] t)) X → X.cell? ⟨w.heap.size, 2, none⟩ = some z) ∧
    (∀ X, Below (w.alloc (.cells #[x, y, z, u] t)).heap.size (w.alloc (.cells #[x, y, z, u] t)) X → X.cell? ⟨w.heap.size, 3, none⟩ = some u) ∧ Below w.heap.size w (w.alloc (.cells #[x, y, z, u] t)) := by
  have hlt : w.heap.size < (w.alloc (.cells #[x, y, z, u] t)).heap.size := by simp
  exact ⟨fun X hX => (hX.cell hlt).trans (range_new w #[x, y, z, u] t 0 x rfl), fun X hX => (hX.cell hlt).trans (range_new w #[x, y, z, u] t 1 y rfl), fun X hX => (hX.cell hlt).trans (range_new w #[x, y, z, u] t 2 z rfl), fun X hX => (hX.cell hlt).trans (range_new w #[x, y, z, u] t 3 u rfl), (Below.refl _ _).alloc (Nat.le_refl _) _⟩

end Go.Proofs.YthhkhpgffamdhaaDoor.fd
