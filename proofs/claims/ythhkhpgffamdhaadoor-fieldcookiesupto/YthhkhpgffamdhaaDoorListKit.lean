import Derived.Test.YthhkhpgffamdhaaDoorListCopy
namespace Go.Proofs.YthhkhpgffamdhaaDoor.lst
open Go.ChangeShapes Go.WideShapes Go.ChangeAt Go.RowKit Go.Proofs.YthhkhpgffamdhaaDoor.common
attribute [local go_sem ↓] Go.wp_at_zero Go.wp_at_succ

/-- what stands in the spare room -/
def bh : ByteArray := ⟨#[98, 101, 104, 105, 110, 100]⟩
theorem sizeP : (Tryd.prog.info? 41).map (·.size) = some 2 := by kernel_rfl

theorem behind_any (w : World) : Calls Tryd.prog 46 #[] w fun e w' => e = .returned (.agg #[.string bh, .string bh]) ∧ Below w.heap.size w w' := by
  go_enter Tryd.func46, Tryd.ntmps46
  go_wp2
  refine bodyPost_ret (v := .agg #[.string bh, .string bh]) (results_cell1 (b := w.heap.size) (o := 0) (cs := [.string bh, .string bh]) Tryd.results46 _ rfl ?_ Tryd.underlying41 rfl sizeP) rfl ⟨rfl, ?_⟩
  · exact range_new_at w _ _ _ _ rfl rfl
  · exact (Below.refl _ _).alloc (Nat.le_refl _) _


end Go.Proofs.YthhkhpgffamdhaaDoor.lst
