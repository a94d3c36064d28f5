import Derived.Test.YticncaoecoehkaaDoorWlErr
import Derived.Test.YticncaoecoehkaaDoorDkPut
namespace Go.Proofs.YticncaoecoehkaaDoor.wlerr
open Go.ChangeShapes Go.WideShapes Go.ChangeAt Go.RowKit Go.Proofs.YticncaoecoehkaaDoor.common
theorem g9 : Tryd.prog.globalNamed "usher/api.ErrDead" = some 0 := by kernel_rfl
theorem t9 : (Tryd.prog.globals[0]?).map (·.type) = some 30 := by kernel_rfl
/-- ErrArg and ErrDead off a row's list -/
theorem two_of_laid {W : World} {rest : List (String × DataW Unit)} (h : laidMet Tryd.prog (("usher/api.ErrArg", Rows.laid_usher_api_ErrArg) :: ("usher/api.ErrDead", Rows.laid_usher_api_ErrDead) :: rest) W) : ∃ e, dk.Ed W W.heap.size e := by
  obtain ⟨ps, h0, hnd, hrows⟩ := h
  obtain ⟨a0, q0, c0, h1, rfl⟩ := peel h0 (fun b off hm => hrows b off (by simp [hm])) g0 t0 Tryd.underlying30 rowErr Tryd.underlying119 Tryd.underlying135 rfl rfl Tryd.underlying9 cellsErr cellsStr
  obtain ⟨a1, q1, c1, h2, rfl⟩ := peel h1 (fun b off hm => hrows b off (by simp [hm])) g9 t9 Tryd.underlying30 rowErr Tryd.underlying119 Tryd.underlying135 rfl rfl Tryd.underlying9 cellsErr cellsStr
  exact ⟨fun i => if i = 0 then a0 else a1, c0, c1, Nat.le_refl _, World.block_lt_of_cell? W _ c0, World.block_lt_of_cell? W _ c1⟩
end Go.Proofs.YticncaoecoehkaaDoor.wlerr
