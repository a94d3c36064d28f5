import Derived.Test.YtefdofmllgofeaaGreatDoorMSetW3
namespace Go.Proofs.YtefdofmllgofeaaGreatDoor.fd
open Go.ChangeShapes Go.WideShapes Go.ChangeAt Go.RowKit Go.Proofs.YtefdofmllgofeaaGreatDoor.common Go.Proofs.YtefdofmllgofeaaGreatDoor.bk
attribute [local go_sem ↓] Go.wp_at_zero Go.wp_at_succ

theorem setB_pos (n v : ByteArray) (N : Nat) : setB n v (N : Int) = ((((n ++ ⟨#[61]⟩) ++ v) ++ pathB) ++ (ageB ++ decB N)) ++ lastB := by
  have e : itoaB (N : Int) = decB N := by unfold itoaB decB; rw [Lib.itoa_nonneg]
  unfold setB ckB attrB
  rw [if_pos (by omega), e]
  apply ba_ext
  simp
theorem setB_neg (n v : ByteArray) (m : Int) (h : ¬ 0 ≤ m) : setB n v m = ((((n ++ ⟨#[61]⟩) ++ v) ++ pathB) ++ ⟨#[]⟩) ++ lastB := by
  unfold setB ckB attrB
  rw [if_neg h]
  apply ba_ext
  simp

theorem load3 : (Tryz.prog.info? 69).map (·.size) = some 3 := by kernel_rfl

end Go.Proofs.YtefdofmllgofeaaGreatDoor.fd
