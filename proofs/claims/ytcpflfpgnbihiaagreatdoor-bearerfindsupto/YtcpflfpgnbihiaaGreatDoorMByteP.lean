import Derived.Test.YtcpflfpgnbihiaaGreatDoorMFormMath
namespace Go.Proofs.YtcpflfpgnbihiaaGreatDoor.pctw
open Go.ChangeShapes Go.WideShapes Go.ChangeAt Go.RowKit Go.Proofs.YtcpflfpgnbihiaaGreatDoor.common
attribute [local go_sem ↓] Go.wp_at_zero Go.wp_at_succ

theorem hexv_cases (c : UInt8) : (48 ≤ c.toNat ∧ c.toNat ≤ 57 ∧ Pct.hexv c = c.toNat - 48) ∨ (65 ≤ c.toNat ∧ c.toNat ≤ 70 ∧ Pct.hexv c = c.toNat - 55) ∨ (97 ≤ c.toNat ∧ c.toNat ≤ 102 ∧ Pct.hexv c = c.toNat - 87) ∨
    (Pct.hexv c = 16 ∧ ¬ (48 ≤ c.toNat ∧ c.toNat ≤ 57) ∧ ¬ (65 ≤ c.toNat ∧ c.toNat ≤ 70) ∧ ¬ (97 ≤ c.toNat ∧ c.toNat ≤ 102)) := by
  unfold Pct.hexv
  split
  · omega
  · split
    · omega
    · split <;> omega

set_option maxHeartbeats 800000 in
theorem digitValue_any (c : UInt8) (w : World) :
    Calls Tryz.prog 101 #[B c] w fun e w' => w' = w ∧ ((Pct.hexv c < 16 ∧ e = .returned (.tuple #[.int .u8 (Pct.hexv c : Int), .bool true])) ∨ (¬ Pct.hexv c < 16 ∧ e = .returned (.tuple #[.int .u8 0, .bool false]))) := by
  have HC := hide (hexv_cases c)
  have hc := c.toNat_lt
  generalize Pct.hexv c = v at *
  go_enter Tryz.func101, Tryz.ntmps101
  go_wp2
  all_goals (go_ret2; refine ⟨rfl, ?_⟩; have := HC.out)
  all_goals first
    | (exfalso; omega)
    | (refine Or.inl ⟨by omega, ?_⟩; simp; omega)
    | (refine Or.inr ⟨by omega, ?_⟩; simp)

end Go.Proofs.YtcpflfpgnbihiaaGreatDoor.pctw
