import Derived.Test.YthhkhpgffamdhaaDoorFieldTab
namespace Go.Proofs.YthhkhpgffamdhaaDoor.fd
open Go.ChangeShapes Go.WideShapes Go.ChangeAt Go.RowKit Go.Proofs.YthhkhpgffamdhaaDoor.common Go.Proofs.YthhkhpgffamdhaaDoor.bk
attribute [local go_sem ↓] Go.wp_at_zero Go.wp_at_succ

theorem flag_tok (c : UInt8) : (Fd.tok c = true ∧ (Fd.flagN c.toNat = 1 ∨ Fd.flagN c.toNat = 3)) ∨ (Fd.tok c = false ∧ (Fd.flagN c.toNat = 0 ∨ Fd.flagN c.toNat = 2)) := by
  unfold Fd.tok Fd.flagN
  cases Fd.tokB c.toNat <;> cases Fd.ckB c.toNat <;> simp
theorem flag_ck (c : UInt8) : (Fd.ck c = true ∧ (Fd.flagN c.toNat = 2 ∨ Fd.flagN c.toNat = 3)) ∨ (Fd.ck c = false ∧ (Fd.flagN c.toNat = 0 ∨ Fd.flagN c.toNat = 1)) := by
  unfold Fd.ck Fd.flagN
  cases Fd.tokB c.toNat <;> cases Fd.ckB c.toNat <;> simp

set_option maxHeartbeats 800000 in
theorem isTokenByte_any (b o : Nat) (c : UInt8) (w : World) (h : Tab w b o) :
    Calls Tryd.prog 52 #[.pointer (some ⟨b, o, none⟩), B c] w fun e w' => e = .returned (.bool (Fd.tok c)) ∧ w' = w := by
  have hc := c.toNat_lt
  have c0 := h.cell c
  clear h
  have hF := flag_tok c
  generalize Fd.flagN c.toNat = f at *
  generalize Fd.tok c = t at *
  have hci : (c.toNat : Int) < 256 := by omega
  have hc0 : (0 : Int) ≤ (c.toNat : Int) := Int.natCast_nonneg _
  rcases hF with ⟨rfl, rfl | rfl⟩ | ⟨rfl, rfl | rfl⟩
  all_goals
    go_enter Tryd.func52, Tryd.ntmps52
    go_wp2
    go_ret
    exact ⟨rfl, rfl⟩

end Go.Proofs.YthhkhpgffamdhaaDoor.fd
