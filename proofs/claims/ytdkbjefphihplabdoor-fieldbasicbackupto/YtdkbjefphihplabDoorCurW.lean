import Derived.Test.YtdkbjefphihplabDoorCurKit
import Derived.Deep.QuietTactic
import Derived.BigQuiet
namespace Go.Proofs.YtdkbjefphihplabDoor.fd
open Go.ChangeShapes Go.WideShapes Go.ChangeAt Go.RowKit Go.Proofs.YtdkbjefphihplabDoor.common Go.Proofs.YtdkbjefphihplabDoor.bk
attribute [local go_sem ↓] Go.wp_at_zero Go.wp_at_succ

abbrev ptr (b : Nat) : Value := .pointer (some ⟨b, 0, none⟩)

set_option maxRecDepth 100000 in
set_option maxHeartbeats 800000 in
theorem more_any (b : Nat) (s : ByteArray) (a : Nat) (w : World) (h : Rd w b s a) :
    Calls Tryd.prog 60 #[ptr b] w fun e w' => e = .returned (.bool (decide (a < s.size))) ∧ ∃ m, w' = w.drewN m := by
  have c0 := h.c0
  have c1 := h.c1
  clear h
  by_cases hlt : a < s.size
  · rw [decide_eq_true hlt]
    have hi : (a : Int) < (s.size : Int) := by omega
    go_enter Tryd.func60, Tryd.ntmps60
    go_wp2_with fail
    go_quiet (fail)
    go_wp2_with fail
    go_ret
    exact ⟨by simp, _, rfl⟩
  · rw [decide_eq_false hlt]
    have hi : ¬ (a : Int) < (s.size : Int) := by omega
    go_enter Tryd.func60, Tryd.ntmps60
    go_wp2_with fail
    go_quiet (fail)
    go_wp2_with fail
    go_ret
    exact ⟨by simp, _, rfl⟩

set_option maxRecDepth 100000 in
set_option maxHeartbeats 1600000 in
theorem comes_m (b : Nat) (s : ByteArray) (a : Nat) (g : Nat) (r : Value) (p : UInt8 → Bool) (w : World) (h : Rd w b s a) (eg : ∀ args w, (callFunc g args).run Tryd.prog w = .ok (.enter g args) w) (hf : ∀ n c, Calls Tryd.prog g #[r, B c] (w.drewN n) fun e W' => e = .returned (.bool (p c)) ∧ W' = w.drewN n) (t : Bool) (ht : t = if h : a < s.size then p s[a] else false) :
    Calls Tryd.prog 63 #[ptr b, .func (.func g) #[r] #[]] w fun e w' => e = .returned (.bool t) ∧ ∃ m, w' = w.drewN m := by
  have c0 := h.c0
  have c1 := h.c1
  have HM : Hid (∀ n, Calls Tryd.prog 60 #[ptr b] (w.drewN n) fun e w' => e = .returned (.bool (decide (a < s.size))) ∧ ∃ m, w' = (w.drewN n).drewN m) := fun n => more_any b s a _ (h.drewN n)
  have HF := hide hf
  clear h hf
  by_cases hlt : a < s.size
  · rw [dif_pos hlt] at ht
    have hi : (a : Int) < (s.size : Int) := by omega
    have hi0 : (0 : Int) ≤ (a : Int) := Int.natCast_nonneg _
    rw [decide_eq_true hlt] at HM
    have HFK : Hid (∀ n, Calls Tryd.prog g #[r, B s[a]] (w.drewN n) fun e W' => e = .returned (.bool t) ∧ W' = w.drewN n) := fun n => by rw [ht]; exact HF.out n s[a]
    clear ht
    go_enter Tryd.func63, Tryd.ntmps63
    go_wp2_with fail
    go_quiet (first
      | (go_at_call 60; exact Calls.quiet_of (HM.out _))
      | (go_at_fn g; exact Calls.quiet_of_same (HFK.out _)))
    go_wp2_with fail
    go_ret
    exact ⟨rfl, _, rfl⟩
  · rw [dif_neg hlt] at ht
    subst ht
    rw [decide_eq_false hlt] at HM
    go_enter Tryd.func63, Tryd.ntmps63
    go_wp2_with fail
    go_quiet ((go_at_call 60; exact Calls.quiet_of (HM.out _)))
    go_wp2_with fail
    go_ret
    exact ⟨rfl, _, rfl⟩

set_option maxRecDepth 100000 in
set_option maxHeartbeats 1600000 in
theorem comes_p (b : Nat) (s : ByteArray) (a : Nat) (g : Nat) (p : UInt8 → Bool) (w : World) (h : Rd w b s a) (eg : ∀ args w, (callFunc g args).run Tryd.prog w = .ok (.enter g args) w) (hf : ∀ n c, Calls Tryd.prog g #[B c] (w.drewN n) fun e W' => e = .returned (.bool (p c)) ∧ W' = w.drewN n) (t : Bool) (ht : t = if h : a < s.size then p s[a] else false) :
    Calls Tryd.prog 63 #[ptr b, .func (.func g) #[] #[]] w fun e w' => e = .returned (.bool t) ∧ ∃ m, w' = w.drewN m := by
  have c0 := h.c0
  have c1 := h.c1
  have HM : Hid (∀ n, Calls Tryd.prog 60 #[ptr b] (w.drewN n) fun e w' => e = .returned (.bool (decide (a < s.size))) ∧ ∃ m, w' = (w.drewN n).drewN m) := fun n => more_any b s a _ (h.drewN n)
  have HF := hide hf
  clear h hf
  by_cases hlt : a < s.size
  · rw [dif_pos hlt] at ht
    have hi : (a : Int) < (s.size : Int) := by omega
    have hi0 : (0 : Int) ≤ (a : Int) := Int.natCast_nonneg _
    rw [decide_eq_true hlt] at HM
    have HFK : Hid (∀ n, Calls Tryd.prog g #[B s[a]] (w.drewN n) fun e W' => e = .returned (.bool t) ∧ W' = w.drewN n) := fun n => by rw [ht]; exact HF.out n s[a]
    clear ht
    go_enter Tryd.func63, Tryd.ntmps63
    go_wp2_with fail
    go_quiet (first
      | (go_at_call 60; exact Calls.quiet_of (HM.out _))
      | (go_at_fn g; exact Calls.quiet_of_same (HFK.out _)))
    go_wp2_with fail
    go_ret
    exact ⟨rfl, _, rfl⟩
  · rw [dif_neg hlt] at ht
    subst ht
    rw [decide_eq_false hlt] at HM
    go_enter Tryd.func63, Tryd.ntmps63
    go_wp2_with fail
    go_quiet ((go_at_call 60; exact Calls.quiet_of (HM.out _)))
    go_wp2_with fail
    go_ret
    exact ⟨rfl, _, rfl⟩

set_option maxRecDepth 100000 in
set_option maxHeartbeats 1600000 in
theorem take_any (b : Nat) (s : ByteArray) (a : Nat) (c : UInt8) (w : World) (h : Rd w b s a) (hs : s.size ≤ 4611686018427387904) :
    Calls Tryd.prog 59 #[ptr b, B c] w fun e w' => Mv b w w' ∧ ((∃ hl : a < s.size, s[a] = c ∧ e = .returned (.bool true) ∧ Rd w' b s (a + 1)) ∨ ((∀ hl : a < s.size, s[a] ≠ c) ∧ e = .returned (.bool false) ∧ Rd w' b s a)) := by
  have c0 := h.c0
  have c1 := h.c1
  have f1 := h.f1
  have HM : Hid (∀ n, Calls Tryd.prog 60 #[ptr b] (w.drewN n) fun e w' => e = .returned (.bool (decide (a < s.size))) ∧ ∃ m, w' = (w.drewN n).drewN m) := fun n => more_any b s a _ (h.drewN n)
  have HR := hide h
  clear h
  by_cases hlt : a < s.size
  · have hi : (a : Int) < (s.size : Int) := by omega
    have hi0 : (0 : Int) ≤ (a : Int) := Int.natCast_nonneg _
    rw [decide_eq_true hlt] at HM
    by_cases hc : s[a] = c
    · have HC := hide hc
      have hci : (s[a].toNat : Int) = (c.toNat : Int) := by rw [hc]
      clear hc
      go_enter Tryd.func59, Tryd.ntmps59
      go_wp2_with fail
      go_quiet ((go_at_call 60; exact Calls.quiet_of (HM.out _)))
      go_wp2_with fail
      go_ret
      exact ⟨((Mv.refl _ _).drewN _).set _ _, Or.inl ⟨hlt, HC.out, rfl, by have := (HR.out.drewN nq).set (a + 1); rw [show (((a + 1 : Nat) : Int)) = (a : Int) + 1 from by omega] at this; exact this⟩⟩
    · have HC := hide hc
      have hci : ¬ (s[a].toNat : Int) = (c.toNat : Int) := fun e => hc (UInt8.toNat_inj.1 (by omega))
      have hcb : ((s[a].toNat : Int) == (c.toNat : Int)) = false := beq_false_of_ne hci
      clear hc
      go_enter Tryd.func59, Tryd.ntmps59
      go_wp2_with fail
      go_quiet ((go_at_call 60; exact Calls.quiet_of (HM.out _)))
      go_wp2_with fail
      go_ret
      exact ⟨(Mv.refl _ _).drewN _, Or.inr ⟨fun _ => HC.out, rfl, HR.out.drewN _⟩⟩
  · rw [decide_eq_false hlt] at HM
    go_enter Tryd.func59, Tryd.ntmps59
    go_wp2_with fail
    go_quiet ((go_at_call 60; exact Calls.quiet_of (HM.out _)))
    go_wp2_with fail
    go_ret
    exact ⟨(Mv.refl _ _).drewN _, Or.inr ⟨fun hl => absurd hl hlt, rfl, HR.out.drewN _⟩⟩

end Go.Proofs.YtdkbjefphihplabDoor.fd
