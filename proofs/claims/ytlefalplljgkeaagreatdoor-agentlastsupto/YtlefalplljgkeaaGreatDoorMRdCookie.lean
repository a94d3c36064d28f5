import Derived.Test.YtlefalplljgkeaaGreatDoorMCur
namespace Go.Proofs.YtlefalplljgkeaaGreatDoor.fd
open Go.ChangeShapes Go.WideShapes Go.ChangeAt Go.RowKit Go.Proofs.YtlefalplljgkeaaGreatDoor.common Go.Proofs.YtlefalplljgkeaaGreatDoor.bk
attribute [local go_sem ↓] Go.wp_at_zero Go.wp_at_succ

set_option maxRecDepth 100000 in
set_option maxHeartbeats 1600000 in
theorem take_any (b : Nat) (s : ByteArray) (a : Nat) (c : UInt8) (w : World) (h : Rd w b s a) (hs : s.size ≤ 4611686018427387904) :
    Calls Tryz.prog 70 #[ptr b, B c] w fun e w' => Mv b w w' ∧ ((∃ hl : a < s.size, s[a] = c ∧ e = .returned (.bool true) ∧ Rd w' b s (a + 1)) ∨ ((∀ hl : a < s.size, s[a] ≠ c) ∧ e = .returned (.bool false) ∧ Rd w' b s a)) := by
  have c0 := h.c0
  have c1 := h.c1
  have f1 := h.f1
  have HM : Hid (∀ n, Calls Tryz.prog 71 #[ptr b] (w.drewN n) fun e w' => e = .returned (.bool (decide (a < s.size))) ∧ ∃ m, w' = (w.drewN n).drewN m) := fun n => more_any b s a _ (h.drewN n)
  have HR := hide h
  clear h
  by_cases hlt : a < s.size
  · have hi : (a : Int) < (s.size : Int) := by omega
    have hi0 : (0 : Int) ≤ (a : Int) := Int.natCast_nonneg _
    rw [decide_eq_true hlt] at HM
    by_cases hc : s[a] = c
    · have HC := hide hc
      have hci : (s[a].toNat : Int) = (c.toNat : Int) := by rw [hc]
      clear hc
      go_enter Tryz.func70, Tryz.ntmps70
      go_wp2_with fail
      go_quiet ((go_at_call 71; exact Calls.quiet_of (HM.out _)))
      go_wp2_with fail
      go_ret
      exact ⟨((Mv.refl _ _).drewN _).set _ _, Or.inl ⟨hlt, HC.out, rfl, by have := (HR.out.drewN nq).set (a + 1); rw [show (((a + 1 : Nat) : Int)) = (a : Int) + 1 from by omega] at this; exact this⟩⟩
    · have HC := hide hc
      have hci : ¬ (s[a].toNat : Int) = (c.toNat : Int) := fun e => hc (UInt8.toNat_inj.1 (by omega))
      have hcb : ((s[a].toNat : Int) == (c.toNat : Int)) = false := beq_false_of_ne hci
      clear hc
      go_enter Tryz.func70, Tryz.ntmps70
      go_wp2_with fail
      go_quiet ((go_at_call 71; exact Calls.quiet_of (HM.out _)))
      go_wp2_with fail
      go_ret
      exact ⟨(Mv.refl _ _).drewN _, Or.inr ⟨fun _ => HC.out, rfl, HR.out.drewN _⟩⟩
  · rw [decide_eq_false hlt] at HM
    go_enter Tryz.func70, Tryz.ntmps70
    go_wp2_with fail
    go_quiet ((go_at_call 71; exact Calls.quiet_of (HM.out _)))
    go_wp2_with fail
    go_ret
    exact ⟨(Mv.refl _ _).drewN _, Or.inr ⟨fun hl => absurd hl hlt, rfl, HR.out.drewN _⟩⟩

/-- one byte taken, or not -/
def tk (c : UInt8) : List UInt8 → Bool × List UInt8
  | [] => (false, [])
  | x :: r => if x = c then (true, r) else (false, x :: r)
theorem tk_yes {c x : UInt8} (r : List UInt8) (h : x = c) : tk c (x :: r) = (true, r) := by show (if x = c then _ else _) = _; rw [if_pos h]
theorem tk_no {c x : UInt8} (r : List UInt8) (h : ¬ x = c) : tk c (x :: r) = (false, x :: r) := by show (if x = c then _ else _) = _; rw [if_neg h]
theorem takeL_any (b : Nat) (s : ByteArray) (l : List UInt8) (c : UInt8) (w : World) (h : At w b s l) (hs : s.size ≤ 4611686018427387904) :
    Calls Tryz.prog 70 #[ptr b, B c] w fun e w' => e = .returned (.bool (tk c l).1) ∧ At w' b s (tk c l).2 ∧ Mv b w w' := by
  refine (take_any b s _ c w h.2 hs).mono ?_
  rintro e w' ⟨hm, ⟨hl, hc, rfl, hr⟩ | ⟨hn, rfl, hr⟩⟩
  · cases l with
    | nil => simp at hl
    | cons x r =>
      obtain ⟨h1, h2⟩ := suffix_at h.1
      have hx : x = c := h2.symm.trans hc
      rw [tk_yes r hx]
      exact ⟨rfl, At.of h.1 hr, hm⟩
  · cases l with
    | nil => exact ⟨rfl, ⟨h.1, hr⟩, hm⟩
    | cons x r =>
      obtain ⟨h1, h2⟩ := suffix_at h.1
      have hx : ¬ x = c := fun e => hn h1 (h2.trans e)
      rw [tk_no r hx]
      exact ⟨rfl, ⟨h.1, hr⟩, hm⟩

/-- one byte of a kind taken, or not -/
def tkP (p : UInt8 → Bool) : List UInt8 → Bool × List UInt8
  | [] => (false, [])
  | x :: r => if p x then (true, r) else (false, x :: r)

set_option maxRecDepth 100000 in
set_option maxHeartbeats 1600000 in
theorem takeOne_p (b : Nat) (s : ByteArray) (l : List UInt8) (g : Nat) (p : UInt8 → Bool) (w : World) (h : At w b s l) (hs : s.size ≤ 4611686018427387904) (eg : ∀ args w, (callFunc g args).run Tryz.prog w = .ok (.enter g args) w) (hf : ∀ W c, Calls Tryz.prog g #[B c] W fun e W' => e = .returned (.bool (p c)) ∧ W' = W) :
    Calls Tryz.prog 121 #[ptr b, .func (.func g) #[] #[]] w fun e w' => e = .returned (.bool (tkP p l).1) ∧ At w' b s (tkP p l).2 ∧ Mv b w w' := by
  have HC := hide (comesL_p b s l g p w h eg hf)
  have HA := hide h
  have c1 := h.2.c1
  have f1 := h.2.f1
  have hlen := h.len
  clear h hf eg
  cases l with
  | nil =>
    go_enter Tryz.func121, Tryz.ntmps121
    go_wp2_with fail
    refine HC.out.mono ?_
    rintro x w2 ⟨rfl, m, rfl⟩
    go_wp2_with fail
    go_ret
    exact ⟨rfl, HA.out.drewN m, (Mv.refl _ _).drewN m⟩
  | cons c r =>
    rw [List.length_cons] at hlen
    cases hp : p c with
    | false =>
      have HH : Hid (hd p (c :: r) = false) := hp
      have HT : Hid (tkP p (c :: r) = (false, c :: r)) := by show (if p c = true then _ else _) = _; rw [hp]; rfl
      rw [HH.out] at HC
      rw [HT.out]
      clear hp
      go_enter Tryz.func121, Tryz.ntmps121
      go_wp2_with fail
      refine HC.out.mono ?_
      rintro x w2 ⟨rfl, m, rfl⟩
      go_wp2_with fail
      go_ret
      exact ⟨rfl, HA.out.drewN m, (Mv.refl _ _).drewN m⟩
    | true =>
      have HH : Hid (hd p (c :: r) = true) := hp
      have HT : Hid (tkP p (c :: r) = (true, r)) := by show (if p c = true then _ else _) = _; rw [hp]; rfl
      rw [HH.out] at HC
      rw [HT.out]
      clear hp
      have hbd : s.size - (c :: r).length ≤ 4611686018427387904 := by omega
      generalize hK : s.size - (c :: r).length = K at *
      have HK := hide hK
      clear hK
      go_enter Tryz.func121, Tryz.ntmps121
      go_wp2_with fail
      refine HC.out.mono ?_
      rintro x w2 ⟨rfl, m, rfl⟩
      go_wp2_with fail
      go_ret
      refine ⟨rfl, ?_, ((Mv.refl _ _).drewN m).set _ _⟩
      have := (HA.out.drewN m).next
      rw [HK.out] at this
      exact this

end Go.Proofs.YtlefalplljgkeaaGreatDoor.fd

namespace Go.Proofs.YtlefalplljgkeaaGreatDoor.fd
open Go.ChangeShapes Go.WideShapes Go.ChangeAt Go.RowKit Go.Proofs.YtlefalplljgkeaaGreatDoor.common Go.Proofs.YtlefalplljgkeaaGreatDoor.bk
attribute [local go_sem ↓] Go.wp_at_zero Go.wp_at_succ

end Go.Proofs.YtlefalplljgkeaaGreatDoor.fd
