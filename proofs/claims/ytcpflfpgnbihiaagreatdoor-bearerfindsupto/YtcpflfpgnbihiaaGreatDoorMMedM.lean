import Derived.Test.YtcpflfpgnbihiaaGreatDoorMCur
import Derived.Test.YtcpflfpgnbihiaaGreatDoorMFieldRef
namespace Go.Proofs.YtcpflfpgnbihiaaGreatDoor.fd
open Go.ChangeShapes Go.WideShapes Go.ChangeAt Go.RowKit Go.Proofs.YtcpflfpgnbihiaaGreatDoor.common Go.Proofs.YtcpflfpgnbihiaaGreatDoor.bk
attribute [local go_sem ↓] Go.wp_at_zero Go.wp_at_succ

set_option maxRecDepth 100000 in
set_option maxHeartbeats 1600000 in
theorem take_any (b : Nat) (s : ByteArray) (a : Nat) (c : UInt8) (w : World) (h : Rd w b s a) (hs : s.size ≤ 4611686018427387904) :
    Calls Tryz.prog 79 #[ptr b, B c] w fun e w' => Mv b w w' ∧ ((∃ hl : a < s.size, s[a] = c ∧ e = .returned (.bool true) ∧ Rd w' b s (a + 1)) ∨ ((∀ hl : a < s.size, s[a] ≠ c) ∧ e = .returned (.bool false) ∧ Rd w' b s a)) := by
  have c0 := h.c0
  have c1 := h.c1
  have f1 := h.f1
  have HM : Hid (∀ n, Calls Tryz.prog 80 #[ptr b] (w.drewN n) fun e w' => e = .returned (.bool (decide (a < s.size))) ∧ ∃ m, w' = (w.drewN n).drewN m) := fun n => more_any b s a _ (h.drewN n)
  have HR := hide h
  clear h
  by_cases hlt : a < s.size
  · have hi : (a : Int) < (s.size : Int) := by omega
    have hi0 : (0 : Int) ≤ (a : Int) := Int.natCast_nonneg _
    rw [decide_eq_true hlt] at HM
    by_cases hc : s[a] = c
    · have HC := hide hc
      have hci : (s[a].toNat : Int) = (c.toNat : Int) := by rw [hc]
      clear hc
      go_enter Tryz.func79, Tryz.ntmps79
      go_wp2_with fail
      go_quiet ((go_at_call 80; exact Calls.quiet_of (HM.out _)))
      go_wp2_with fail
      go_ret
      exact ⟨((Mv.refl _ _).drewN _).set _ _, Or.inl ⟨hlt, HC.out, rfl, by have := (HR.out.drewN nq).set (a + 1); rw [show (((a + 1 : Nat) : Int)) = (a : Int) + 1 from by omega] at this; exact this⟩⟩
    · have HC := hide hc
      have hci : ¬ (s[a].toNat : Int) = (c.toNat : Int) := fun e => hc (UInt8.toNat_inj.1 (by omega))
      have hcb : ((s[a].toNat : Int) == (c.toNat : Int)) = false := beq_false_of_ne hci
      clear hc
      go_enter Tryz.func79, Tryz.ntmps79
      go_wp2_with fail
      go_quiet ((go_at_call 80; exact Calls.quiet_of (HM.out _)))
      go_wp2_with fail
      go_ret
      exact ⟨(Mv.refl _ _).drewN _, Or.inr ⟨fun _ => HC.out, rfl, HR.out.drewN _⟩⟩
  · rw [decide_eq_false hlt] at HM
    go_enter Tryz.func79, Tryz.ntmps79
    go_wp2_with fail
    go_quiet ((go_at_call 80; exact Calls.quiet_of (HM.out _)))
    go_wp2_with fail
    go_ret
    exact ⟨(Mv.refl _ _).drewN _, Or.inr ⟨fun hl => absurd hl hlt, rfl, HR.out.drewN _⟩⟩

/-- one byte taken, or not -/
def tk (c : UInt8) : List UInt8 → Bool × List UInt8
  | [] => (false, [])
  | x :: r => if x = c then (true, r) else (false, x :: r)
theorem tk_yes {c x : UInt8} (r : List UInt8) (h : x = c) : tk c (x :: r) = (true, r) := by show (if x = c then _ else _) = _; rw [if_pos h]
theorem tk_no {c x : UInt8} (r : List UInt8) (h : ¬ x = c) : tk c (x :: r) = (false, x :: r) := by show (if x = c then _ else _) = _; rw [if_neg h]
theorem takeL_any (b : Nat) (s : ByteArray) (l : List UInt8) (c : UInt8) (w : World) (h : At w b s l) (hs : s.size ≤ 4611686018427387904) :
    Calls Tryz.prog 79 #[ptr b, B c] w fun e w' => e = .returned (.bool (tk c l).1) ∧ At w' b s (tk c l).2 ∧ Mv b w w' := by
  refine (take_any b s _ c w h.2 hs).mono ?_
  rintro e w' ⟨hm, ⟨hl, hc, rfl, hr⟩ | ⟨hn, rfl, hr⟩⟩
  · cases l with
    | nil => simp at hl
    | cons x r =>
      obtain ⟨h1, h2⟩ := suffix_at h.1
      have hx : x = c := h2.symm.trans hc
      rw [tk_yes r hx]
      exact ⟨rfl, At.of h.1 hr, hm⟩
  · cases l with
    | nil => exact ⟨rfl, ⟨h.1, hr⟩, hm⟩
    | cons x r =>
      obtain ⟨h1, h2⟩ := suffix_at h.1
      have hx : ¬ x = c := fun e => hn h1 (h2.trans e)
      rw [tk_no r hx]
      exact ⟨rfl, ⟨h.1, hr⟩, hm⟩

/-- one byte of a kind taken, or not -/
def tkP (p : UInt8 → Bool) : List UInt8 → Bool × List UInt8
  | [] => (false, [])
  | x :: r => if p x then (true, r) else (false, x :: r)

set_option maxRecDepth 100000 in
set_option maxHeartbeats 1600000 in
theorem takeOne_p (b : Nat) (s : ByteArray) (l : List UInt8) (g : Nat) (p : UInt8 → Bool) (w : World) (h : At w b s l) (hs : s.size ≤ 4611686018427387904) (eg : ∀ args w, (callFunc g args).run Tryz.prog w = .ok (.enter g args) w) (hf : ∀ W c, Calls Tryz.prog g #[B c] W fun e W' => e = .returned (.bool (p c)) ∧ W' = W) :
    Calls Tryz.prog 111 #[ptr b, .func (.func g) #[] #[]] w fun e w' => e = .returned (.bool (tkP p l).1) ∧ At w' b s (tkP p l).2 ∧ Mv b w w' := by
  have HC := hide (comesL_p b s l g p w h eg hf)
  have HA := hide h
  have c1 := h.2.c1
  have f1 := h.2.f1
  have hlen := h.len
  clear h hf eg
  cases l with
  | nil =>
    go_enter Tryz.func111, Tryz.ntmps111
    go_wp2_with fail
    refine HC.out.mono ?_
    rintro x w2 ⟨rfl, m, rfl⟩
    go_wp2_with fail
    go_ret
    exact ⟨rfl, HA.out.drewN m, (Mv.refl _ _).drewN m⟩
  | cons c r =>
    rw [List.length_cons] at hlen
    cases hp : p c with
    | false =>
      have HH : Hid (hd p (c :: r) = false) := hp
      have HT : Hid (tkP p (c :: r) = (false, c :: r)) := by show (if p c = true then _ else _) = _; rw [hp]; rfl
      rw [HH.out] at HC
      rw [HT.out]
      clear hp
      go_enter Tryz.func111, Tryz.ntmps111
      go_wp2_with fail
      refine HC.out.mono ?_
      rintro x w2 ⟨rfl, m, rfl⟩
      go_wp2_with fail
      go_ret
      exact ⟨rfl, HA.out.drewN m, (Mv.refl _ _).drewN m⟩
    | true =>
      have HH : Hid (hd p (c :: r) = true) := hp
      have HT : Hid (tkP p (c :: r) = (true, r)) := by show (if p c = true then _ else _) = _; rw [hp]; rfl
      rw [HH.out] at HC
      rw [HT.out]
      clear hp
      have hbd : s.size - (c :: r).length ≤ 4611686018427387904 := by omega
      generalize hK : s.size - (c :: r).length = K at *
      have HK := hide hK
      clear hK
      go_enter Tryz.func111, Tryz.ntmps111
      go_wp2_with fail
      refine HC.out.mono ?_
      rintro x w2 ⟨rfl, m, rfl⟩
      go_wp2_with fail
      go_ret
      refine ⟨rfl, ?_, ((Mv.refl _ _).drewN m).set _ _⟩
      have := (HA.out.drewN m).next
      rw [HK.out] at this
      exact this

end Go.Proofs.YtcpflfpgnbihiaaGreatDoor.fd

namespace Go.Proofs.YtcpflfpgnbihiaaGreatDoor.fd
open Go.Proofs.YtcpflfpgnbihiaaGreatDoor.common Go.Proofs.YtcpflfpgnbihiaaGreatDoor.bk

/-- a byte that stands in a quoted text by itself -/
def isIn (c : UInt8) : Bool := Fd.val c && decide (c ≠ 34) && decide (c ≠ 92)
/-- what stands behind the last quote -/
def qL : List UInt8 → Option (List UInt8)
  | [] => none
  | [c] => if c = 34 then some [] else none
  | c :: d :: r => if c = 34 then some (d :: r) else if c = 92 then (if Fd.val d then qL r else none) else if isIn c then qL (d :: r) else none
/-- what stands behind a token -/
def tokL (l : List UInt8) : Option (List UInt8) := if l.takeWhile Fd.tok = [] then none else some (l.dropWhile Fd.tok)
def valL : List UInt8 → Option (List UInt8)
  | [] => none
  | c :: r => if c = 34 then qL r else tokL (c :: r)
def eqL : List UInt8 → Option (List UInt8)
  | [] => none
  | c :: r => if c = 61 then valL r else none
/-- what stands behind a parameter -/
def parL (l : List UInt8) : Option (List UInt8) := (tokL l).bind eqL
def slL : List UInt8 → Option (List UInt8)
  | [] => none
  | c :: r => if c = 47 then tokL r else none
/-- what stands behind a type -/
def kindL (l : List UInt8) : Option (List UInt8) := (tokL l).bind slL
/-- what stands behind a semicolon, white on both sides let go -/
def semL (l : List UInt8) : Option (List UInt8) :=
  match l.dropWhile Fd.white with
  | [] => none
  | c :: r => if c = 59 then some (r.dropWhile Fd.white) else none
/-- one time round -/
def oneP (l : List UInt8) : Option (List UInt8) := (semL l).bind fun r => if hd Fd.tok r then parL r else some r
def parsN : Nat → List UInt8 → Bool
  | 0, l => l.isEmpty
  | n + 1, l => if l = [] then true else match oneP l with | none => false | some r => parsN n r
/-- are these parameters to the end? -/
def pars (l : List UInt8) : Bool := parsN l.length l

theorem tokL_len {l r : List UInt8} (h : tokL l = some r) : r.length < l.length := by
  unfold tokL at h
  split at h
  · cases h
  · rename_i hne
    injection h with h; subst h
    have e : l.takeWhile Fd.tok ++ l.dropWhile Fd.tok = l := List.takeWhile_append_dropWhile
    have h2 := congrArg List.length e
    rw [List.length_append] at h2
    have h3 : 0 < (l.takeWhile Fd.tok).length := List.length_pos_iff.2 hne
    omega
theorem qL_len : ∀ (l r : List UInt8), qL l = some r → r.length < l.length
  | [], r, h => by cases h
  | [c], r, h => by
    unfold qL at h
    split at h
    · injection h with h; subst h; simp
    · cases h
  | c :: d :: t, r, h => by
    unfold qL at h
    split at h
    · injection h with h; subst h; simp
    · split at h
      · split at h
        · have := qL_len t r h; simp only [List.length_cons]; omega
        · cases h
      · split at h
        · have := qL_len (d :: t) r h; simp only [List.length_cons] at this ⊢; omega
        · cases h
theorem valL_len {l r : List UInt8} (h : valL l = some r) : r.length < l.length := by
  cases l with
  | nil => cases h
  | cons c t =>
    simp only [valL] at h
    split at h
    · have := qL_len t r h; simp only [List.length_cons]; omega
    · exact tokL_len h
theorem eqL_len {l r : List UInt8} (h : eqL l = some r) : r.length < l.length := by
  cases l with
  | nil => cases h
  | cons c t =>
    simp only [eqL] at h
    split at h
    · have := valL_len h; simp only [List.length_cons]; omega
    · cases h
theorem parL_len {l r : List UInt8} (h : parL l = some r) : r.length < l.length := by
  unfold parL at h
  cases ht : tokL l with
  | none => rw [ht] at h; cases h
  | some t =>
    rw [ht] at h
    have h1 := tokL_len ht
    have h2 := eqL_len (l := t) h
    omega
theorem semL_len {l r : List UInt8} (h : semL l = some r) : r.length < l.length := by
  unfold semL at h
  have h0 := (List.dropWhile_suffix (l := l) Fd.white).length_le
  split at h
  · cases h
  · rename_i c t e
    rw [e, List.length_cons] at h0
    split at h
    · injection h with h; subst h
      have := (List.dropWhile_suffix (l := t) Fd.white).length_le
      omega
    · cases h
theorem oneP_len {l r : List UInt8} (h : oneP l = some r) : r.length < l.length := by
  unfold oneP at h
  cases hs : semL l with
  | none => rw [hs] at h; cases h
  | some t =>
    rw [hs] at h
    have h1 := semL_len hs
    simp only [Option.bind_some] at h
    split at h
    · have := parL_len h; omega
    · injection h with h; subst h; exact h1
theorem parsN_fuel : ∀ (n m : Nat) (l : List UInt8), l.length ≤ n → l.length ≤ m → parsN n l = parsN m l := by
  intro n
  induction n with
  | zero =>
    intro m l h1 _
    obtain rfl : l = [] := List.length_eq_zero_iff.1 (by omega)
    cases m with
    | zero => rfl
    | succ m => show true = if _ then _ else _; rw [if_pos rfl]
  | succ n ih =>
    intro m l h1 h2
    by_cases hl : l = []
    · subst hl
      cases m with
      | zero => show (if _ then _ else _) = true; rw [if_pos rfl]
      | succ m => show (if _ then _ else _) = if _ then _ else _; rw [if_pos rfl, if_pos rfl]
    · cases m with
      | zero => exact absurd (List.length_eq_zero_iff.1 (by omega)) hl
      | succ m =>
        show (if _ then _ else _) = if _ then _ else _
        rw [if_neg hl, if_neg hl]
        cases ho : oneP l with
        | none => rfl
        | some r =>
          have := oneP_len ho
          exact ih m r (by omega) (by omega)
theorem pars_nil : pars [] = true := rfl
theorem pars_no {l : List UInt8} (hl : l ≠ []) (h : oneP l = none) : pars l = false := by
  unfold pars
  cases l with
  | nil => exact absurd rfl hl
  | cons c t => show (if _ then _ else _) = _; rw [if_neg hl, h]
theorem pars_yes {l r : List UInt8} (hl : l ≠ []) (h : oneP l = some r) : pars l = pars r := by
  have hlen := oneP_len h
  unfold pars
  cases l with
  | nil => exact absurd rfl hl
  | cons c t =>
    show (if _ then _ else _) = _
    rw [if_neg hl, h]
    simp only [List.length_cons] at hlen
    exact parsN_fuel _ _ _ (by omega) (Nat.le_refl _)

end Go.Proofs.YtcpflfpgnbihiaaGreatDoor.fd
