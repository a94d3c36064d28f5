import Derived.Test.YtjalggkhpnfbiaaDoorBRdInp
namespace Go.Proofs.YtjalggkhpnfbiaaDoor.pg
open Go.Proofs.YtjalggkhpnfbiaaDoor.common

theorem inL_len {s r : List UInt8} {x : Inp} (h : inL s = some (x, r)) : r.length < s.length := by
  have h1 := (inL_is h).1
  have h2 := line_pos x
  rw [h1, List.length_append]; omega
theorem insR_fuel : ∀ (f g : Nat) (s : List UInt8), s.length < f → s.length < g → insR f s = insR g s
  | 0, _, _, h, _ => absurd h (Nat.not_lt_zero _)
  | _ + 1, 0, _, _, h => absurd h (Nat.not_lt_zero _)
  | f + 1, g + 1, s, hf, hg => by
    unfold insR
    cases skp mFormButton.data.toList s with
    | some r => rfl
    | none =>
      show (inL s).bind _ = (inL s).bind _
      cases hi : inL s with
      | none => rfl
      | some p =>
        obtain ⟨x, r⟩ := p
        have := inL_len hi
        rw [Option.bind_some, Option.bind_some, insR_fuel f g r (by omega) (by omega)]
/-- the inputs, whole -/
def insA (s : List UInt8) : Option (List Inp × List UInt8) := insR (s.length + 1) s
theorem insA_btn {s r : List UInt8} (h : skp mFormButton.data.toList s = some r) : insA s = some ([], r) := by
  unfold insA insR; rw [h]
theorem insA_none {s : List UInt8} (h : skp mFormButton.data.toList s = none) (hi : inL s = none) : insA s = none := by
  unfold insA insR; rw [h]; show (inL s).bind _ = _; rw [hi]; rfl
theorem insA_some {s r : List UInt8} {x : Inp} (h : skp mFormButton.data.toList s = none) (hi : inL s = some (x, r)) : insA s = (insA r).bind fun q => some (x :: q.1, q.2) := by
  have := inL_len hi
  unfold insA
  conv => lhs; unfold insR
  rw [h]
  show (inL s).bind _ = _
  rw [hi, Option.bind_some, insR_fuel s.length (r.length + 1) r (by omega) (by omega)]
theorem frmR_A (s : List UInt8) : frmR s = (txtL 34 s).bind fun a => (skp mFormInputs.data.toList a.2).bind fun r => (insA r).bind fun p => (txtL 60 p.2).bind fun b => (skp mFormEnd.data.toList b.2).bind fun r => some (⟨a.1, p.1, b.1⟩, r) := rfl
/-- what is left to be read, behind the inputs that have been read -/
def LeftI (s0 s : List UInt8) (l : List Inp) : Prop := insA s0 = (insA s).bind fun q => some (l ++ q.1, q.2)
theorem LeftI.start (s : List UInt8) : LeftI s s [] := by
  unfold LeftI
  cases insA s with
  | none => rfl
  | some q => rfl
theorem LeftI.next {s0 s r : List UInt8} {l : List Inp} {x : Inp} (h : LeftI s0 s l) (h1 : skp mFormButton.data.toList s = none) (hi : inL s = some (x, r)) : LeftI s0 r (l ++ [x]) := by
  unfold LeftI at h ⊢
  rw [h, insA_some h1 hi]
  cases insA r with
  | none => rfl
  | some q => simp
theorem LeftI.done {s0 s r : List UInt8} {l : List Inp} (h : LeftI s0 s l) (h1 : skp mFormButton.data.toList s = some r) : insA s0 = some (l, r) := by
  unfold LeftI at h
  rw [h, insA_btn h1]
  simp
theorem LeftI.bad {s0 s : List UInt8} {l : List Inp} (h : LeftI s0 s l) (h1 : skp mFormButton.data.toList s = none) (hi : inL s = none) : insA s0 = none := by
  unfold LeftI at h
  rw [h, insA_none h1 hi]
  rfl
theorem frmR_len {s r : List UInt8} {f : Frm} (h : frmR s = some (f, r)) : r.length ≤ s.length := by
  rw [(frmR_is h).1]
  unfold frmT
  simp only [List.length_append]
  omega
/-- the lines, whole -/
def linA (s : List UInt8) : Option (List ByteArray × List UInt8) := linesR (s.length + 1) s
theorem skp_len {m s r : List UInt8} (h : skp m s = some r) : r.length + m.length = s.length := by
  rw [skp_is h, List.length_append]; omega
theorem linesR_fuel : ∀ (f g : Nat) (s : List UInt8), s.length < f → s.length < g → linesR f s = linesR g s
  | 0, _, _, h, _ => absurd h (Nat.not_lt_zero _)
  | _ + 1, 0, _, _, h => absurd h (Nat.not_lt_zero _)
  | f + 1, g + 1, s, hf, hg => by
    unfold linesR
    cases hk : skp mLineHead.data.toList s with
    | none => rfl
    | some r =>
      show (txtL 60 r).bind _ = (txtL 60 r).bind _
      cases ht : txtL 60 r with
      | none => rfl
      | some t =>
        obtain ⟨t, r1⟩ := t
        rw [Option.bind_some, Option.bind_some]
        cases he : skp mLineEnd.data.toList r1 with
        | none => rfl
        | some r2 =>
          have h1 := skp_len hk
          have h2 := len_of (txtL_is ht).1
          have h3 := skp_len he
          have h4 : mLineHead.data.toList.length = 3 := rfl
          rw [Option.bind_some, Option.bind_some, linesR_fuel f g r2 (by omega) (by omega)]
theorem linA_end {s : List UInt8} (h : skp mLineHead.data.toList s = none) : linA s = some ([], s) := by unfold linA linesR; rw [h]
theorem linA_bad1 {s r : List UInt8} (h : skp mLineHead.data.toList s = some r) (ht : txtL 60 r = none) : linA s = none := by
  unfold linA linesR; rw [h]; show (txtL 60 r).bind _ = _; rw [ht]; rfl
theorem linA_bad2 {s r r1 : List UInt8} {t : ByteArray} (h : skp mLineHead.data.toList s = some r) (ht : txtL 60 r = some (t, r1)) (he : skp mLineEnd.data.toList r1 = none) : linA s = none := by
  unfold linA linesR; rw [h]; show (txtL 60 r).bind _ = _; rw [ht, Option.bind_some, he]; rfl
theorem linA_some {s r r1 r2 : List UInt8} {t : ByteArray} (h : skp mLineHead.data.toList s = some r) (ht : txtL 60 r = some (t, r1)) (he : skp mLineEnd.data.toList r1 = some r2) : linA s = (linA r2).bind fun q => some (t :: q.1, q.2) := by
  have h1 := skp_len h
  have h2 := len_of (txtL_is ht).1
  have h3 := skp_len he
  have h4 : mLineHead.data.toList.length = 3 := rfl
  unfold linA
  conv => lhs; unfold linesR
  rw [h]
  show (txtL 60 r).bind _ = _
  rw [ht, Option.bind_some, he, Option.bind_some, linesR_fuel s.length (r2.length + 1) r2 (by omega) (by omega)]
def LeftL (s0 s : List UInt8) (l : List ByteArray) : Prop := linA s0 = (linA s).bind fun q => some (l ++ q.1, q.2)
theorem LeftL.start (s : List UInt8) : LeftL s s [] := by
  unfold LeftL
  cases linA s with
  | none => rfl
  | some q => rfl
theorem LeftL.next {s0 s r r1 r2 : List UInt8} {l : List ByteArray} {t : ByteArray} (h : LeftL s0 s l) (hk : skp mLineHead.data.toList s = some r) (ht : txtL 60 r = some (t, r1)) (he : skp mLineEnd.data.toList r1 = some r2) : LeftL s0 r2 (l ++ [t]) := by
  unfold LeftL at h ⊢
  rw [h, linA_some hk ht he]
  cases linA r2 with
  | none => rfl
  | some q => simp
theorem LeftL.done {s0 s : List UInt8} {l : List ByteArray} (h : LeftL s0 s l) (h1 : skp mLineHead.data.toList s = none) : linA s0 = some (l, s) := by
  unfold LeftL at h
  rw [h, linA_end h1]
  simp
theorem LeftL.bad {s0 s : List UInt8} {l : List ByteArray} (h : LeftL s0 s l) (h1 : linA s = none) : linA s0 = none := by
  unfold LeftL at h
  rw [h, h1]
  rfl
/-- the forms, whole -/
def frmA (s : List UInt8) : Option (List Frm × List UInt8) := frmsR (s.length + 1) s
theorem frmsR_fuel : ∀ (f g : Nat) (s : List UInt8), s.length < f → s.length < g → frmsR f s = frmsR g s
  | 0, _, _, h, _ => absurd h (Nat.not_lt_zero _)
  | _ + 1, 0, _, _, h => absurd h (Nat.not_lt_zero _)
  | f + 1, g + 1, s, hf, hg => by
    unfold frmsR
    cases hk : skp mFormHead.data.toList s with
    | none => rfl
    | some r =>
      show (frmR r).bind _ = (frmR r).bind _
      cases ht : frmR r with
      | none => rfl
      | some t =>
        obtain ⟨t, r1⟩ := t
        have h1 := skp_len hk
        have h2 := frmR_len ht
        have h4 : mFormHead.data.toList.length = 28 := rfl
        rw [Option.bind_some, Option.bind_some, frmsR_fuel f g r1 (by omega) (by omega)]
theorem frmA_end {s : List UInt8} (h : skp mFormHead.data.toList s = none) : frmA s = some ([], s) := by unfold frmA frmsR; rw [h]
theorem frmA_bad {s r : List UInt8} (h : skp mFormHead.data.toList s = some r) (ht : frmR r = none) : frmA s = none := by
  unfold frmA frmsR; rw [h]; show (frmR r).bind _ = _; rw [ht]; rfl
theorem frmA_some {s r r1 : List UInt8} {x : Frm} (h : skp mFormHead.data.toList s = some r) (ht : frmR r = some (x, r1)) : frmA s = (frmA r1).bind fun q => some (x :: q.1, q.2) := by
  have h1 := skp_len h
  have h2 := frmR_len ht
  have h4 : mFormHead.data.toList.length = 28 := rfl
  unfold frmA
  conv => lhs; unfold frmsR
  rw [h]
  show (frmR r).bind _ = _
  rw [ht, Option.bind_some, frmsR_fuel s.length (r1.length + 1) r1 (by omega) (by omega)]
def LeftF (s0 s : List UInt8) (l : List Frm) : Prop := frmA s0 = (frmA s).bind fun q => some (l ++ q.1, q.2)
theorem LeftF.start (s : List UInt8) : LeftF s s [] := by
  unfold LeftF
  cases frmA s with
  | none => rfl
  | some q => rfl
theorem LeftF.next {s0 s r r1 : List UInt8} {l : List Frm} {x : Frm} (h : LeftF s0 s l) (hk : skp mFormHead.data.toList s = some r) (ht : frmR r = some (x, r1)) : LeftF s0 r1 (l ++ [x]) := by
  unfold LeftF at h ⊢
  rw [h, frmA_some hk ht]
  cases frmA r1 with
  | none => rfl
  | some q => simp
theorem LeftF.done {s0 s : List UInt8} {l : List Frm} (h : LeftF s0 s l) (h1 : skp mFormHead.data.toList s = none) : frmA s0 = some (l, s) := by
  unfold LeftF at h
  rw [h, frmA_end h1]
  simp
theorem LeftF.bad {s0 s : List UInt8} {l : List Frm} (h : LeftF s0 s l) (h1 : frmA s = none) : frmA s0 = none := by
  unfold LeftF at h
  rw [h, h1]
  rfl
end Go.Proofs.YtjalggkhpnfbiaaDoor.pg
