import Derived.Test.YtaejlcffimkopaaDoorRdFo
namespace Go.Proofs.YtaejlcffimkopaaDoor.pg
open Go.Proofs.YtaejlcffimkopaaDoor.common

/-- what has been read from a0 on, one thing behind the other: xs, up to b -/
structure ManyR {α : Type} (F : Nat → List UInt8 → Option (List α × List UInt8)) (s : ByteArray) (a0 : Nat) (l0 : Bool) (xs : List α) (b : Nat) (m : Bool) : Prop where
  most : xs.length ≤ s.size - a0 + 1
  yes : m = false → l0 = false ∧ xs.length ≤ b - a0 ∧ ∀ n, F (xs.length + n) (rest s a0) = (F n (rest s b)).map fun q => (xs ++ q.1, q.2)
  no : m = true → l0 = true ∨ ∀ n, F (xs.length + n) (rest s a0) = none
theorem ManyR.start {α : Type} (F : Nat → List UInt8 → Option (List α × List UInt8)) (s : ByteArray) (a0 : Nat) (l0 : Bool) : ManyR F s a0 l0 [] a0 l0 :=
  ⟨Nat.zero_le _, fun e => ⟨e, Nat.zero_le _, fun n => by
    rw [List.length_nil, Nat.zero_add]
    cases F n (rest s a0) with
    | none => rfl
    | some q => rfl⟩, fun e => Or.inl e⟩
theorem ManyR.step {α : Type} {F : Nat → List UInt8 → Option (List α × List UInt8)} {it : List UInt8 → Option (α × List UInt8)} {s : ByteArray} {a0 : Nat} {l0 : Bool} {xs : List α} {b b' : Nat} {m' : Bool} {x : α} (h : ManyR F s a0 l0 xs b false) (hab : a0 ≤ b) (hb : b ≤ s.size) (hb' : b' ≤ s.size)
    (hF : ∀ n, F (n + 1) (rest s b) = (it (rest s b)).bind fun p => (F n p.2).bind fun q => some (p.1 :: q.1, q.2)) (hlt : ∀ y r, it (rest s b) = some (y, r) → r.length < (rest s b).length) (R : Rel it s b false x b' m') : ManyR F s a0 l0 (xs ++ [x]) b' m' ∧ (m' = false → b < b') := by
  obtain ⟨e0, hl, hn⟩ := h.yes rfl
  refine ⟨⟨by rw [List.length_append, List.length_singleton]; omega, fun e => ?_, fun e => ?_⟩, fun e => ?_⟩
  · obtain ⟨_, e2⟩ := R.yes e
    have hlt := hlt _ _ e2
    rw [rest_len, rest_len] at hlt
    refine ⟨e0, by rw [List.length_append, List.length_singleton]; omega, fun n => ?_⟩
    have h1 : (xs ++ [x]).length + n = xs.length + (n + 1) := by rw [List.length_append, List.length_singleton]; omega
    rw [h1, hn, hF, e2, Option.bind_some]
    show Option.map _ ((F n (rest s b')).bind fun q => some (x :: q.1, q.2)) = _
    cases F n (rest s b') with
    | none => rfl
    | some q => simp
  · rcases R.no e with h | h
    · cases h
    · refine Or.inr fun n => ?_
      have h1 : (xs ++ [x]).length + n = xs.length + (n + 1) := by rw [List.length_append, List.length_singleton]; omega
      rw [h1, hn, hF, h]
      rfl
  · obtain ⟨_, e2⟩ := R.yes e
    have hlt := hlt _ _ e2
    rw [rest_len, rest_len] at hlt
    omega
theorem ManyR.lost {α : Type} {F : Nat → List UInt8 → Option (List α × List UInt8)} {s : ByteArray} {a0 : Nat} {l0 : Bool} {xs : List α} {b : Nat} (h : ManyR F s a0 l0 xs b true) : Rel (fun x => F (x.length + 1) x) s a0 l0 xs b true := by
  refine ⟨fun e => (by cases e), fun _ => ?_⟩
  rcases h.no rfl with h1 | h1
  · exact Or.inl h1
  · have := h1 (s.size - a0 + 1 - xs.length)
    have hm := h.most
    rw [show xs.length + (s.size - a0 + 1 - xs.length) = s.size - a0 + 1 by omega] at this
    refine Or.inr ?_
    rw [rest_len]
    exact this
theorem ManyR.done {α : Type} {F : Nat → List UInt8 → Option (List α × List UInt8)} {s : ByteArray} {a0 : Nat} {l0 : Bool} {xs : List α} {b : Nat} (h : ManyR F s a0 l0 xs b false) (hb : b ≤ s.size) (hF : ∀ n, F (n + 1) (rest s b) = some ([], rest s b)) : Rel (fun x => F (x.length + 1) x) s a0 l0 xs b false := by
  obtain ⟨e0, hl, hn⟩ := h.yes rfl
  refine ⟨fun e => ⟨e0, ?_⟩, fun e => by cases e⟩
  have h3 := hn (s.size - a0 - xs.length + 1)
  rw [rest_len]
  rw [show xs.length + (s.size - a0 - xs.length + 1) = s.size - a0 + 1 by omega] at h3
  rw [h3, hF]
  simp
/-- a line -/
def lnD (x : List UInt8) : Option (ByteArray × List UInt8) := (skp mLineHead.data.toList x).bind fun r => (txtL 60 r).bind fun t => (skp mLineEnd.data.toList t.2).bind fun r => some (t.1, r)
theorem lnD_lt {s r : List UInt8} {n : ByteArray} (h : lnD s = some (n, r)) : r.length < s.length := by
  obtain ⟨q, h1, h2⟩ := bind_some h
  obtain ⟨⟨t, q2⟩, h3, h4⟩ := bind_some h2
  obtain ⟨q3, h5, h6⟩ := bind_some h4
  cases h6
  have e1 : q.length + 3 = s.length := skp_lt h1
  have e2 := txt_le h3
  have e3 : r.length + 5 = q2.length := skp_lt h5
  omega
theorem frmD_lt {s r : List UInt8} {f : Frm} (h : frmD s = some (f, r)) : r.length < s.length := by
  obtain ⟨q, h1, h2⟩ := bind_some h
  obtain ⟨⟨t, q2⟩, h3, h4⟩ := bind_some h2
  obtain ⟨q3, h5, h6⟩ := bind_some h4
  obtain ⟨⟨xs, q4⟩, h7, h8⟩ := bind_some h6
  obtain ⟨⟨b, q5⟩, h9, h10⟩ := bind_some h8
  obtain ⟨q6, h11, h12⟩ := bind_some h10
  obtain ⟨q7, h13, h14⟩ := bind_some h12
  cases h14
  have e1 := skp_lt h1
  have e2 := nmD_lt h3
  have e3 := skp_lt h5
  have e4 := txt_le h9
  have e5 := skp_lt h11
  have e6 := skp_lt h13
  have e7 : ∀ (n : Nat) (y : List UInt8) (zs : List Inp) (z : List UInt8), insDF n y = some (zs, z) → z.length ≤ y.length := by
    intro n
    induction n with
    | zero => intro y zs z h; cases h
    | succ n ih =>
      intro y zs z h
      unfold insDF at h
      split at h
      · rename_i k hk
        cases h
        have := skp_lt hk
        omega
      · obtain ⟨⟨x, k⟩, g1, g2⟩ := bind_some h
        obtain ⟨⟨ys, k2⟩, g3, g4⟩ := bind_some g2
        cases g4
        have := inD_lt g1
        have := ih _ _ _ g3
        simp only at *
        omega
  have e8 := e7 _ _ _ _ h7
  simp only at *
  omega
theorem lines_more {x r : List UInt8} (hk : skp mLineHead.data.toList x = some r) (n : Nat) : linesR (n + 1) x = (lnD x).bind fun p => (linesR n p.2).bind fun q => some (p.1 :: q.1, q.2) := by
  show (match skp mLineHead.data.toList x with
    | none => some ([], x)
    | some r => (txtL 60 r).bind fun t => (skp mLineEnd.data.toList t.2).bind fun r => (linesR n r).bind fun q => some (t.1 :: q.1, q.2)) = _
  unfold lnD
  rw [hk]
  simp only [Option.bind_some]
  cases txtL 60 r with
  | none => rfl
  | some t =>
    simp only [Option.bind_some]
    cases skp mLineEnd.data.toList t.2 with
    | none => rfl
    | some r => rfl
theorem lines_end {x : List UInt8} (hk : skp mLineHead.data.toList x = none) (n : Nat) : linesR (n + 1) x = some ([], x) := by
  show (match skp mLineHead.data.toList x with
    | none => some ([], x)
    | some r => (txtL 60 r).bind fun t => (skp mLineEnd.data.toList t.2).bind fun r => (linesR n r).bind fun q => some (t.1 :: q.1, q.2)) = _
  rw [hk]
theorem frms_more {x r : List UInt8} (hk : skp mFormHead.data.toList x = some r) (n : Nat) : frmsDF (n + 1) x = (frmD x).bind fun p => (frmsDF n p.2).bind fun q => some (p.1 :: q.1, q.2) := by
  show (match skp mFormHead.data.toList x with
    | none => some ([], x)
    | some _ => (frmD x).bind fun x => (frmsDF n x.2).bind fun q => some (x.1 :: q.1, q.2)) = _
  rw [hk]
theorem frms_end {x : List UInt8} (hk : skp mFormHead.data.toList x = none) (n : Nat) : frmsDF (n + 1) x = some ([], x) := by
  show (match skp mFormHead.data.toList x with
    | none => some ([], x)
    | some _ => (frmD x).bind fun x => (frmsDF n x.2).bind fun q => some (x.1 :: q.1, q.2)) = _
  rw [hk]
theorem ln_rel {s t : ByteArray} {a a1 a2 a3 : Nat} {l l1 l2 l3 : Bool} (h1 : RelS mLineHead s a l a1 l1) (h2 : Rel (txtL 60) s a1 l1 t a2 l2) (h3 : RelS mLineEnd s a2 l2 a3 l3) : Rel lnD s a l t a3 l3 :=
  h1.bind (h2.bind (g := fun t y => (skp mLineEnd.data.toList y).bind fun r => some (t, r)) (h3.bind (Rel.ret s a3 l3 t)))
theorem page_rel {s t u : ByteArray} {ls : List ByteArray} {fs : List Frm} {a a1 a2 a3 a4 a5 a6 a7 : Nat} {l l1 l2 l3 l4 l5 l6 l7 : Bool} (h1 : RelS mPageHead s a l a1 l1) (h2 : Rel (txtL 60) s a1 l1 t a2 l2) (h3 : RelS mPageTitle s a2 l2 a3 l3) (h4 : Rel (txtL 60) s a3 l3 u a4 l4) (h5 : RelS mPageBody s a4 l4 a5 l5) (h6 : Rel (fun x => linesR (x.length + 1) x) s a5 l5 ls a6 l6) (h7 : Rel (fun x => frmsDF (x.length + 1) x) s a6 l6 fs a7 l7) : Rel pageD s a l (t, ls, fs) a7 l7 :=
  h1.bind (h2.bind (g := fun t y => (skp mPageTitle.data.toList y).bind fun r => (txtL 60 r).bind fun u => (skp mPageBody.data.toList u.2).bind fun r => (linesR (r.length + 1) r).bind fun l => (frmsDF (l.2.length + 1) l.2).bind fun f => some ((t, l.1, f.1), f.2))
    (h3.bind (h4.bind (g := fun _ y => (skp mPageBody.data.toList y).bind fun r => (linesR (r.length + 1) r).bind fun l => (frmsDF (l.2.length + 1) l.2).bind fun f => some ((t, l.1, f.1), f.2))
      (h5.bind (h6.bind (g := fun l y => (frmsDF (y.length + 1) y).bind fun f => some ((t, l, f.1), f.2)) (h7.bind (g := fun f y => some ((t, ls, f), y)) (Rel.ret s a7 l7 _)))))))
end Go.Proofs.YtaejlcffimkopaaDoor.pg
