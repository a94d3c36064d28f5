import Derived.Test.YtjalggkhpnfbiaaDoorBRdBack
namespace Go.Proofs.YtjalggkhpnfbiaaDoor.pg
open Go.Proofs.YtjalggkhpnfbiaaDoor.common

/-- the inputs of a form, up to its button -/
def insR : Nat → List UInt8 → Option (List Inp × List UInt8)
  | 0, _ => none
  | f + 1, s => match skp mFormButton.data.toList s with
    | some r => some ([], r)
    | none => (inL s).bind fun p => (insR f p.2).bind fun q => some (p.1 :: q.1, q.2)
theorem insL_cons (x : Inp) (xs : List Inp) : insL (x :: xs) = lineL x ++ insL xs := rfl
theorem insR_is : ∀ (f : Nat) {s r : List UInt8} {xs : List Inp}, insR f s = some (xs, r) → s = insL xs ++ (mFormButton.data.toList ++ r) ∧ xs.all mayB = true
  | 0, _, _, _, h => by cases h
  | f + 1, s, r, xs, h => by
    unfold insR at h
    cases e : skp mFormButton.data.toList s with
    | some r1 =>
      rw [e] at h
      injection h with h
      injection h with h1 h2
      subst h1; subst h2
      exact ⟨show s = mFormButton.data.toList ++ r1 from skp_is e, rfl⟩
    | none =>
      rw [e] at h
      obtain ⟨p, h1, h⟩ := Option.bind_eq_some_iff.1 h
      obtain ⟨q, h2, h⟩ := Option.bind_eq_some_iff.1 h
      injection h with h
      injection h with h3 h4
      subst h3; subst h4
      obtain ⟨x, pr⟩ := p
      obtain ⟨ys, qr⟩ := q
      obtain ⟨i1, i2⟩ := inL_is h1
      obtain ⟨i3, i4⟩ := insR_is f h2
      dsimp only at i3
      refine ⟨?_, ?_⟩
      · show s = insL (x :: ys) ++ (mFormButton.data.toList ++ qr)
        rw [insL_cons, List.append_assoc, ← i3]
        exact i1
      · show (x :: ys).all mayB = true
        rw [List.all_cons, i2, i4]
        rfl
theorem line_btn (x : Inp) (h : mayB x = true) (r : List UInt8) : skp mFormButton.data.toList (lineL x ++ r) = none := by
  have hk := mayB_kind h
  obtain ⟨k, n, v, l⟩ := x
  dsimp only at hk
  have hc : k = 1 ∨ k = 2 ∨ k = 3 ∨ k = 4 := by omega
  rcases hc with rfl | rfl | rfl | rfl
  · rw [rdl1]; exact skp_ne 1 (by decide) (by intro h; cases h)
  · rw [rdl2]; exact skp_ne 4 (by decide) (by intro h; cases h)
  · rw [rdl3]; exact skp_ne 4 (by decide) (by intro h; cases h)
  · rw [rdl4]; exact skp_ne 4 (by decide) (by intro h; cases h)
theorem insR_app (r : List UInt8) : ∀ (xs : List Inp) (f : Nat), xs.all mayB = true → xs.length < f → insR f (insL xs ++ (mFormButton.data.toList ++ r)) = some (xs, r)
  | _, 0, _, h => absurd h (Nat.not_lt_zero _)
  | [], f + 1, _, _ => by
    show insR (f + 1) (mFormButton.data.toList ++ r) = _
    unfold insR
    rw [skp_app]
  | x :: xs, f + 1, ha, hf => by
    rw [List.all_cons, Bool.and_eq_true] at ha
    have ih := insR_app r xs f ha.2 (by simpa using hf)
    rw [insL_cons, List.append_assoc]
    unfold insR
    rw [line_btn x ha.1]
    show (inL (lineL x ++ (insL xs ++ (mFormButton.data.toList ++ r)))).bind _ = _
    rw [inL_app x ha.1, Option.bind_some, ih, Option.bind_some]
theorem line_pos (x : Inp) : 1 ≤ (lineL x).length := by
  unfold lineL kindP
  split
  · unfold hiddenP; show 1 ≤ (mHiddenName.data.toList ++ _).length; rw [List.length_append]; show 1 ≤ 27 + _; omega
  split
  · unfold textP; show 1 ≤ (mLabelHead.data.toList ++ _).length; rw [List.length_append]; show 1 ≤ 10 + _; omega
  split
  · unfold secretP; show 1 ≤ (mLabelHead.data.toList ++ _).length; rw [List.length_append]; show 1 ≤ 10 + _; omega
  · unfold boxP; show 1 ≤ (mBoxHead.data.toList ++ _).length; rw [List.length_append]; show 1 ≤ 39 + _; omega
theorem insL_most : ∀ xs : List Inp, xs.length ≤ (insL xs).length
  | [] => Nat.le_refl _
  | x :: r => by
    have h1 := line_pos x
    have h2 := insL_most r
    rw [insL_cons, List.length_append, List.length_cons]
    omega
/-- a form, behind its head -/
def frmR (s : List UInt8) : Option (Frm × List UInt8) := (txtL 34 s).bind fun a => (skp mFormInputs.data.toList a.2).bind fun r => (insR (r.length + 1) r).bind fun p => (txtL 60 p.2).bind fun b => (skp mFormEnd.data.toList b.2).bind fun r => some (⟨a.1, p.1, b.1⟩, r)
/-- a form without its head, and what comes behind it -/
def frmT (f : Frm) (r : List UInt8) : List UInt8 := Pg.esc f.act.data.toList ++ (mFormInputs.data.toList ++ (insL f.ins ++ (mFormButton.data.toList ++ (Pg.esc f.but.data.toList ++ (mFormEnd.data.toList ++ r)))))
theorem frmL_is (f : Frm) (r : List UInt8) : frmL f ++ r = mFormHead.data.toList ++ frmT f r := by
  unfold frmL formL frmT
  rw [List.append_assoc, List.append_assoc, parts_cons, parts_one, parts_cons, parts_one]
theorem frmR_is {s r : List UInt8} {f : Frm} (h : frmR s = some (f, r)) : s = frmT f r ∧ okF f = true := by
  unfold frmR at h
  obtain ⟨a, h1, h⟩ := Option.bind_eq_some_iff.1 h
  obtain ⟨r1, h2, h⟩ := Option.bind_eq_some_iff.1 h
  obtain ⟨p, h3, h⟩ := Option.bind_eq_some_iff.1 h
  obtain ⟨b, h4, h⟩ := Option.bind_eq_some_iff.1 h
  obtain ⟨r2, h5, h⟩ := Option.bind_eq_some_iff.1 h
  injection h with h
  injection h with h6 h7
  subst h6; subst h7
  obtain ⟨act, ar⟩ := a
  obtain ⟨xs, pr⟩ := p
  obtain ⟨but, br⟩ := b
  dsimp only at h2 h4 h5
  obtain ⟨i1, i2⟩ := insR_is _ h3
  refine ⟨?_, i2⟩
  show s = Pg.esc act.data.toList ++ (mFormInputs.data.toList ++ (insL xs ++ (mFormButton.data.toList ++ (Pg.esc but.data.toList ++ (mFormEnd.data.toList ++ r2)))))
  rw [← skp_is h5, ← (txtL_is h4).1, ← i1, ← skp_is h2]
  exact (txtL_is h1).1
theorem frmR_app (f : Frm) (h : okF f = true) (r : List UInt8) : frmR (frmT f r) = some (f, r) := by
  obtain ⟨act, xs, but⟩ := f
  have e1 : ∀ q, mFormInputs.data.toList ++ q = 34 :: (mFormInputs.data.toList.drop 1 ++ q) := fun q => rfl
  have e2 : mFormEnd.data.toList ++ r = 60 :: (mFormEnd.data.toList.drop 1 ++ r) := rfl
  have hl := insL_most xs
  unfold frmR frmT
  dsimp only
  rw [e1, txtL_app 34 (by decide), ← e1, Option.bind_some, skp_app, Option.bind_some]
  rw [insR_app _ xs _ h (by rw [List.length_append]; omega), Option.bind_some]
  rw [e2, txtL_app 60 (by decide), ← e2, Option.bind_some, skp_app, Option.bind_some]
end Go.Proofs.YtjalggkhpnfbiaaDoor.pg

namespace Go.Proofs.YtjalggkhpnfbiaaDoor.pg
open Go.Proofs.YtjalggkhpnfbiaaDoor.common

/-- the lines of a page -/
def linesR : Nat → List UInt8 → Option (List ByteArray × List UInt8)
  | 0, _ => none
  | f + 1, s => match skp mLineHead.data.toList s with
    | none => some ([], s)
    | some r => (txtL 60 r).bind fun t => (skp mLineEnd.data.toList t.2).bind fun r => (linesR f r).bind fun q => some (t.1 :: q.1, q.2)
/-- the forms of a page -/
def frmsR : Nat → List UInt8 → Option (List Frm × List UInt8)
  | 0, _ => none
  | f + 1, s => match skp mFormHead.data.toList s with
    | none => some ([], s)
    | some r => (frmR r).bind fun x => (frmsR f x.2).bind fun q => some (x.1 :: q.1, q.2)
/-- a page -/
def pageRd (s : List UInt8) : Option (ByteArray × List ByteArray × List Frm) := (skp mPageHead.data.toList s).bind fun r => (txtL 60 r).bind fun t => (skp mPageTitle.data.toList t.2).bind fun r => (txtL 60 r).bind fun u => if u.1.data.toList = t.1.data.toList then (skp mPageBody.data.toList u.2).bind fun r => (linesR (r.length + 1) r).bind fun l => (frmsR (l.2.length + 1) l.2).bind fun f => (skp mPageEnd.data.toList f.2).bind fun r => if r = [] then some (t.1, l.1, f.1) else none else none

theorem lineT_app (s : ByteArray) (r : List UInt8) : lineT s ++ r = mLineHead.data.toList ++ (Pg.esc s.data.toList ++ (mLineEnd.data.toList ++ r)) := by
  show partsA true [mLineHead, s, mLineEnd] ++ r = _
  rw [parts_cons, parts_one]
theorem linesR_app (r : List UInt8) (hr : skp mLineHead.data.toList r = none) : ∀ (ls : List ByteArray) (f : Nat), ls.length < f → linesR f (ls.flatMap lineT ++ r) = some (ls, r)
  | _, 0, h => absurd h (Nat.not_lt_zero _)
  | [], f + 1, _ => by
    show linesR (f + 1) r = _
    unfold linesR
    rw [hr]
  | x :: ls, f + 1, hf => by
    have ih := linesR_app r hr ls f (by simpa using hf)
    have e : mLineEnd.data.toList ++ (ls.flatMap lineT ++ r) = 60 :: (mLineEnd.data.toList.drop 1 ++ (ls.flatMap lineT ++ r)) := rfl
    rw [List.flatMap_cons, List.append_assoc, lineT_app]
    unfold linesR
    rw [skp_app]
    show (txtL 60 (Pg.esc x.data.toList ++ (mLineEnd.data.toList ++ (ls.flatMap lineT ++ r)))).bind _ = _
    rw [e, txtL_app 60 (by decide), ← e, Option.bind_some, skp_app, Option.bind_some, ih, Option.bind_some]
theorem frmsR_app (r : List UInt8) (hr : skp mFormHead.data.toList r = none) : ∀ (fs : List Frm) (f : Nat), fs.all okF = true → fs.length < f → frmsR f (fs.flatMap frmL ++ r) = some (fs, r)
  | _, 0, _, h => absurd h (Nat.not_lt_zero _)
  | [], f + 1, _, _ => by
    show frmsR (f + 1) r = _
    unfold frmsR
    rw [hr]
  | x :: fs, f + 1, ha, hf => by
    rw [List.all_cons, Bool.and_eq_true] at ha
    have ih := frmsR_app r hr fs f ha.2 (by simpa using hf)
    rw [List.flatMap_cons, List.append_assoc, frmL_is]
    unfold frmsR
    rw [skp_app]
    show (frmR (frmT x (fs.flatMap frmL ++ r))).bind _ = _
    rw [frmR_app x ha.1, Option.bind_some, ih, Option.bind_some]
theorem lines_most : ∀ ls : List ByteArray, ls.length ≤ (ls.flatMap lineT).length
  | [] => Nat.le_refl _
  | x :: r => by
    have h2 := lines_most r
    have h1 : 1 ≤ (lineT x).length := by show 1 ≤ (mLineHead.data.toList ++ _).length; rw [List.length_append]; show 1 ≤ 3 + _; omega
    rw [List.flatMap_cons, List.length_append, List.length_cons]
    omega
theorem frms_most : ∀ fs : List Frm, fs.length ≤ (fs.flatMap frmL).length
  | [] => Nat.le_refl _
  | x :: r => by
    have h2 := frms_most r
    have h1 : 1 ≤ (frmL x).length := by
      have := frmL_is x []
      rw [List.append_nil] at this
      rw [this, List.length_append]
      show 1 ≤ 28 + _
      omega
    rw [List.flatMap_cons, List.length_append, List.length_cons]
    omega
theorem head_app (t : ByteArray) (r : List UInt8) : partsA true (headP t) ++ r = mPageHead.data.toList ++ (Pg.esc t.data.toList ++ (mPageTitle.data.toList ++ (Pg.esc t.data.toList ++ (mPageBody.data.toList ++ r)))) := by
  unfold headP
  rw [parts_cons, parts_cons, parts_one]
theorem pageL_is (t : ByteArray) (ls : List ByteArray) (fs : List Frm) : pageL t ls fs = mPageHead.data.toList ++ (Pg.esc t.data.toList ++ (mPageTitle.data.toList ++ (Pg.esc t.data.toList ++ (mPageBody.data.toList ++ (ls.flatMap lineT ++ (fs.flatMap frmL ++ mPageEnd.data.toList)))))) := by
  unfold pageL
  rw [List.append_assoc, List.append_assoc, head_app]
/-- a page is read back -/
theorem pageRd_app (t : ByteArray) (ls : List ByteArray) (fs : List Frm) (h : fs.all okF = true) : pageRd (pageL t ls fs) = some (t, ls, fs) := by
  have e1 : ∀ q, mPageTitle.data.toList ++ q = 60 :: (mPageTitle.data.toList.drop 1 ++ q) := fun q => rfl
  have e2 : ∀ q, mPageBody.data.toList ++ q = 60 :: (mPageBody.data.toList.drop 1 ++ q) := fun q => rfl
  have hend : skp mFormHead.data.toList mPageEnd.data.toList = none := skp_ne 1 (by decide) (by intro h; cases h)
  have hline : skp mLineHead.data.toList (fs.flatMap frmL ++ mPageEnd.data.toList) = none := by
    cases fs with
    | nil => exact skp_ne 1 (by decide) (by intro h; cases h)
    | cons f r => rw [List.flatMap_cons, List.append_assoc, frmL_is]; exact skp_ne 1 (by decide) (by intro h; cases h)
  have m1 := lines_most ls
  have m2 := frms_most fs
  rw [pageL_is]
  unfold pageRd
  rw [skp_app, Option.bind_some, e1, txtL_app 60 (by decide), ← e1, Option.bind_some, skp_app, Option.bind_some, e2, txtL_app 60 (by decide), ← e2, Option.bind_some, if_pos rfl, skp_app, Option.bind_some]
  rw [linesR_app _ hline ls _ (by rw [List.length_append]; omega), Option.bind_some]
  rw [frmsR_app _ hend fs _ h (by rw [List.length_append]; omega), Option.bind_some]
  rw [show skp mPageEnd.data.toList (fs, mPageEnd.data.toList).2 = some [] by have := skp_app mPageEnd.data.toList []; rwa [List.append_nil] at this, Option.bind_some, if_pos rfl]
end Go.Proofs.YtjalggkhpnfbiaaDoor.pg
