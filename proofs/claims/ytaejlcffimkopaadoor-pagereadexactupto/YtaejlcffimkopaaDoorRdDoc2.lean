import Derived.Test.YtaejlcffimkopaaDoorRdFuel
namespace Go.Proofs.YtaejlcffimkopaaDoor.pg
open Go.Proofs.YtaejlcffimkopaaDoor.common

/-- the document's own reader over lists: what it guesses where it is not lost -/
abbrev mQuote : ByteArray := ⟨#[34]⟩
abbrev mValD : ByteArray := ⟨#[32, 118, 97, 108, 117, 101, 61, 34]⟩
abbrev mEndD : ByteArray := ⟨#[62, 60, 47, 108, 97, 98, 101, 108, 62, 60, 47, 112, 62, 10]⟩
abbrev mHidD : ByteArray := ⟨#[62, 10]⟩
abbrev mBoxD : ByteArray := ⟨#[32, 99, 104, 101, 99, 107, 101, 100, 62, 32]⟩
/-- a name, its closing quote gone past -/
def nmD (s : List UInt8) : Option (ByteArray × List UInt8) := (txtL 34 s).bind fun p => (skp mQuote.data.toList p.2).bind fun r => some (p.1, r)
/-- a value -/
def vlD (s : List UInt8) : Option (ByteArray × List UInt8) := (skp mValD.data.toList s).bind nmD
/-- behind a label, and the blank behind it -/
def lbT (l : ByteArray) (s : List UInt8) : Option (Inp × List UInt8) :=
  match skp mTextName.data.toList s with
  | some r => (nmD r).bind fun n => (vlD n.2).bind fun v => (skp mEndD.data.toList v.2).bind fun r => some (⟨2, n.1, v.1, l⟩, r)
  | none => (skp mSecretName.data.toList s).bind fun r => (nmD r).bind fun n => (skp mEndD.data.toList n.2).bind fun r => some (⟨3, n.1, ⟨#[]⟩, l⟩, r)
/-- an input behind its label -/
def lbD (s : List UInt8) : Option (Inp × List UInt8) := (skp mLabelHead.data.toList s).bind fun r => (txtL 60 r).bind fun l =>
  if l.1.data.toList.getLast? = some 32 then lbT ⟨l.1.data.toList.dropLast.toArray⟩ (32 :: l.2) else none
/-- an input -/
def inD (s : List UInt8) : Option (Inp × List UInt8) :=
  match skp mHiddenName.data.toList s with
  | some r => (nmD r).bind fun n => (vlD n.2).bind fun v => (skp mHidD.data.toList v.2).bind fun r => some (⟨1, n.1, v.1, ⟨#[]⟩⟩, r)
  | none => match skp mBoxHead.data.toList s with
    | some r => (nmD r).bind fun n => (vlD n.2).bind fun v => (skp mBoxD.data.toList v.2).bind fun r => (txtL 60 r).bind fun l => (skp mLabelEnd.data.toList l.2).bind fun r => some (⟨4, n.1, v.1, l.1⟩, r)
    | none => lbD s

theorem nmD_app (n : ByteArray) (q : List UInt8) : nmD (Pg.esc n.data.toList ++ 34 :: q) = some (n, q) := by
  unfold nmD
  rw [txtL_app 34 (by decide), Option.bind_some]
  show (skp mQuote.data.toList (mQuote.data.toList ++ q)).bind _ = _
  rw [skp_app, Option.bind_some]
theorem vlD_app (v : ByteArray) (q : List UInt8) : vlD (mValD.data.toList ++ (Pg.esc v.data.toList ++ 34 :: q)) = some (v, q) := by
  unfold vlD
  rw [skp_app, Option.bind_some, nmD_app]
/-- a label and its blank, escaped -/
theorem esc_blank (l : ByteArray) : Pg.esc l.data.toList ++ [32] = Pg.esc (⟨(l.data.toList ++ [32]).toArray⟩ : ByteArray).data.toList := by
  show _ = Pg.esc (l.data.toList ++ [32]).toArray.toList
  rw [List.toList_toArray, Pg.esc_append]
  rfl
theorem lbD_app (l : ByteArray) (q : List UInt8) : lbD (mLabelHead.data.toList ++ (Pg.esc l.data.toList ++ 32 :: 60 :: q)) = lbT l (32 :: 60 :: q) := by
  have e : Pg.esc l.data.toList ++ 32 :: 60 :: q = Pg.esc (⟨(l.data.toList ++ [32]).toArray⟩ : ByteArray).data.toList ++ 60 :: q := by
    rw [← esc_blank]; simp
  unfold lbD
  rw [skp_app, Option.bind_some, e, txtL_app 60 (by decide), Option.bind_some]
  dsimp only
  rw [if_pos List.getLast?_concat, List.dropLast_concat]
/-- a label is no box -/
theorem lbD_box (l : ByteArray) (m q : List UInt8) (hm : m.head? = some 32) : skp mBoxHead.data.toList (mLabelHead.data.toList ++ (Pg.esc l.data.toList ++ (m ++ q))) = none := by
  cases m with
  | nil => cases hm
  | cons c m =>
    injection hm with hm
    subst hm
    have h0 := esc_head l.data.toList 32 (by decide) (m ++ q)
    refine skp_ne 10 (by decide) ?_
    have e : (mLabelHead.data.toList ++ (Pg.esc l.data.toList ++ (32 :: m ++ q)))[10]? = (Pg.esc l.data.toList ++ 32 :: (m ++ q))[0]? := by
      rw [List.getElem?_append_right (by decide)]
      rfl
    rw [e]
    intro h
    exact h0 h.symm
/-- the line of an input is guessed right -/
theorem inD_app (x : Inp) (h : mayB x = true) (r : List UInt8) : inD (lineL x ++ r) = some (x, r) := by
  have hk := mayB_kind h
  obtain ⟨k, n, v, l⟩ := x
  dsimp only at hk
  have hc : k = 1 ∨ k = 2 ∨ k = 3 ∨ k = 4 := by omega
  rcases hc with rfl | rfl | rfl | rfl
  · have hl : l = ⟨#[]⟩ := by
      unfold mayB at h
      simp at h
      exact emp_is h.2
    subst hl
    have e1 : ∀ q, mInputValue.data.toList ++ q = 34 :: (mValD.data.toList ++ q) := fun q => rfl
    have e2 : ∀ q, mHiddenEnd.data.toList ++ q = 34 :: (mHidD.data.toList ++ q) := fun q => rfl
    unfold inD
    rw [rdl1, skp_app]
    dsimp only
    rw [e1, nmD_app, Option.bind_some]
    dsimp only
    rw [e2, vlD_app, Option.bind_some]
    dsimp only
    rw [skp_app, Option.bind_some]
  · have e1 : ∀ q, mInputValue.data.toList ++ q = 34 :: (mValD.data.toList ++ q) := fun q => rfl
    have e2 : ∀ q, mTypedEnd.data.toList ++ q = 34 :: (mEndD.data.toList ++ q) := fun q => rfl
    have e3 : ∀ q, mTextName.data.toList ++ q = 32 :: 60 :: (mTextName.data.toList.drop 2 ++ q) := fun q => rfl
    unfold inD
    rw [rdl2, skp_ne 1 (by decide) (by intro h; cases h)]
    dsimp only
    rw [lbD_box l mTextName.data.toList _ rfl]
    dsimp only
    rw [e3, lbD_app, ← e3]
    unfold lbT
    rw [skp_app]
    dsimp only
    rw [e1, nmD_app, Option.bind_some]
    dsimp only
    rw [e2, vlD_app, Option.bind_some]
    dsimp only
    rw [skp_app, Option.bind_some]
  · have hv : v = ⟨#[]⟩ := by
      unfold mayB at h
      simp at h
      exact emp_is h.2
    subst hv
    have e2 : ∀ q, mTypedEnd.data.toList ++ q = 34 :: (mEndD.data.toList ++ q) := fun q => rfl
    have e3 : ∀ q, mSecretName.data.toList ++ q = 32 :: 60 :: (mSecretName.data.toList.drop 2 ++ q) := fun q => rfl
    unfold inD
    rw [rdl3, skp_ne 1 (by decide) (by intro h; cases h)]
    dsimp only
    rw [lbD_box l mSecretName.data.toList _ rfl]
    dsimp only
    rw [e3, lbD_app, ← e3]
    unfold lbT
    rw [skp_ne 14 (by decide) (by intro h; cases h), skp_app]
    dsimp only
    rw [Option.bind_some, e2, nmD_app, Option.bind_some]
    dsimp only
    rw [skp_app, Option.bind_some]
  · have e1 : ∀ q, mInputValue.data.toList ++ q = 34 :: (mValD.data.toList ++ q) := fun q => rfl
    have e2 : ∀ q, mBoxLabel.data.toList ++ q = 34 :: (mBoxD.data.toList ++ q) := fun q => rfl
    have e4 : ∀ q, mLabelEnd.data.toList ++ q = 60 :: (mLabelEnd.data.toList.drop 1 ++ q) := fun q => rfl
    unfold inD
    rw [rdl4, skp_ne 1 (by decide) (by intro h; cases h)]
    dsimp only
    rw [← List.append_assoc mLabelHead.data.toList, ← box_head, skp_app]
    dsimp only
    rw [e1, nmD_app, Option.bind_some]
    dsimp only
    rw [e2, vlD_app, Option.bind_some]
    dsimp only
    rw [skp_app, Option.bind_some, e4, txtL_app 60 (by decide), Option.bind_some]
    dsimp only
    rw [← e4, skp_app, Option.bind_some]
end Go.Proofs.YtaejlcffimkopaaDoor.pg

namespace Go.Proofs.YtaejlcffimkopaaDoor.pg
open Go.Proofs.YtaejlcffimkopaaDoor.common

abbrev mBtnD : ByteArray := ⟨#[60, 47, 98, 117, 116, 116, 111, 110, 62, 60, 47, 112, 62, 10]⟩
abbrev mFmEndD : ByteArray := ⟨#[60, 47, 102, 111, 114, 109, 62, 10]⟩
theorem fmEnd_is : mFormEnd.data.toList = mBtnD.data.toList ++ mFmEndD.data.toList := rfl
/-- the inputs of a form, as the document's reader guesses them -/
def insDF : Nat → List UInt8 → Option (List Inp × List UInt8)
  | 0, _ => none
  | f + 1, s => match skp mFormButton.data.toList s with
    | some r => some ([], r)
    | none => (inD s).bind fun p => (insDF f p.2).bind fun q => some (p.1 :: q.1, q.2)
theorem insDF_app (r : List UInt8) : ∀ (xs : List Inp) (f : Nat), xs.all mayB = true → xs.length < f → insDF f (insL xs ++ (mFormButton.data.toList ++ r)) = some (xs, r)
  | [], f + 1, _, _ => by
    show insDF (f + 1) (mFormButton.data.toList ++ r) = _
    unfold insDF
    rw [skp_app]
  | [], 0, _, h => absurd h (Nat.not_lt_zero _)
  | _ :: _, 0, _, h => absurd h (Nat.not_lt_zero _)
  | x :: xs, f + 1, ha, hf => by
    rw [List.all_cons, Bool.and_eq_true] at ha
    have ih := insDF_app r xs f ha.2 (by simpa using hf)
    rw [insL_cons, List.append_assoc]
    unfold insDF
    rw [line_btn x ha.1]
    show (inD (lineL x ++ (insL xs ++ (mFormButton.data.toList ++ r)))).bind _ = _
    rw [inD_app x ha.1, Option.bind_some, ih, Option.bind_some]
/-- a form -/
def frmD (s : List UInt8) : Option (Frm × List UInt8) := (skp mFormHead.data.toList s).bind fun r => (nmD r).bind fun a => (skp mHidD.data.toList a.2).bind fun r => (insDF (r.length + 1) r).bind fun p => (txtL 60 p.2).bind fun b => (skp mBtnD.data.toList b.2).bind fun r => (skp mFmEndD.data.toList r).bind fun r => some (⟨a.1, p.1, b.1⟩, r)
theorem frmD_app (f : Frm) (h : okF f = true) (r : List UInt8) : frmD (frmL f ++ r) = some (f, r) := by
  obtain ⟨act, xs, but⟩ := f
  have e1 : ∀ q, mFormInputs.data.toList ++ q = 34 :: (mHidD.data.toList ++ q) := fun q => rfl
  have e2 : ∀ q, mBtnD.data.toList ++ q = 60 :: (mBtnD.data.toList.drop 1 ++ q) := fun q => rfl
  have hl := insL_most xs
  rw [frmL_is]
  unfold frmD frmT
  dsimp only
  rw [skp_app, Option.bind_some, e1, nmD_app, Option.bind_some]
  dsimp only
  rw [skp_app, Option.bind_some, insDF_app _ xs _ h (by rw [List.length_append]; omega), Option.bind_some]
  show ((txtL 60 (Pg.esc but.data.toList ++ (mFormEnd.data.toList ++ r))).bind fun b => (skp mBtnD.data.toList b.2).bind fun r => (skp mFmEndD.data.toList r).bind fun r => some ((⟨act, xs, b.1⟩ : Frm), r)) = _
  rw [fmEnd_is, List.append_assoc, e2, txtL_app 60 (by decide), Option.bind_some, ← e2, skp_app, Option.bind_some, skp_app, Option.bind_some]
/-- the forms -/
def frmsDF : Nat → List UInt8 → Option (List Frm × List UInt8)
  | 0, _ => none
  | f + 1, s => match skp mFormHead.data.toList s with
    | none => some ([], s)
    | some _ => (frmD s).bind fun x => (frmsDF f x.2).bind fun q => some (x.1 :: q.1, q.2)
theorem frmsDF_app (r : List UInt8) (hr : skp mFormHead.data.toList r = none) : ∀ (fs : List Frm) (f : Nat), fs.all okF = true → fs.length < f → frmsDF f (fs.flatMap frmL ++ r) = some (fs, r)
  | _, 0, _, h => absurd h (Nat.not_lt_zero _)
  | [], f + 1, _, _ => by
    show frmsDF (f + 1) r = _
    unfold frmsDF
    rw [hr]
  | x :: fs, f + 1, ha, hf => by
    rw [List.all_cons, Bool.and_eq_true] at ha
    have ih := frmsDF_app r hr fs f ha.2 (by simpa using hf)
    have hk : skp mFormHead.data.toList (frmL x ++ (fs.flatMap frmL ++ r)) = some (frmT x (fs.flatMap frmL ++ r)) := by rw [frmL_is, skp_app]
    rw [List.flatMap_cons, List.append_assoc]
    unfold frmsDF
    rw [hk]
    show (frmD (frmL x ++ (fs.flatMap frmL ++ r))).bind _ = _
    rw [frmD_app x ha.1, Option.bind_some, ih, Option.bind_some]
/-- a page, as the document's reader guesses it (what stands behind its forms is not looked at) -/
def pageD (s : List UInt8) : Option ((ByteArray × List ByteArray × List Frm) × List UInt8) := (skp mPageHead.data.toList s).bind fun r => (txtL 60 r).bind fun t => (skp mPageTitle.data.toList t.2).bind fun r => (txtL 60 r).bind fun u => (skp mPageBody.data.toList u.2).bind fun r => (linesR (r.length + 1) r).bind fun l => (frmsDF (l.2.length + 1) l.2).bind fun f => some ((t.1, l.1, f.1), f.2)
/-- what is written is guessed right -/
theorem pageD_app (t : ByteArray) (ls : List ByteArray) (fs : List Frm) (h : fs.all okF = true) : pageD (pageL t ls fs) = some ((t, ls, fs), mPageEnd.data.toList) := by
  have e1 : ∀ q, mPageTitle.data.toList ++ q = 60 :: (mPageTitle.data.toList.drop 1 ++ q) := fun q => rfl
  have e2 : ∀ q, mPageBody.data.toList ++ q = 60 :: (mPageBody.data.toList.drop 1 ++ q) := fun q => rfl
  have hend : skp mFormHead.data.toList mPageEnd.data.toList = none := skp_ne 1 (by decide) (by intro h; cases h)
  have hline : skp mLineHead.data.toList (fs.flatMap frmL ++ mPageEnd.data.toList) = none := by
    cases fs with
    | nil => exact skp_ne 1 (by decide) (by intro h; cases h)
    | cons f r => rw [List.flatMap_cons, List.append_assoc, frmL_is]; exact skp_ne 1 (by decide) (by intro h; cases h)
  have m1 := lines_most ls
  have m2 := frms_most fs
  rw [pageL_is]
  unfold pageD
  rw [skp_app, Option.bind_some, e1, txtL_app 60 (by decide), ← e1, Option.bind_some, skp_app, Option.bind_some, e2, txtL_app 60 (by decide), ← e2, Option.bind_some, skp_app, Option.bind_some]
  rw [linesR_app _ hline ls _ (by rw [List.length_append]; omega), Option.bind_some]
  rw [frmsDF_app _ hend fs _ h (by rw [List.length_append]; omega), Option.bind_some]
end Go.Proofs.YtaejlcffimkopaaDoor.pg
