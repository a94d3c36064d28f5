import Derived.Test.YtjalggkhpnfbiaaDoorMRdForm
namespace Go.Proofs.YtjalggkhpnfbiaaDoor.pg
open Go.Proofs.YtjalggkhpnfbiaaDoor.common

/-- the lines of a page -/
def linesR : Nat → List UInt8 → Option (List ByteArray × List UInt8)
  | 0, _ => none
  | f + 1, s => match skp mLineHead.data.toList s with
    | none => some ([], s)
    | some r => (txtL 60 r).bind fun t => (skp mLineEnd.data.toList t.2).bind fun r => (linesR f r).bind fun q => some (t.1 :: q.1, q.2)
/-- the forms of a page -/
def frmsR : Nat → List UInt8 → Option (List Frm × List UInt8)
  | 0, _ => none
  | f + 1, s => match skp mFormHead.data.toList s with
    | none => some ([], s)
    | some r => (frmR r).bind fun x => (frmsR f x.2).bind fun q => some (x.1 :: q.1, q.2)
/-- a page -/
def pageRd (s : List UInt8) : Option (ByteArray × List ByteArray × List Frm) := (skp mPageHead.data.toList s).bind fun r => (txtL 60 r).bind fun t => (skp mPageTitle.data.toList t.2).bind fun r => (txtL 60 r).bind fun u => if u.1.data.toList = t.1.data.toList then (skp mPageBody.data.toList u.2).bind fun r => (linesR (r.length + 1) r).bind fun l => (frmsR (l.2.length + 1) l.2).bind fun f => (skp mPageEnd.data.toList f.2).bind fun r => if r = [] then some (t.1, l.1, f.1) else none else none

theorem lineT_app (s : ByteArray) (r : List UInt8) : lineT s ++ r = mLineHead.data.toList ++ (Pg.esc s.data.toList ++ (mLineEnd.data.toList ++ r)) := by
  show partsA true [mLineHead, s, mLineEnd] ++ r = _
  rw [parts_cons, parts_one]
theorem linesR_app (r : List UInt8) (hr : skp mLineHead.data.toList r = none) : ∀ (ls : List ByteArray) (f : Nat), ls.length < f → linesR f (ls.flatMap lineT ++ r) = some (ls, r)
  | _, 0, h => absurd h (Nat.not_lt_zero _)
  | [], f + 1, _ => by
    show linesR (f + 1) r = _
    unfold linesR
    rw [hr]
  | x :: ls, f + 1, hf => by
    have ih := linesR_app r hr ls f (by simpa using hf)
    have e : mLineEnd.data.toList ++ (ls.flatMap lineT ++ r) = 60 :: (mLineEnd.data.toList.drop 1 ++ (ls.flatMap lineT ++ r)) := rfl
    rw [List.flatMap_cons, List.append_assoc, lineT_app]
    unfold linesR
    rw [skp_app]
    show (txtL 60 (Pg.esc x.data.toList ++ (mLineEnd.data.toList ++ (ls.flatMap lineT ++ r)))).bind _ = _
    rw [e, txtL_app 60 (by decide), ← e, Option.bind_some, skp_app, Option.bind_some, ih, Option.bind_some]
theorem frmsR_app (r : List UInt8) (hr : skp mFormHead.data.toList r = none) : ∀ (fs : List Frm) (f : Nat), fs.all okF = true → fs.length < f → frmsR f (fs.flatMap frmL ++ r) = some (fs, r)
  | _, 0, _, h => absurd h (Nat.not_lt_zero _)
  | [], f + 1, _, _ => by
    show frmsR (f + 1) r = _
    unfold frmsR
    rw [hr]
  | x :: fs, f + 1, ha, hf => by
    rw [List.all_cons, Bool.and_eq_true] at ha
    have ih := frmsR_app r hr fs f ha.2 (by simpa using hf)
    rw [List.flatMap_cons, List.append_assoc, frmL_is]
    unfold frmsR
    rw [skp_app]
    show (frmR (frmT x (fs.flatMap frmL ++ r))).bind _ = _
    rw [frmR_app x ha.1, Option.bind_some, ih, Option.bind_some]
theorem lines_most : ∀ ls : List ByteArray, ls.length ≤ (ls.flatMap lineT).length
  | [] => Nat.le_refl _
  | x :: r => by
    have h2 := lines_most r
    have h1 : 1 ≤ (lineT x).length := by show 1 ≤ (mLineHead.data.toList ++ _).length; rw [List.length_append]; show 1 ≤ 3 + _; omega
    rw [List.flatMap_cons, List.length_append, List.length_cons]
    omega
theorem frms_most : ∀ fs : List Frm, fs.length ≤ (fs.flatMap frmL).length
  | [] => Nat.le_refl _
  | x :: r => by
    have h2 := frms_most r
    have h1 : 1 ≤ (frmL x).length := by
      have := frmL_is x []
      rw [List.append_nil] at this
      rw [this, List.length_append]
      show 1 ≤ 28 + _
      omega
    rw [List.flatMap_cons, List.length_append, List.length_cons]
    omega
theorem head_app (t : ByteArray) (r : List UInt8) : partsA true (headP t) ++ r = mPageHead.data.toList ++ (Pg.esc t.data.toList ++ (mPageTitle.data.toList ++ (Pg.esc t.data.toList ++ (mPageBody.data.toList ++ r)))) := by
  unfold headP
  rw [parts_cons, parts_cons, parts_one]
theorem pageL_is (t : ByteArray) (ls : List ByteArray) (fs : List Frm) : pageL t ls fs = mPageHead.data.toList ++ (Pg.esc t.data.toList ++ (mPageTitle.data.toList ++ (Pg.esc t.data.toList ++ (mPageBody.data.toList ++ (ls.flatMap lineT ++ (fs.flatMap frmL ++ mPageEnd.data.toList)))))) := by
  unfold pageL
  rw [List.append_assoc, List.append_assoc, head_app]
/-- a page is read back -/
theorem pageRd_app (t : ByteArray) (ls : List ByteArray) (fs : List Frm) (h : fs.all okF = true) : pageRd (pageL t ls fs) = some (t, ls, fs) := by
  have e1 : ∀ q, mPageTitle.data.toList ++ q = 60 :: (mPageTitle.data.toList.drop 1 ++ q) := fun q => rfl
  have e2 : ∀ q, mPageBody.data.toList ++ q = 60 :: (mPageBody.data.toList.drop 1 ++ q) := fun q => rfl
  have hend : skp mFormHead.data.toList mPageEnd.data.toList = none := skp_ne 1 (by decide) (by intro h; cases h)
  have hline : skp mLineHead.data.toList (fs.flatMap frmL ++ mPageEnd.data.toList) = none := by
    cases fs with
    | nil => exact skp_ne 1 (by decide) (by intro h; cases h)
    | cons f r => rw [List.flatMap_cons, List.append_assoc, frmL_is]; exact skp_ne 1 (by decide) (by intro h; cases h)
  have m1 := lines_most ls
  have m2 := frms_most fs
  rw [pageL_is]
  unfold pageRd
  rw [skp_app, Option.bind_some, e1, txtL_app 60 (by decide), ← e1, Option.bind_some, skp_app, Option.bind_some, e2, txtL_app 60 (by decide), ← e2, Option.bind_some, if_pos rfl, skp_app, Option.bind_some]
  rw [linesR_app _ hline ls _ (by rw [List.length_append]; omega), Option.bind_some]
  rw [frmsR_app _ hend fs _ h (by rw [List.length_append]; omega), Option.bind_some]
  rw [show skp mPageEnd.data.toList (fs, mPageEnd.data.toList).2 = some [] by have := skp_app mPageEnd.data.toList []; rwa [List.append_nil] at this, Option.bind_some, if_pos rfl]
end Go.Proofs.YtjalggkhpnfbiaaDoor.pg
