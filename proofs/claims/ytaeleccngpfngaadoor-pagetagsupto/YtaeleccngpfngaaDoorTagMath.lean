import Derived.Test.YtaeleccngpfngaaDoorPageAll
namespace Go.Proofs.YtaeleccngpfngaaDoor.pg
open Go.ChangeShapes Go.WideShapes Go.ChangeAt Go.RowKit Go.Proofs.YtaeleccngpfngaaDoor.common Go.Maps

/-- one byte of the machine that keeps the tags: (within, quoted), and what it puts out -/
def tstep (s : Bool × Bool) (c : UInt8) : (Bool × Bool) × List UInt8 :=
  if s.1 then
    let q := if c == 34 then !s.2 else s.2
    ((!(c == 62 && !q), q), if c == 34 || !q then [c] else [])
  else ((c == 60, s.2), if c == 60 then [c] else [])
def tgS (s : Bool × Bool) : List UInt8 → Bool × Bool
  | [] => s
  | c :: r => tgS (tstep s c).1 r
def tgO (s : Bool × Bool) : List UInt8 → List UInt8
  | [] => []
  | c :: r => (tstep s c).2 ++ tgO (tstep s c).1 r
theorem tgS_nil (s : Bool × Bool) : tgS s [] = s := rfl
theorem tgO_nil (s : Bool × Bool) : tgO s [] = [] := rfl
theorem tgS_app : ∀ (l m : List UInt8) (s : Bool × Bool), tgS s (l ++ m) = tgS (tgS s l) m
  | [], _, _ => rfl
  | _ :: r, m, _ => tgS_app r m _
theorem tgO_app : ∀ (l m : List UInt8) (s : Bool × Bool), tgO s (l ++ m) = tgO s l ++ tgO (tgS s l) m
  | [], _, _ => rfl
  | c :: r, m, s => by
    show (tstep s c).2 ++ tgO _ (r ++ m) = ((tstep s c).2 ++ tgO _ r) ++ _
    rw [tgO_app r m, List.append_assoc]
    rfl
theorem tgO_len : ∀ (l : List UInt8) (s : Bool × Bool), (tgO s l).length ≤ l.length
  | [], _ => Nat.le_refl _
  | c :: r, s => by
    have h := tgO_len r (tstep s c).1
    have h1 : (tstep s c).2.length ≤ 1 := by
      unfold tstep
      have key : ∀ b : Bool, (if b = true then [c] else ([] : List UInt8)).length ≤ 1 := by intro b; cases b <;> simp
      split
      · exact key _
      · exact key _
    show ((tstep s c).2 ++ tgO _ r).length ≤ r.length + 1
    rw [List.length_append]
    omega
theorem out_any : ∀ l : List UInt8, l.any Pg.quotable = false → tgS (false, false) l = (false, false) ∧ tgO (false, false) l = [] ∧ tgS (true, true) l = (true, true) ∧ tgO (true, true) l = []
  | [], _ => ⟨rfl, rfl, rfl, rfl⟩
  | c :: r, h => by
    rw [List.any_cons, Bool.or_eq_false_iff] at h
    obtain ⟨h1, h2, h3, h4⟩ := out_any r h.2
    have hq := h.1
    have e60 : (c == 60) = false := by cases e : c == 60 with | false => rfl | true => rw [beq_iff_eq] at e; subst e; exact absurd hq (by decide)
    have e34 : (c == 34) = false := by cases e : c == 34 with | false => rfl | true => rw [beq_iff_eq] at e; subst e; exact absurd hq (by decide)
    have t1 : tstep (false, false) c = ((false, false), []) := by unfold tstep; simp [e60]
    have t2 : tstep (true, true) c = ((true, true), []) := by unfold tstep; simp [e34]
    refine ⟨?_, ?_, ?_, ?_⟩
    · show tgS (tstep (false, false) c).1 r = _; rw [t1]; exact h1
    · show (tstep (false, false) c).2 ++ tgO (tstep (false, false) c).1 r = _; rw [t1]; exact h2
    · show tgS (tstep (true, true) c).1 r = _; rw [t2]; exact h3
    · show (tstep (true, true) c).2 ++ tgO (tstep (true, true) c).1 r = _; rw [t2]; exact h4
theorem escN (l : List UInt8) : tgS (false, false) (Pg.esc l) = (false, false) := (out_any _ (Pg.esc_any l)).1
theorem escNo (l : List UInt8) : tgO (false, false) (Pg.esc l) = [] := (out_any _ (Pg.esc_any l)).2.1
theorem escQ (l : List UInt8) : tgS (true, true) (Pg.esc l) = (true, true) := (out_any _ (Pg.esc_any l)).2.2.1
theorem escQo (l : List UInt8) : tgO (true, true) (Pg.esc l) = [] := (out_any _ (Pg.esc_any l)).2.2.2

/-- the shape's pieces -/
abbrev sHead : ByteArray := ⟨#[60, 33, 68, 79, 67, 84, 89, 80, 69, 32, 104, 116, 109, 108, 62, 60, 104, 116, 109, 108, 32, 108, 97, 110, 103, 61, 34, 34, 62, 60, 104, 101, 97, 100, 62, 60, 109, 101, 116, 97, 32, 99, 104, 97, 114, 115, 101, 116, 61, 34, 34, 62, 60, 116, 105, 116, 108, 101, 62, 60, 47, 116, 105, 116, 108, 101, 62, 60, 47, 104, 101, 97, 100, 62, 60, 98, 111, 100, 121, 62, 60, 104, 49, 62, 60, 47, 104, 49, 62]⟩
abbrev sLine : ByteArray := ⟨#[60, 112, 62, 60, 47, 112, 62]⟩
abbrev sForm : ByteArray := ⟨#[60, 102, 111, 114, 109, 32, 109, 101, 116, 104, 111, 100, 61, 34, 34, 32, 97, 99, 116, 105, 111, 110, 61, 34, 34, 62]⟩
abbrev sHidden : ByteArray := ⟨#[60, 105, 110, 112, 117, 116, 32, 116, 121, 112, 101, 61, 34, 34, 32, 110, 97, 109, 101, 61, 34, 34, 32, 118, 97, 108, 117, 101, 61, 34, 34, 62]⟩
abbrev sText : ByteArray := ⟨#[60, 112, 62, 60, 108, 97, 98, 101, 108, 62, 60, 105, 110, 112, 117, 116, 32, 116, 121, 112, 101, 61, 34, 34, 32, 110, 97, 109, 101, 61, 34, 34, 32, 118, 97, 108, 117, 101, 61, 34, 34, 62, 60, 47, 108, 97, 98, 101, 108, 62, 60, 47, 112, 62]⟩
abbrev sSecret : ByteArray := ⟨#[60, 112, 62, 60, 108, 97, 98, 101, 108, 62, 60, 105, 110, 112, 117, 116, 32, 116, 121, 112, 101, 61, 34, 34, 32, 110, 97, 109, 101, 61, 34, 34, 62, 60, 47, 108, 97, 98, 101, 108, 62, 60, 47, 112, 62]⟩
abbrev sBox : ByteArray := ⟨#[60, 112, 62, 60, 108, 97, 98, 101, 108, 62, 60, 105, 110, 112, 117, 116, 32, 116, 121, 112, 101, 61, 34, 34, 32, 110, 97, 109, 101, 61, 34, 34, 32, 118, 97, 108, 117, 101, 61, 34, 34, 32, 99, 104, 101, 99, 107, 101, 100, 62, 60, 47, 108, 97, 98, 101, 108, 62, 60, 47, 112, 62]⟩
abbrev sFormEnd : ByteArray := ⟨#[60, 112, 62, 60, 98, 117, 116, 116, 111, 110, 32, 116, 121, 112, 101, 61, 34, 34, 62, 60, 47, 98, 117, 116, 116, 111, 110, 62, 60, 47, 112, 62, 60, 47, 102, 111, 114, 109, 62]⟩
abbrev sEnd : ByteArray := ⟨#[60, 47, 98, 111, 100, 121, 62, 60, 47, 104, 116, 109, 108, 62]⟩
def shIn (x : Inp) : List UInt8 := if x.kind = 1 then sHidden.data.toList else if x.kind = 2 then sText.data.toList else if x.kind = 3 then sSecret.data.toList else sBox.data.toList
def shFrm (f : Frm) : List UInt8 := (sForm.data.toList ++ f.ins.flatMap shIn) ++ sFormEnd.data.toList
def shPage (ls : List ByteArray) (fs : List Frm) : List UInt8 := ((sHead.data.toList ++ ls.flatMap (fun _ => sLine.data.toList)) ++ fs.flatMap shFrm) ++ sEnd.data.toList

theorem cHiddenName : tgS (false, false) mHiddenName.data.toList = (true, true) := by kernel_rfl
theorem cInputValue : tgS (true, true) mInputValue.data.toList = (true, true) := by kernel_rfl
theorem cHiddenEnd : tgS (true, true) mHiddenEnd.data.toList = (false, false) := by kernel_rfl
theorem cLabelHead : tgS (false, false) mLabelHead.data.toList = (false, false) := by kernel_rfl
theorem cTextName : tgS (false, false) mTextName.data.toList = (true, true) := by kernel_rfl
theorem cSecretName : tgS (false, false) mSecretName.data.toList = (true, true) := by kernel_rfl
theorem cTypedEnd : tgS (true, true) mTypedEnd.data.toList = (false, false) := by kernel_rfl
theorem cBoxHead : tgS (false, false) mBoxHead.data.toList = (true, true) := by kernel_rfl
theorem cBoxLabel : tgS (true, true) mBoxLabel.data.toList = (false, false) := by kernel_rfl
theorem cLabelEnd : tgS (false, false) mLabelEnd.data.toList = (false, false) := by kernel_rfl
theorem cPageHead : tgS (false, false) mPageHead.data.toList = (false, false) := by kernel_rfl
theorem cPageTitle : tgS (false, false) mPageTitle.data.toList = (false, false) := by kernel_rfl
theorem cPageBody : tgS (false, false) mPageBody.data.toList = (false, false) := by kernel_rfl
theorem cPageEnd : tgS (false, false) mPageEnd.data.toList = (false, false) := by kernel_rfl
theorem cLineHead : tgS (false, false) mLineHead.data.toList = (false, false) := by kernel_rfl
theorem cLineEnd : tgS (false, false) mLineEnd.data.toList = (false, false) := by kernel_rfl
theorem cFormHead : tgS (false, false) mFormHead.data.toList = (true, true) := by kernel_rfl
theorem cFormInputs : tgS (true, true) mFormInputs.data.toList = (false, false) := by kernel_rfl
theorem cFormButton : tgS (false, false) mFormButton.data.toList = (false, false) := by kernel_rfl
theorem cFormEnd : tgS (false, false) mFormEnd.data.toList = (false, false) := by kernel_rfl

theorem parts_step (A s : ByteArray) (r : List ByteArray) (s0 a : Bool × Bool) (hA : tgS s0 A.data.toList = a) (ha : a = (false, false) ∨ a = (true, true)) : tgS s0 (partsA true (A :: s :: r)) = tgS a (partsA true r) ∧ tgO s0 (partsA true (A :: s :: r)) = tgO s0 A.data.toList ++ tgO a (partsA true r) := by
  have e : partsA true (A :: s :: r) = A.data.toList ++ (Pg.esc s.data.toList ++ partsA true r) := rfl
  rw [e, tgS_app, tgO_app, tgS_app, tgO_app, hA]
  rcases ha with rfl | rfl
  · rw [escN, escNo]; exact ⟨rfl, rfl⟩
  · rw [escQ, escQo]; exact ⟨rfl, rfl⟩
theorem parts_last (A : ByteArray) (s0 a : Bool × Bool) (hA : tgS s0 A.data.toList = a) : tgS s0 (partsA true [A]) = a ∧ tgO s0 (partsA true [A]) = tgO s0 A.data.toList := by
  have e : partsA true [A] = A.data.toList ++ [] := rfl
  rw [e, List.append_nil]
  exact ⟨hA, rfl⟩
theorem in_tags (x : Inp) : tgS (false, false) (lineL x) = (false, false) ∧ tgO (false, false) (lineL x) = shIn x := by
  unfold lineL kindP shIn
  by_cases h1 : x.kind = 1
  · rw [if_pos h1, if_pos h1]
    unfold hiddenP
    have h0 := parts_step mHiddenName x.name [mInputValue, x.value, mHiddenEnd] _ _ cHiddenName (by first | exact Or.inl rfl | exact Or.inr rfl)
    have h1 := parts_step mInputValue x.value [mHiddenEnd] _ _ cInputValue (by first | exact Or.inl rfl | exact Or.inr rfl)
    have h2 := parts_last mHiddenEnd _ _ cHiddenEnd
    exact ⟨h0.1.trans (h1.1.trans (h2.1)), by rw [h0.2, h1.2, h2.2]; kernel_rfl⟩
  rw [if_neg h1, if_neg h1]
  by_cases h2 : x.kind = 2
  · rw [if_pos h2, if_pos h2]
    unfold textP
    have h0 := parts_step mLabelHead x.label [mTextName, x.name, mInputValue, x.value, mTypedEnd] _ _ cLabelHead (by first | exact Or.inl rfl | exact Or.inr rfl)
    have h1 := parts_step mTextName x.name [mInputValue, x.value, mTypedEnd] _ _ cTextName (by first | exact Or.inl rfl | exact Or.inr rfl)
    have h2 := parts_step mInputValue x.value [mTypedEnd] _ _ cInputValue (by first | exact Or.inl rfl | exact Or.inr rfl)
    have h3 := parts_last mTypedEnd _ _ cTypedEnd
    exact ⟨h0.1.trans (h1.1.trans (h2.1.trans (h3.1))), by rw [h0.2, h1.2, h2.2, h3.2]; kernel_rfl⟩
  rw [if_neg h2, if_neg h2]
  by_cases h3 : x.kind = 3
  · rw [if_pos h3, if_pos h3]
    unfold secretP
    have h0 := parts_step mLabelHead x.label [mSecretName, x.name, mTypedEnd] _ _ cLabelHead (by first | exact Or.inl rfl | exact Or.inr rfl)
    have h1 := parts_step mSecretName x.name [mTypedEnd] _ _ cSecretName (by first | exact Or.inl rfl | exact Or.inr rfl)
    have h2 := parts_last mTypedEnd _ _ cTypedEnd
    exact ⟨h0.1.trans (h1.1.trans (h2.1)), by rw [h0.2, h1.2, h2.2]; kernel_rfl⟩
  rw [if_neg h3, if_neg h3]
  unfold boxP
  have h0 := parts_step mBoxHead x.name [mInputValue, x.value, mBoxLabel, x.label, mLabelEnd] _ _ cBoxHead (by first | exact Or.inl rfl | exact Or.inr rfl)
  have h1 := parts_step mInputValue x.value [mBoxLabel, x.label, mLabelEnd] _ _ cInputValue (by first | exact Or.inl rfl | exact Or.inr rfl)
  have h2 := parts_step mBoxLabel x.label [mLabelEnd] _ _ cBoxLabel (by first | exact Or.inl rfl | exact Or.inr rfl)
  have h3 := parts_last mLabelEnd _ _ cLabelEnd
  exact ⟨h0.1.trans (h1.1.trans (h2.1.trans (h3.1))), by rw [h0.2, h1.2, h2.2, h3.2]; kernel_rfl⟩
theorem flat_tags {α : Type} (f g : α → List UInt8) : ∀ l : List α, (∀ x ∈ l, tgS (false, false) (f x) = (false, false) ∧ tgO (false, false) (f x) = g x) → tgS (false, false) (l.flatMap f) = (false, false) ∧ tgO (false, false) (l.flatMap f) = l.flatMap g
  | [], _ => ⟨rfl, rfl⟩
  | x :: r, h => by
    obtain ⟨h1, h2⟩ := h x (List.mem_cons_self ..)
    obtain ⟨h3, h4⟩ := flat_tags f g r (fun y hy => h y (List.mem_cons_of_mem _ hy))
    rw [List.flatMap_cons, List.flatMap_cons, tgS_app, tgO_app, h1, h2, h3, h4]
    exact ⟨rfl, rfl⟩
theorem line_tags (s : ByteArray) : tgS (false, false) (lineT s) = (false, false) ∧ tgO (false, false) (lineT s) = sLine.data.toList := by
  unfold lineT
  have h0 := parts_step mLineHead s [mLineEnd] _ _ cLineHead (by first | exact Or.inl rfl | exact Or.inr rfl)
  have h1 := parts_last mLineEnd _ _ cLineEnd
  exact ⟨h0.1.trans (h1.1), by rw [h0.2, h1.2]; kernel_rfl⟩
theorem frm_tags (f : Frm) : tgS (false, false) (frmL f) = (false, false) ∧ tgO (false, false) (frmL f) = shFrm f := by
  have hi : ∀ x ∈ f.ins, tgS (false, false) (lineL x) = (false, false) ∧ tgO (false, false) (lineL x) = shIn x := fun x _ => in_tags x
  obtain ⟨h1, h2⟩ := flat_tags lineL shIn f.ins hi
  unfold frmL formL insL shFrm
  have e1 : tgO (false, false) mFormHead.data.toList ++ tgO (true, true) mFormInputs.data.toList = sForm.data.toList := by kernel_rfl
  have e2 : tgO (false, false) mFormButton.data.toList ++ tgO (false, false) mFormEnd.data.toList = sFormEnd.data.toList := by kernel_rfl
  have p1 : tgO (false, false) (partsA true [mFormHead, f.act, mFormInputs]) = sForm.data.toList ∧ tgS (false, false) (partsA true [mFormHead, f.act, mFormInputs]) = (false, false) := by
    have h0 := parts_step mFormHead f.act [mFormInputs] _ _ cFormHead (by first | exact Or.inl rfl | exact Or.inr rfl)
    have h1 := parts_last mFormInputs _ _ cFormInputs
    exact ⟨by rw [h0.2, h1.2]; exact e1, h0.1.trans (h1.1)⟩
  have p2 : tgO (false, false) (partsA true [mFormButton, f.but, mFormEnd]) = sFormEnd.data.toList ∧ tgS (false, false) (partsA true [mFormButton, f.but, mFormEnd]) = (false, false) := by
    have h0 := parts_step mFormButton f.but [mFormEnd] _ _ cFormButton (by first | exact Or.inl rfl | exact Or.inr rfl)
    have h1 := parts_last mFormEnd _ _ cFormEnd
    exact ⟨by rw [h0.2, h1.2]; exact e2, h0.1.trans (h1.1)⟩
  rw [tgS_app, tgO_app, tgS_app, tgO_app, p1.1, p1.2, h1, h2, p2.1, p2.2]
  exact ⟨rfl, rfl⟩
theorem page_tags (t : ByteArray) (ls : List ByteArray) (fs : List Frm) : tgO (false, false) (pageL t ls fs) = shPage ls fs := by
  obtain ⟨h1, h2⟩ := flat_tags lineT (fun _ => sLine.data.toList) ls (fun s _ => line_tags s)
  obtain ⟨h3, h4⟩ := flat_tags frmL shFrm fs (fun f _ => frm_tags f)
  have e1 : tgO (false, false) mPageHead.data.toList ++ (tgO (false, false) mPageTitle.data.toList ++ tgO (false, false) mPageBody.data.toList) = sHead.data.toList := by kernel_rfl
  have e2 : tgO (false, false) mPageEnd.data.toList = sEnd.data.toList := by kernel_rfl
  have p1 : tgO (false, false) (partsA true (headP t)) = sHead.data.toList ∧ tgS (false, false) (partsA true (headP t)) = (false, false) := by
    unfold headP
    have h0 := parts_step mPageHead t [mPageTitle, t, mPageBody] _ _ cPageHead (by first | exact Or.inl rfl | exact Or.inr rfl)
    have h1 := parts_step mPageTitle t [mPageBody] _ _ cPageTitle (by first | exact Or.inl rfl | exact Or.inr rfl)
    have h2 := parts_last mPageBody _ _ cPageBody
    exact ⟨by rw [h0.2, h1.2, h2.2]; exact e1, h0.1.trans (h1.1.trans (h2.1))⟩
  unfold pageL shPage
  rw [tgO_app, tgO_app, tgO_app, p1.1, p1.2, h2]
  rw [tgS_app, p1.2, h1, h4, tgS_app, tgS_app, p1.2, h1, h3, e2]
end Go.Proofs.YtaeleccngpfngaaDoor.pg
