import Derived.Test.YtaejlcffimkopaaDoorRdMath
import Derived.Laws.Strings
namespace Go.Proofs.YtaejlcffimkopaaDoor.pg
open Go.Proofs.YtaejlcffimkopaaDoor.common

theorem emp0 : emp ⟨#[]⟩ = true := by unfold emp; simp
/-- a name, which is never empty -/
def namL (s : List UInt8) : Option (ByteArray × List UInt8) := (txtL 34 s).bind fun p => if emp p.1 then none else some p
theorem namL_is {s r : List UInt8} {n : ByteArray} (h : namL s = some (n, r)) : s = Pg.esc n.data.toList ++ r ∧ emp n = false := by
  unfold namL at h
  obtain ⟨p, h1, h2⟩ := Option.bind_eq_some_iff.1 h
  split at h2
  · cases h2
  · rename_i e
    injection h2 with h2
    subst h2
    exact ⟨(txtL_is h1).1, by simpa using e⟩
theorem namL_app (n : ByteArray) (hn : emp n = false) (q : List UInt8) : namL (Pg.esc n.data.toList ++ 34 :: q) = some (n, 34 :: q) := by
  unfold namL
  rw [txtL_app 34 (by decide)]
  show (if emp n = true then none else some (n, 34 :: q)) = _
  rw [hn]
  rfl
/-- a name and a value -/
def valL (k : Int) (s : List UInt8) : Option (Inp × List UInt8) := (namL s).bind fun p => (skp mInputValue.data.toList p.2).bind fun r => (txtL 34 r).bind fun q => some (⟨k, p.1, q.1, ⟨#[]⟩⟩, q.2)
theorem valL_is {k : Int} {s r : List UInt8} {x : Inp} (h : valL k s = some (x, r)) : s = Pg.esc x.name.data.toList ++ (mInputValue.data.toList ++ (Pg.esc x.value.data.toList ++ r)) ∧ x.kind = k ∧ x.label = ⟨#[]⟩ ∧ emp x.name = false := by
  unfold valL at h
  obtain ⟨p, h1, h⟩ := Option.bind_eq_some_iff.1 h
  obtain ⟨r1, h2, h⟩ := Option.bind_eq_some_iff.1 h
  obtain ⟨q, h3, h⟩ := Option.bind_eq_some_iff.1 h
  injection h with h
  injection h with h4 h5
  subst h4; subst h5
  obtain ⟨i1, i2⟩ := namL_is (n := p.1) (r := p.2) h1
  have i3 := skp_is h2
  have i4 := (txtL_is (t := q.1) (r := q.2) h3).1
  refine ⟨?_, rfl, rfl, i2⟩
  show s = Pg.esc p.1.data.toList ++ (mInputValue.data.toList ++ (Pg.esc q.1.data.toList ++ q.2))
  rw [← i4, ← i3]
  exact i1
theorem valL_app (k : Int) (n v : ByteArray) (hn : emp n = false) (q : List UInt8) : valL k (Pg.esc n.data.toList ++ (mInputValue.data.toList ++ (Pg.esc v.data.toList ++ 34 :: q))) = some (⟨k, n, v, ⟨#[]⟩⟩, 34 :: q) := by
  have e : mInputValue.data.toList ++ (Pg.esc v.data.toList ++ 34 :: q) = 34 :: (mInputValue.data.toList.drop 1 ++ (Pg.esc v.data.toList ++ 34 :: q)) := rfl
  unfold valL
  rw [e, namL_app n hn, ← e, Option.bind_some, skp_app, Option.bind_some, txtL_app 34 (by decide), Option.bind_some]
/-- a label ahead of its input -/
def labL (s : List UInt8) : Option (ByteArray × List UInt8) := (ahead 60 s).bind fun p => if p.1 = [] then none else (Pg.unesc p.1.dropLast).bind fun t => some (⟨t.toArray⟩, p.1.getLast?.toList ++ p.2)
theorem labL_is {s r : List UInt8} {t : ByteArray} (h : labL s = some (t, r)) : s = Pg.esc t.data.toList ++ r := by
  unfold labL at h
  obtain ⟨p, h1, h⟩ := Option.bind_eq_some_iff.1 h
  split at h
  · cases h
  · rename_i e
    obtain ⟨u, h2, h⟩ := Option.bind_eq_some_iff.1 h
    injection h with h
    injection h with h3 h4
    subst h3; subst h4
    have i1 := (ahead_is (a := p.1) (r := p.2) h1).1
    show s = Pg.esc u ++ _
    rw [← unesc_is h2, ← List.append_assoc]
    have i2 : p.1.dropLast ++ p.1.getLast?.toList = p.1 := by
      rw [List.getLast?_eq_some_getLast e]
      exact List.dropLast_concat_getLast e
    rw [i2]
    exact i1
theorem labL_app (l : ByteArray) (b : UInt8) (hb : b ≠ 60) (q : List UInt8) : labL (Pg.esc l.data.toList ++ b :: 60 :: q) = some (l, b :: 60 :: q) := by
  have hn : (60 : UInt8) ∉ Pg.esc l.data.toList ++ [b] := by
    intro hm
    rcases List.mem_append.1 hm with hm | hm
    · exact not_esc 60 (by decide) _ hm
    · simp at hm; exact hb hm.symm
  have e : Pg.esc l.data.toList ++ b :: 60 :: q = (Pg.esc l.data.toList ++ [b]) ++ 60 :: q := by simp
  unfold labL
  rw [e, ahead_app q _ hn]
  show (if Pg.esc l.data.toList ++ [b] = [] then none else (Pg.unesc (Pg.esc l.data.toList ++ [b]).dropLast).bind _) = _
  rw [if_neg (by simp), List.dropLast_concat, Pg.unesc_esc]
  show some (_, (Pg.esc l.data.toList ++ [b]).getLast?.toList ++ 60 :: q) = _
  rw [List.getLast?_concat]
  rfl
/-- an input that is typed -/
def typL (s : List UInt8) : Option (Inp × List UInt8) := (labL s).bind fun p =>
  match skp mTextName.data.toList p.2 with
  | some r => (valL 2 r).bind fun x => (skp mTypedEnd.data.toList x.2).bind fun r => some (⟨x.1.kind, x.1.name, x.1.value, p.1⟩, r)
  | none => (skp mSecretName.data.toList p.2).bind fun r => (namL r).bind fun n => (skp mTypedEnd.data.toList n.2).bind fun r => some (⟨3, n.1, ⟨#[]⟩, p.1⟩, r)
/-- an input -/
def inL (s : List UInt8) : Option (Inp × List UInt8) :=
  match skp mHiddenName.data.toList s with
  | some r => (valL 1 r).bind fun x => (skp mHiddenEnd.data.toList x.2).bind fun r => some (x.1, r)
  | none => (skp mLabelHead.data.toList s).bind fun r =>
    match skp mBoxName.data.toList r with
    | some r => (valL 4 r).bind fun x => (skp mBoxLabel.data.toList x.2).bind fun r => (txtL 60 r).bind fun l => (skp mLabelEnd.data.toList l.2).bind fun r => some (⟨x.1.kind, x.1.name, x.1.value, l.1⟩, r)
    | none => typL r
end Go.Proofs.YtaejlcffimkopaaDoor.pg

namespace Go.Proofs.YtaejlcffimkopaaDoor.pg
open Go.Proofs.YtaejlcffimkopaaDoor.common

theorem emp_is {s : ByteArray} (h : emp s = true) : s = ⟨#[]⟩ := by
  unfold emp at h
  rw [ByteArray.toList_eq, List.isEmpty_iff] at h
  cases s with
  | mk d => rw [show d = #[] from Array.toList_inj.1 h]
theorem parts_cons (A s : ByteArray) (l : List ByteArray) (r : List UInt8) : partsA true (A :: s :: l) ++ r = A.data.toList ++ (Pg.esc s.data.toList ++ (partsA true l ++ r)) := by
  show (A.data.toList ++ (Pg.esc s.data.toList ++ partsA true l)) ++ r = _
  rw [List.append_assoc, List.append_assoc]
theorem parts_one (A : ByteArray) (r : List UInt8) : partsA true [A] ++ r = A.data.toList ++ r := by
  show (A.data.toList ++ []) ++ r = _
  rw [List.append_nil]
theorem box_head : mBoxHead.data.toList = mLabelHead.data.toList ++ mBoxName.data.toList := rfl
theorem rdl1 (n v l : ByteArray) (r : List UInt8) : lineL ⟨1, n, v, l⟩ ++ r = mHiddenName.data.toList ++ (Pg.esc n.data.toList ++ (mInputValue.data.toList ++ (Pg.esc v.data.toList ++ (mHiddenEnd.data.toList ++ r)))) := by
  show partsA true [mHiddenName, n, mInputValue, v, mHiddenEnd] ++ r = _
  rw [parts_cons, parts_cons, parts_one]
theorem rdl2 (n v l : ByteArray) (r : List UInt8) : lineL ⟨2, n, v, l⟩ ++ r = mLabelHead.data.toList ++ (Pg.esc l.data.toList ++ (mTextName.data.toList ++ (Pg.esc n.data.toList ++ (mInputValue.data.toList ++ (Pg.esc v.data.toList ++ (mTypedEnd.data.toList ++ r)))))) := by
  show partsA true [mLabelHead, l, mTextName, n, mInputValue, v, mTypedEnd] ++ r = _
  rw [parts_cons, parts_cons, parts_cons, parts_one]
theorem rdl3 (n v l : ByteArray) (r : List UInt8) : lineL ⟨3, n, v, l⟩ ++ r = mLabelHead.data.toList ++ (Pg.esc l.data.toList ++ (mSecretName.data.toList ++ (Pg.esc n.data.toList ++ (mTypedEnd.data.toList ++ r)))) := by
  show partsA true [mLabelHead, l, mSecretName, n, mTypedEnd] ++ r = _
  rw [parts_cons, parts_cons, parts_one]
theorem rdl4 (n v l : ByteArray) (r : List UInt8) : lineL ⟨4, n, v, l⟩ ++ r = mLabelHead.data.toList ++ (mBoxName.data.toList ++ (Pg.esc n.data.toList ++ (mInputValue.data.toList ++ (Pg.esc v.data.toList ++ (mBoxLabel.data.toList ++ (Pg.esc l.data.toList ++ (mLabelEnd.data.toList ++ r))))))) := by
  show partsA true [mBoxHead, n, mInputValue, v, mBoxLabel, l, mLabelEnd] ++ r = _
  rw [parts_cons, parts_cons, parts_cons, parts_one, box_head, List.append_assoc]
theorem may1 {n v : ByteArray} (hn : emp n = false) : mayB ⟨1, n, v, ⟨#[]⟩⟩ = true := by unfold mayB; simp [hn, emp0]
theorem may2 {n v l : ByteArray} (hn : emp n = false) : mayB ⟨2, n, v, l⟩ = true := by unfold mayB; simp [hn]
theorem may3 {n l : ByteArray} (hn : emp n = false) : mayB ⟨3, n, ⟨#[]⟩, l⟩ = true := by unfold mayB; simp [hn, emp0]
theorem may4 {n v l : ByteArray} (hn : emp n = false) : mayB ⟨4, n, v, l⟩ = true := by unfold mayB; simp [hn]

/-- what is read as an input is the line that it is written as -/
theorem inL_is {s r : List UInt8} {x : Inp} (h : inL s = some (x, r)) : s = lineL x ++ r ∧ mayB x = true := by
  unfold inL at h
  cases e1 : skp mHiddenName.data.toList s with
  | some r1 =>
    rw [e1] at h
    obtain ⟨p, h1, h⟩ := Option.bind_eq_some_iff.1 h
    obtain ⟨r2, h2, h⟩ := Option.bind_eq_some_iff.1 h
    injection h with h
    injection h with h3 h4
    subst h3; subst h4
    obtain ⟨⟨k, n, v, l⟩, pr⟩ := p
    obtain ⟨i1, i2, i3, i4⟩ := valL_is h1
    dsimp only at i1 i2 i3 i4 h2
    subst i2; subst i3
    refine ⟨?_, may1 i4⟩
    rw [rdl1, ← skp_is h2, ← i1]
    exact skp_is e1
  | none =>
    rw [e1] at h
    obtain ⟨r1, h0, h⟩ := Option.bind_eq_some_iff.1 h
    cases e2 : skp mBoxName.data.toList r1 with
    | some r2 =>
      rw [e2] at h
      obtain ⟨p, h1, h⟩ := Option.bind_eq_some_iff.1 h
      obtain ⟨r3, h2, h⟩ := Option.bind_eq_some_iff.1 h
      obtain ⟨q, h3, h⟩ := Option.bind_eq_some_iff.1 h
      obtain ⟨r4, h4, h⟩ := Option.bind_eq_some_iff.1 h
      injection h with h
      injection h with h5 h6
      subst h5; subst h6
      obtain ⟨⟨k, n, v, l⟩, pr⟩ := p
      obtain ⟨t, qr⟩ := q
      obtain ⟨i1, i2, i3, i4⟩ := valL_is h1
      have i5 := (txtL_is h3).1
      dsimp only at i1 i2 i3 i4 h2 h4
      subst i2
      refine ⟨?_, may4 i4⟩
      rw [rdl4, ← skp_is h4, ← i5, ← skp_is h2, ← i1, ← skp_is e2]
      exact skp_is h0
    | none =>
      rw [e2] at h
      change typL r1 = _ at h
      unfold typL at h
      obtain ⟨p, h1, h⟩ := Option.bind_eq_some_iff.1 h
      obtain ⟨lb, pr⟩ := p
      have i1 := labL_is h1
      dsimp only at h
      cases e3 : skp mTextName.data.toList pr with
      | some r2 =>
        rw [e3] at h
        obtain ⟨q, h2, h⟩ := Option.bind_eq_some_iff.1 h
        obtain ⟨r3, h3, h⟩ := Option.bind_eq_some_iff.1 h
        injection h with h
        injection h with h5 h6
        subst h5; subst h6
        obtain ⟨⟨k, n, v, l⟩, qr⟩ := q
        obtain ⟨j1, j2, j3, j4⟩ := valL_is h2
        dsimp only at j1 j2 j3 j4 h3
        subst j2
        refine ⟨?_, may2 j4⟩
        rw [rdl2, ← skp_is h3, ← j1, ← skp_is e3, ← i1]
        exact skp_is h0
      | none =>
        rw [e3] at h
        obtain ⟨r2, h2, h⟩ := Option.bind_eq_some_iff.1 h
        obtain ⟨q, h3, h⟩ := Option.bind_eq_some_iff.1 h
        obtain ⟨r3, h4, h⟩ := Option.bind_eq_some_iff.1 h
        injection h with h
        injection h with h5 h6
        subst h5; subst h6
        obtain ⟨n, qr⟩ := q
        obtain ⟨j1, j2⟩ := namL_is h3
        dsimp only at h4
        refine ⟨?_, may3 j2⟩
        rw [rdl3, ← skp_is h4, ← j1, ← skp_is h2, ← i1]
        exact skp_is h0
end Go.Proofs.YtaejlcffimkopaaDoor.pg
