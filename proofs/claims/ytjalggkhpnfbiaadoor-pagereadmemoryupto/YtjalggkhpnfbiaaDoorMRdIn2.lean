import Derived.Test.YtjalggkhpnfbiaaDoorMRdIn
import Derived.Laws.Strings
namespace Go.Proofs.YtjalggkhpnfbiaaDoor.pg
open Go.Proofs.YtjalggkhpnfbiaaDoor.common

theorem emp_is {s : ByteArray} (h : emp s = true) : s = ⟨#[]⟩ := by
  unfold emp at h
  rw [ByteArray.toList_eq, List.isEmpty_iff] at h
  cases s with
  | mk d => rw [show d = #[] from Array.toList_inj.1 h]
theorem parts_cons (A s : ByteArray) (l : List ByteArray) (r : List UInt8) : partsA true (A :: s :: l) ++ r = A.data.toList ++ (Pg.esc s.data.toList ++ (partsA true l ++ r)) := by
  show (A.data.toList ++ (Pg.esc s.data.toList ++ partsA true l)) ++ r = _
  rw [List.append_assoc, List.append_assoc]
theorem parts_one (A : ByteArray) (r : List UInt8) : partsA true [A] ++ r = A.data.toList ++ r := by
  show (A.data.toList ++ []) ++ r = _
  rw [List.append_nil]
theorem box_head : mBoxHead.data.toList = mLabelHead.data.toList ++ mBoxName.data.toList := rfl
theorem rdl1 (n v l : ByteArray) (r : List UInt8) : lineL ⟨1, n, v, l⟩ ++ r = mHiddenName.data.toList ++ (Pg.esc n.data.toList ++ (mInputValue.data.toList ++ (Pg.esc v.data.toList ++ (mHiddenEnd.data.toList ++ r)))) := by
  show partsA true [mHiddenName, n, mInputValue, v, mHiddenEnd] ++ r = _
  rw [parts_cons, parts_cons, parts_one]
theorem rdl2 (n v l : ByteArray) (r : List UInt8) : lineL ⟨2, n, v, l⟩ ++ r = mLabelHead.data.toList ++ (Pg.esc l.data.toList ++ (mTextName.data.toList ++ (Pg.esc n.data.toList ++ (mInputValue.data.toList ++ (Pg.esc v.data.toList ++ (mTypedEnd.data.toList ++ r)))))) := by
  show partsA true [mLabelHead, l, mTextName, n, mInputValue, v, mTypedEnd] ++ r = _
  rw [parts_cons, parts_cons, parts_cons, parts_one]
theorem rdl3 (n v l : ByteArray) (r : List UInt8) : lineL ⟨3, n, v, l⟩ ++ r = mLabelHead.data.toList ++ (Pg.esc l.data.toList ++ (mSecretName.data.toList ++ (Pg.esc n.data.toList ++ (mTypedEnd.data.toList ++ r)))) := by
  show partsA true [mLabelHead, l, mSecretName, n, mTypedEnd] ++ r = _
  rw [parts_cons, parts_cons, parts_one]
theorem rdl4 (n v l : ByteArray) (r : List UInt8) : lineL ⟨4, n, v, l⟩ ++ r = mLabelHead.data.toList ++ (mBoxName.data.toList ++ (Pg.esc n.data.toList ++ (mInputValue.data.toList ++ (Pg.esc v.data.toList ++ (mBoxLabel.data.toList ++ (Pg.esc l.data.toList ++ (mLabelEnd.data.toList ++ r))))))) := by
  show partsA true [mBoxHead, n, mInputValue, v, mBoxLabel, l, mLabelEnd] ++ r = _
  rw [parts_cons, parts_cons, parts_cons, parts_one, box_head, List.append_assoc]
theorem may1 {n v : ByteArray} (hn : emp n = false) : mayB ⟨1, n, v, ⟨#[]⟩⟩ = true := by unfold mayB; simp [hn, emp0]
theorem may2 {n v l : ByteArray} (hn : emp n = false) : mayB ⟨2, n, v, l⟩ = true := by unfold mayB; simp [hn]
theorem may3 {n l : ByteArray} (hn : emp n = false) : mayB ⟨3, n, ⟨#[]⟩, l⟩ = true := by unfold mayB; simp [hn, emp0]
theorem may4 {n v l : ByteArray} (hn : emp n = false) : mayB ⟨4, n, v, l⟩ = true := by unfold mayB; simp [hn]

/-- what is read as an input is the line that it is written as -/
theorem inL_is {s r : List UInt8} {x : Inp} (h : inL s = some (x, r)) : s = lineL x ++ r ∧ mayB x = true := by
  unfold inL at h
  cases e1 : skp mHiddenName.data.toList s with
  | some r1 =>
    rw [e1] at h
    obtain ⟨p, h1, h⟩ := Option.bind_eq_some_iff.1 h
    obtain ⟨r2, h2, h⟩ := Option.bind_eq_some_iff.1 h
    injection h with h
    injection h with h3 h4
    subst h3; subst h4
    obtain ⟨⟨k, n, v, l⟩, pr⟩ := p
    obtain ⟨i1, i2, i3, i4⟩ := valL_is h1
    dsimp only at i1 i2 i3 i4 h2
    subst i2; subst i3
    refine ⟨?_, may1 i4⟩
    rw [rdl1, ← skp_is h2, ← i1]
    exact skp_is e1
  | none =>
    rw [e1] at h
    obtain ⟨r1, h0, h⟩ := Option.bind_eq_some_iff.1 h
    cases e2 : skp mBoxName.data.toList r1 with
    | some r2 =>
      rw [e2] at h
      obtain ⟨p, h1, h⟩ := Option.bind_eq_some_iff.1 h
      obtain ⟨r3, h2, h⟩ := Option.bind_eq_some_iff.1 h
      obtain ⟨q, h3, h⟩ := Option.bind_eq_some_iff.1 h
      obtain ⟨r4, h4, h⟩ := Option.bind_eq_some_iff.1 h
      injection h with h
      injection h with h5 h6
      subst h5; subst h6
      obtain ⟨⟨k, n, v, l⟩, pr⟩ := p
      obtain ⟨t, qr⟩ := q
      obtain ⟨i1, i2, i3, i4⟩ := valL_is h1
      have i5 := (txtL_is h3).1
      dsimp only at i1 i2 i3 i4 h2 h4
      subst i2
      refine ⟨?_, may4 i4⟩
      rw [rdl4, ← skp_is h4, ← i5, ← skp_is h2, ← i1, ← skp_is e2]
      exact skp_is h0
    | none =>
      rw [e2] at h
      change typL r1 = _ at h
      unfold typL at h
      obtain ⟨p, h1, h⟩ := Option.bind_eq_some_iff.1 h
      obtain ⟨lb, pr⟩ := p
      have i1 := labL_is h1
      dsimp only at h
      cases e3 : skp mTextName.data.toList pr with
      | some r2 =>
        rw [e3] at h
        obtain ⟨q, h2, h⟩ := Option.bind_eq_some_iff.1 h
        obtain ⟨r3, h3, h⟩ := Option.bind_eq_some_iff.1 h
        injection h with h
        injection h with h5 h6
        subst h5; subst h6
        obtain ⟨⟨k, n, v, l⟩, qr⟩ := q
        obtain ⟨j1, j2, j3, j4⟩ := valL_is h2
        dsimp only at j1 j2 j3 j4 h3
        subst j2
        refine ⟨?_, may2 j4⟩
        rw [rdl2, ← skp_is h3, ← j1, ← skp_is e3, ← i1]
        exact skp_is h0
      | none =>
        rw [e3] at h
        obtain ⟨r2, h2, h⟩ := Option.bind_eq_some_iff.1 h
        obtain ⟨q, h3, h⟩ := Option.bind_eq_some_iff.1 h
        obtain ⟨r3, h4, h⟩ := Option.bind_eq_some_iff.1 h
        injection h with h
        injection h with h5 h6
        subst h5; subst h6
        obtain ⟨n, qr⟩ := q
        obtain ⟨j1, j2⟩ := namL_is h3
        dsimp only at h4
        refine ⟨?_, may3 j2⟩
        rw [rdl3, ← skp_is h4, ← j1, ← skp_is h2, ← i1]
        exact skp_is h0
end Go.Proofs.YtjalggkhpnfbiaaDoor.pg
