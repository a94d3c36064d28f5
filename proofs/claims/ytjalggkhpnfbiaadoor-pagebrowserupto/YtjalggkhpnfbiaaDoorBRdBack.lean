import Derived.Test.YtjalggkhpnfbiaaDoorBRdIn
import Derived.Laws.Strings
namespace Go.Proofs.YtjalggkhpnfbiaaDoor.pg
open Go.Proofs.YtjalggkhpnfbiaaDoor.common

theorem emp_is {s : ByteArray} (h : emp s = true) : s = ⟨#[]⟩ := by
  unfold emp at h
  rw [ByteArray.toList_eq, List.isEmpty_iff] at h
  cases s with
  | mk d => rw [show d = #[] from Array.toList_inj.1 h]
theorem parts_cons (A s : ByteArray) (l : List ByteArray) (r : List UInt8) : partsA true (A :: s :: l) ++ r = A.data.toList ++ (Pg.esc s.data.toList ++ (partsA true l ++ r)) := by
  show (A.data.toList ++ (Pg.esc s.data.toList ++ partsA true l)) ++ r = _
  rw [List.append_assoc, List.append_assoc]
theorem parts_one (A : ByteArray) (r : List UInt8) : partsA true [A] ++ r = A.data.toList ++ r := by
  show (A.data.toList ++ []) ++ r = _
  rw [List.append_nil]
theorem box_head : mBoxHead.data.toList = mLabelHead.data.toList ++ mBoxName.data.toList := rfl
theorem rdl1 (n v l : ByteArray) (r : List UInt8) : lineL ⟨1, n, v, l⟩ ++ r = mHiddenName.data.toList ++ (Pg.esc n.data.toList ++ (mInputValue.data.toList ++ (Pg.esc v.data.toList ++ (mHiddenEnd.data.toList ++ r)))) := by
  show partsA true [mHiddenName, n, mInputValue, v, mHiddenEnd] ++ r = _
  rw [parts_cons, parts_cons, parts_one]
theorem rdl2 (n v l : ByteArray) (r : List UInt8) : lineL ⟨2, n, v, l⟩ ++ r = mLabelHead.data.toList ++ (Pg.esc l.data.toList ++ (mTextName.data.toList ++ (Pg.esc n.data.toList ++ (mInputValue.data.toList ++ (Pg.esc v.data.toList ++ (mTypedEnd.data.toList ++ r)))))) := by
  show partsA true [mLabelHead, l, mTextName, n, mInputValue, v, mTypedEnd] ++ r = _
  rw [parts_cons, parts_cons, parts_cons, parts_one]
theorem rdl3 (n v l : ByteArray) (r : List UInt8) : lineL ⟨3, n, v, l⟩ ++ r = mLabelHead.data.toList ++ (Pg.esc l.data.toList ++ (mSecretName.data.toList ++ (Pg.esc n.data.toList ++ (mTypedEnd.data.toList ++ r)))) := by
  show partsA true [mLabelHead, l, mSecretName, n, mTypedEnd] ++ r = _
  rw [parts_cons, parts_cons, parts_one]
theorem rdl4 (n v l : ByteArray) (r : List UInt8) : lineL ⟨4, n, v, l⟩ ++ r = mLabelHead.data.toList ++ (mBoxName.data.toList ++ (Pg.esc n.data.toList ++ (mInputValue.data.toList ++ (Pg.esc v.data.toList ++ (mBoxLabel.data.toList ++ (Pg.esc l.data.toList ++ (mLabelEnd.data.toList ++ r))))))) := by
  show partsA true [mBoxHead, n, mInputValue, v, mBoxLabel, l, mLabelEnd] ++ r = _
  rw [parts_cons, parts_cons, parts_cons, parts_one, box_head, List.append_assoc]
theorem may1 {n v : ByteArray} (hn : emp n = false) : mayB ⟨1, n, v, ⟨#[]⟩⟩ = true := by unfold mayB; simp [hn, emp0]
theorem may2 {n v l : ByteArray} (hn : emp n = false) : mayB ⟨2, n, v, l⟩ = true := by unfold mayB; simp [hn]
theorem may3 {n l : ByteArray} (hn : emp n = false) : mayB ⟨3, n, ⟨#[]⟩, l⟩ = true := by unfold mayB; simp [hn, emp0]
theorem may4 {n v l : ByteArray} (hn : emp n = false) : mayB ⟨4, n, v, l⟩ = true := by unfold mayB; simp [hn]

/-- what is read as an input is the line that it is written as -/
theorem inL_is {s r : List UInt8} {x : Inp} (h : inL s = some (x, r)) : s = lineL x ++ r ∧ mayB x = true := by
  unfold inL at h
  cases e1 : skp mHiddenName.data.toList s with
  | some r1 =>
    rw [e1] at h
    obtain ⟨p, h1, h⟩ := Option.bind_eq_some_iff.1 h
    obtain ⟨r2, h2, h⟩ := Option.bind_eq_some_iff.1 h
    injection h with h
    injection h with h3 h4
    subst h3; subst h4
    obtain ⟨⟨k, n, v, l⟩, pr⟩ := p
    obtain ⟨i1, i2, i3, i4⟩ := valL_is h1
    dsimp only at i1 i2 i3 i4 h2
    subst i2; subst i3
    refine ⟨?_, may1 i4⟩
    rw [rdl1, ← skp_is h2, ← i1]
    exact skp_is e1
  | none =>
    rw [e1] at h
    obtain ⟨r1, h0, h⟩ := Option.bind_eq_some_iff.1 h
    cases e2 : skp mBoxName.data.toList r1 with
    | some r2 =>
      rw [e2] at h
      obtain ⟨p, h1, h⟩ := Option.bind_eq_some_iff.1 h
      obtain ⟨r3, h2, h⟩ := Option.bind_eq_some_iff.1 h
      obtain ⟨q, h3, h⟩ := Option.bind_eq_some_iff.1 h
      obtain ⟨r4, h4, h⟩ := Option.bind_eq_some_iff.1 h
      injection h with h
      injection h with h5 h6
      subst h5; subst h6
      obtain ⟨⟨k, n, v, l⟩, pr⟩ := p
      obtain ⟨t, qr⟩ := q
      obtain ⟨i1, i2, i3, i4⟩ := valL_is h1
      have i5 := (txtL_is h3).1
      dsimp only at i1 i2 i3 i4 h2 h4
      subst i2
      refine ⟨?_, may4 i4⟩
      rw [rdl4, ← skp_is h4, ← i5, ← skp_is h2, ← i1, ← skp_is e2]
      exact skp_is h0
    | none =>
      rw [e2] at h
      change typL r1 = _ at h
      unfold typL at h
      obtain ⟨p, h1, h⟩ := Option.bind_eq_some_iff.1 h
      obtain ⟨lb, pr⟩ := p
      have i1 := labL_is h1
      dsimp only at h
      cases e3 : skp mTextName.data.toList pr with
      | some r2 =>
        rw [e3] at h
        obtain ⟨q, h2, h⟩ := Option.bind_eq_some_iff.1 h
        obtain ⟨r3, h3, h⟩ := Option.bind_eq_some_iff.1 h
        injection h with h
        injection h with h5 h6
        subst h5; subst h6
        obtain ⟨⟨k, n, v, l⟩, qr⟩ := q
        obtain ⟨j1, j2, j3, j4⟩ := valL_is h2
        dsimp only at j1 j2 j3 j4 h3
        subst j2
        refine ⟨?_, may2 j4⟩
        rw [rdl2, ← skp_is h3, ← j1, ← skp_is e3, ← i1]
        exact skp_is h0
      | none =>
        rw [e3] at h
        obtain ⟨r2, h2, h⟩ := Option.bind_eq_some_iff.1 h
        obtain ⟨q, h3, h⟩ := Option.bind_eq_some_iff.1 h
        obtain ⟨r3, h4, h⟩ := Option.bind_eq_some_iff.1 h
        injection h with h
        injection h with h5 h6
        subst h5; subst h6
        obtain ⟨n, qr⟩ := q
        obtain ⟨j1, j2⟩ := namL_is h3
        dsimp only at h4
        refine ⟨?_, may3 j2⟩
        rw [rdl3, ← skp_is h4, ← j1, ← skp_is h2, ← i1]
        exact skp_is h0
end Go.Proofs.YtjalggkhpnfbiaaDoor.pg

namespace Go.Proofs.YtjalggkhpnfbiaaDoor.pg
open Go.Proofs.YtjalggkhpnfbiaaDoor.common

theorem skp_ne {m s : List UInt8} (i : Nat) (hi : i < m.length) (h : m[i]? ≠ s[i]?) : skp m s = none := by
  unfold skp
  rw [if_neg]
  intro e
  refine h ?_
  have h2 : (s.take m.length)[i]? = m[i]? := congrArg (fun l => l[i]?) e
  rw [← h2, List.getElem?_take_of_lt hi]
theorem esc_head (l : List UInt8) (b : UInt8) (hb : b ≠ 60) (q : List UInt8) : (Pg.esc l ++ b :: q)[0]? ≠ some 60 := by
  intro h
  cases e : Pg.esc l with
  | nil => rw [e] at h; simp at h; exact hb h
  | cons c r =>
    rw [e] at h
    simp at h
    exact not_esc 60 (by decide) l (by rw [e, h]; exact List.mem_cons_self ..)
theorem inL_1 {s r1 : List UInt8} (h : skp mHiddenName.data.toList s = some r1) : inL s = (valL 1 r1).bind fun x => (skp mHiddenEnd.data.toList x.2).bind fun r => some (x.1, r) := by
  unfold inL; rw [h]
theorem inL_2 {s r1 r2 : List UInt8} (h1 : skp mHiddenName.data.toList s = none) (h2 : skp mLabelHead.data.toList s = some r1) (h3 : skp mBoxName.data.toList r1 = some r2) : inL s = (valL 4 r2).bind fun x => (skp mBoxLabel.data.toList x.2).bind fun r => (txtL 60 r).bind fun l => (skp mLabelEnd.data.toList l.2).bind fun r => some (⟨x.1.kind, x.1.name, x.1.value, l.1⟩, r) := by
  unfold inL; rw [h1, h2]
  show (match skp mBoxName.data.toList r1 with | some r => _ | none => _) = _
  rw [h3]
theorem inL_3 {s r1 : List UInt8} (h1 : skp mHiddenName.data.toList s = none) (h2 : skp mLabelHead.data.toList s = some r1) (h3 : skp mBoxName.data.toList r1 = none) : inL s = typL r1 := by
  unfold inL; rw [h1, h2]
  show (match skp mBoxName.data.toList r1 with | some r => _ | none => _) = _
  rw [h3]
theorem typL_1 {s p : List UInt8} {l : ByteArray} {r1 : List UInt8} (h : labL s = some (l, p)) (h1 : skp mTextName.data.toList p = some r1) : typL s = (valL 2 r1).bind fun x => (skp mTypedEnd.data.toList x.2).bind fun r => some (⟨x.1.kind, x.1.name, x.1.value, l⟩, r) := by
  unfold typL; rw [h]
  show (match skp mTextName.data.toList p with | some r => _ | none => _) = _
  rw [h1]
theorem typL_2 {s p : List UInt8} {l : ByteArray} {r1 : List UInt8} (h : labL s = some (l, p)) (h1 : skp mTextName.data.toList p = none) (h2 : skp mSecretName.data.toList p = some r1) : typL s = (namL r1).bind fun n => (skp mTypedEnd.data.toList n.2).bind fun r => some (⟨3, n.1, ⟨#[]⟩, l⟩, r) := by
  unfold typL; rw [h]
  show (match skp mTextName.data.toList p with | some r => _ | none => _) = _
  rw [h1]
  show (skp mSecretName.data.toList p).bind _ = _
  rw [h2]
  rfl
theorem may_name {x : Inp} (h : mayB x = true) : emp x.name = false := by
  unfold mayB at h
  rw [Bool.and_eq_true] at h
  simpa using h.1

/-- the line of an input is read back -/
theorem inL_app (x : Inp) (h : mayB x = true) (r : List UInt8) : inL (lineL x ++ r) = some (x, r) := by
  have hn := may_name h
  have hk := mayB_kind h
  obtain ⟨k, n, v, l⟩ := x
  dsimp only at hn hk
  have hc : k = 1 ∨ k = 2 ∨ k = 3 ∨ k = 4 := by omega
  have eT : mTypedEnd.data.toList ++ r = 34 :: (mTypedEnd.data.toList.drop 1 ++ r) := rfl
  rcases hc with rfl | rfl | rfl | rfl
  · have hl : l = ⟨#[]⟩ := by
      unfold mayB at h
      simp at h
      exact emp_is h.2
    subst hl
    have e : mHiddenEnd.data.toList ++ r = 34 :: (mHiddenEnd.data.toList.drop 1 ++ r) := rfl
    rw [rdl1, inL_1 (skp_app _ _), e, valL_app 1 n v hn, ← e, Option.bind_some, skp_app, Option.bind_some]
  · have e : ∀ q, mTextName.data.toList ++ q = 32 :: 60 :: (mTextName.data.toList.drop 2 ++ q) := fun q => rfl
    rw [rdl2, inL_3 (skp_ne 1 (by decide) (by intro h; cases h)) (skp_app _ _) (by rw [e]; exact skp_ne 0 (by decide) (fun h => esc_head _ 32 (by decide) _ h.symm))]
    rw [typL_1 (l := l) (p := mTextName.data.toList ++ _) (by rw [e]; exact labL_app l 32 (by decide) _) (skp_app _ _)]
    rw [eT, valL_app 2 n v hn, ← eT, Option.bind_some, skp_app, Option.bind_some]
  · have hv : v = ⟨#[]⟩ := by
      unfold mayB at h
      simp at h
      exact emp_is h.2
    subst hv
    have e : ∀ q, mSecretName.data.toList ++ q = 32 :: 60 :: (mSecretName.data.toList.drop 2 ++ q) := fun q => rfl
    rw [rdl3, inL_3 (skp_ne 1 (by decide) (by intro h; cases h)) (skp_app _ _) (by rw [e]; exact skp_ne 0 (by decide) (fun h => esc_head _ 32 (by decide) _ h.symm))]
    rw [typL_2 (l := l) (p := mSecretName.data.toList ++ _) (by rw [e]; exact labL_app l 32 (by decide) _) (skp_ne 14 (by decide) (by intro h; cases h)) (skp_app _ _)]
    rw [eT, namL_app n hn, ← eT, Option.bind_some, skp_app, Option.bind_some]
  · have e : ∀ q, mBoxLabel.data.toList ++ q = 34 :: (mBoxLabel.data.toList.drop 1 ++ q) := fun q => rfl
    have e' : mLabelEnd.data.toList ++ r = 60 :: (mLabelEnd.data.toList.drop 1 ++ r) := rfl
    rw [rdl4, inL_2 (skp_ne 1 (by decide) (by intro h; cases h)) (skp_app _ _) (skp_app _ _)]
    rw [e, valL_app 4 n v hn, ← e, Option.bind_some, skp_app, Option.bind_some, e', txtL_app 60 (by decide), ← e', Option.bind_some, skp_app, Option.bind_some]
end Go.Proofs.YtjalggkhpnfbiaaDoor.pg
