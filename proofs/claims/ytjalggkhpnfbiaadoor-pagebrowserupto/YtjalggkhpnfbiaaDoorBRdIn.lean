import Derived.Test.YtjalggkhpnfbiaaDoorBMmKit
import Derived.Test.YtjalggkhpnfbiaaDoorBTwinPg
import Derived.Test.YtjalggkhpnfbiaaDoorBPageAll
namespace Go.Proofs.YtjalggkhpnfbiaaDoor.pg
open Go.ChangeShapes Go.WideShapes Go.ChangeAt Go.RowKit Go.Proofs.YtjalggkhpnfbiaaDoor.common Go.Maps
open Go.Proofs.YtjalggkhpnfbiaaDoor.mm (Mid Fx Rws Gs)
attribute [local go_sem ↓] Go.wp_at_zero Go.wp_at_succ

theorem ic_set : ∀ (l : List Inp) (k : Nat), k < l.length → ∀ x : Inp, ((((ic l).set (k * 4) (.int .i64 x.kind)).set (k * 4 + 1) (.string x.name)).set (k * 4 + 2) (.string x.value)).set (k * 4 + 3) (.string x.label) = ic (l.set k x)
  | [], k, h, _ => by simp at h
  | y :: r, 0, _, x => by
    rw [List.set_cons_zero]
    simp [ic]
  | y :: r, k + 1, h, x => by
    have := ic_set r k (by simpa using h) x
    rw [List.set_cons_succ, show (k + 1) * 4 = k * 4 + 1 + 1 + 1 + 1 by omega]
    show (((((Value.int .i64 y.kind) :: (.string y.name) :: (.string y.value) :: (.string y.label) :: ic r : List Value).set _ _).set _ _).set _ _).set _ _ = (Value.int .i64 y.kind) :: (.string y.name) :: (.string y.value) :: (.string y.label) :: ic (r.set k x)
    rw [← this]
    rfl
/-- a page's rows: the forms', the lines', the inputs' of each form -/
def vP (vF vL : Value) (ss : List Value) : Nat → Value
  | 0 => vF
  | 1 => vL
  | j + 2 => ss.getD j (.slice none 0 0)
def eP : Nat → TypeId
  | 0 => 31
  | 1 => 9
  | _ + 2 => 28
def zPg : Nat → Nat
  | 0 => 3
  | 1 => 1
  | _ + 2 => 4
def nP (nF nL : Nat) (len : Nat → Nat) : Nat → Nat
  | 0 => nF
  | 1 => nL
  | j + 2 => len j
def XP (F : List Value) (L : List ByteArray) (I : Nat → List Inp) : Nat → List Value
  | 0 => F
  | 1 => L.map Value.string
  | j + 2 => ic (I j)
/-- a page that lies in rows of its own, between B0 and B1 -/
structure Pm (B0 B1 : Nat) (W0 : World) (nF nL : Nat) (len : Nat → Nat) (vF vL : Value) (ss : List Value) (F : List Value) (L : List ByteArray) (I : Nat → List Inp) (W : World) : Prop where
  rws : Rws B0 B1 (ss.length + 2) W0 eP zPg (nP nF nL len) (vP vF vL ss) (XP F L I) W
  len_ : ∀ j, j < ss.length → (I j).length = len j
/-- what does not change -/
structure Pf (B0 B1 : Nat) (g cF nF : Nat) (vL : Value) (ss : List Value) (F : List Value) : Prop where
  fx : Fx B0 B1 (ss.length + 2) (vP (.slice (some ⟨g, 0, none⟩) nF cF) vL ss)
  num : nF = ss.length
  cell : ∀ i (h : i < ss.length), F[i * 3 + 1]? = some ss[i]
theorem vP_in {vF vL : Value} {ss : List Value} {i : Nat} (h : i < ss.length) : vP vF vL ss (i + 2) = ss[i] := by
  show ss.getD i _ = _
  rw [List.getD_eq_getElem?_getD, List.getElem?_eq_getElem h]; rfl
section
variable {B0 B1 : Nat} {W0 W W1 : World} {g cF nF nL : Nat} {len : Nat → Nat} {vL : Value} {ss F : List Value} {L : List ByteArray} {I : Nat → List Inp}
theorem Pm.below {vF : Value} (h : Pm B0 B1 W0 nF nL len vF vL ss F L I W) (hb : Below W.heap.size W W1) : Pm B0 B1 W0 nF nL len vF vL ss F L I W1 := ⟨h.rws.below hb, h.len_⟩
theorem Pm.form (h : Pm B0 B1 W0 nF nL len (.slice (some ⟨g, 0, none⟩) nF cF) vL ss F L I W) : W.ownsRow 0 31 3 (.slice (some ⟨g, 0, none⟩) nF cF) nF F := h.rws.row 0 (by omega)
theorem Pm.lines (h : Pm B0 B1 W0 nF nL len (.slice (some ⟨g, 0, none⟩) nF cF) vL ss F L I W) : W.ownsRow 0 9 1 vL nL (L.map Value.string) := h.rws.row 1 (by omega)
theorem Pm.ins (h : Pm B0 B1 W0 nF nL len (.slice (some ⟨g, 0, none⟩) nF cF) vL ss F L I W) (i : Nat) (hi : i < ss.length) : W.ownsRow 0 28 4 ss[i] (len i) (ic (I i)) := by
  have := h.rws.row (i + 2) (by omega)
  rw [vP_in hi] at this
  exact this
theorem Pm.cell (h : Pm B0 B1 W0 nF nL len (.slice (some ⟨g, 0, none⟩) nF cF) vL ss F L I W) (hp : Pf B0 B1 g cF nF vL ss F) (i : Nat) (hi : i < ss.length) : W.cell? ⟨g, i * 3 + 1, none⟩ = some ss[i] := by
  rw [h.form.cellAt (i * 3 + 1) (by have := hp.num; omega)]
  exact hp.cell i hi
theorem grown4 (w : World) (g a : Nat) (p q r s : Value) : w.grownBy ((((w.setCell ⟨g, a, none⟩ p).setCell ⟨g, a + 1, none⟩ q).setCell ⟨g, a + 2, none⟩ r).setCell ⟨g, a + 3, none⟩ s) (some g) :=
  ⟨rfl, rfl, rfl, by simp [World.setCell], fun k _ hk => by
    have h : k ≠ g := fun e => hk (by rw [e])
    rw [Below.heap_setCell _ _ _ _ h, Below.heap_setCell _ _ _ _ h, Below.heap_setCell _ _ _ _ h, Below.heap_setCell _ _ _ _ h]⟩
/-- one input is written -/
theorem Pm.put (h : Pm B0 B1 W0 nF nL len (.slice (some ⟨g, 0, none⟩) nF cF) vL ss F L I W) (hp : Pf B0 B1 g cF nF vL ss F) {i b c k : Nat} (hi : i < ss.length) (hv : ss[i] = .slice (some ⟨b, 0, none⟩) (len i) c) (hk : k < len i) (x : Inp) {I' : Nat → List Inp} (hI : ∀ j, I' j = if j = i then (I i).set k x else I j) :
    Pm B0 B1 W0 nF nL len (.slice (some ⟨g, 0, none⟩) nF cF) vL ss F L I' ((((W.setCell ⟨b, k * 4, none⟩ (.int .i64 x.kind)).setCell ⟨b, k * 4 + 1, none⟩ (.string x.name)).setCell ⟨b, k * 4 + 2, none⟩ (.string x.value)).setCell ⟨b, k * 4 + 3, none⟩ (.string x.label)) := by
  have hr := h.ins i hi
  rw [hv] at hr
  have h4 := ((((hr.stored (k * 4) (.int .i64 x.kind)).1.stored (k * 4 + 1) (.string x.name)).1.stored (k * 4 + 2) (.string x.value)).1.stored (k * 4 + 3) (.string x.label)).1
  rw [ic_set _ _ (by rw [h.len_ i hi]; exact hk)] at h4
  refine ⟨h.rws.touch hp.fx (i := i + 2) (b := b) (by omega) (by rw [vP_in hi, hv]; rfl) (grown4 W b (k * 4) _ _ _ _) (x := ic ((I i).set k x)) ?_ (fun j => ?_), fun j hj => ?_⟩
  · rw [vP_in hi, hv]
    exact h4
  · match j with
    | 0 => rfl
    | 1 => rfl
    | j + 2 =>
      show ic (I' j) = _
      rw [hI j]
      by_cases e : j = i
      · subst e; rw [if_pos rfl, if_pos rfl]
      · rw [if_neg e, if_neg (by omega)]; rfl
  · rw [hI j]
    by_cases e : j = i
    · subst e; rw [if_pos rfl, List.length_set]; exact h.len_ j hj
    · rw [if_neg e]; exact h.len_ j hj
end
end Go.Proofs.YtjalggkhpnfbiaaDoor.pg

namespace Go.Proofs.YtjalggkhpnfbiaaDoor.pg
open Go.Proofs.YtjalggkhpnfbiaaDoor.common

/-- the reader of a page over lists: markup -/
def skp (m s : List UInt8) : Option (List UInt8) := if s.take m.length = m then some (s.drop m.length) else none
theorem skp_app (m r : List UInt8) : skp m (m ++ r) = some r := by
  unfold skp
  rw [List.take_left, if_pos rfl, List.drop_left]
theorem skp_is {m s r : List UInt8} (h : skp m s = some r) : s = m ++ r := by
  unfold skp at h
  split at h
  · rename_i e
    injection h with h
    rw [← h]
    conv => lhs; rw [← List.take_append_drop m.length s, e]
  · cases h
/-- what stands ahead of a byte -/
def ahead (c : UInt8) : List UInt8 → Option (List UInt8 × List UInt8)
  | [] => none
  | d :: r => if d = c then some ([], d :: r) else (ahead c r).map fun p => (d :: p.1, p.2)
theorem ahead_is {c : UInt8} : ∀ {s a r : List UInt8}, ahead c s = some (a, r) → s = a ++ r ∧ (∃ q, r = c :: q) ∧ c ∉ a
  | [], _, _, h => by cases h
  | d :: s, a, r, h => by
    unfold ahead at h
    split at h
    · rename_i e
      injection h with h
      injection h with h1 h2
      subst h1; subst h2; subst e
      exact ⟨rfl, ⟨s, rfl⟩, by simp⟩
    · rename_i e
      cases hs : ahead c s with
      | none => rw [hs] at h; cases h
      | some p =>
        rw [hs] at h
        injection h with h
        injection h with h1 h2
        obtain ⟨i1, i2, i3⟩ := ahead_is (a := p.1) (r := p.2) hs
        subst h1; subst h2
        refine ⟨by rw [List.cons_append, ← i1], i2, ?_⟩
        intro hm
        rcases List.mem_cons.1 hm with hm | hm
        · exact e hm.symm
        · exact i3 hm
theorem ahead_app {c : UInt8} (q : List UInt8) : ∀ a : List UInt8, c ∉ a → ahead c (a ++ c :: q) = some (a, c :: q)
  | [], _ => by
    show ahead c (c :: q) = _
    unfold ahead
    rw [if_pos rfl]
  | d :: a, h => by
    have hd : d ≠ c := fun e => h (by rw [e]; exact List.mem_cons_self ..)
    have ha := ahead_app q a (fun hm => h (List.mem_cons_of_mem _ hm))
    show ahead c (d :: (a ++ c :: q)) = _
    unfold ahead
    rw [if_neg hd, ha]
    rfl
/-- a text up to a byte -/
def txtL (c : UInt8) (s : List UInt8) : Option (ByteArray × List UInt8) := (ahead c s).bind fun p => (Pg.unesc p.1).map fun t => (⟨t.toArray⟩, p.2)
theorem unesc_is {a t : List UInt8} (h : Pg.unesc a = some t) : a = Pg.esc t := by
  rw [Pg.unesc_mean] at h
  split at h
  · rename_i e
    injection h with h
    rw [← h]; exact e.symm
  · cases h
theorem txtL_is {c : UInt8} {s r : List UInt8} {t : ByteArray} (h : txtL c s = some (t, r)) : s = Pg.esc t.data.toList ++ r ∧ ∃ q, r = c :: q := by
  unfold txtL at h
  cases ha : ahead c s with
  | none => rw [ha] at h; cases h
  | some p =>
    rw [ha] at h
    change (Pg.unesc p.1).map _ = _ at h
    cases hu : Pg.unesc p.1 with
    | none => rw [hu] at h; cases h
    | some u =>
      rw [hu] at h
      injection h with h
      injection h with h1 h2
      obtain ⟨i1, i2, _⟩ := ahead_is (a := p.1) (r := p.2) ha
      subst h1; subst h2
      exact ⟨by rw [← unesc_is hu]; exact i1, i2⟩
theorem not_esc (c : UInt8) (hc : Pg.quotable c = true) (l : List UInt8) : c ∉ Pg.esc l := fun hm => by
  have := Pg.esc_any l
  rw [List.any_eq_false] at this
  exact this c hm hc
theorem txtL_app (c : UInt8) (hc : Pg.quotable c = true) (t : ByteArray) (q : List UInt8) : txtL c (Pg.esc t.data.toList ++ c :: q) = some (t, c :: q) := by
  unfold txtL
  rw [ahead_app q _ (not_esc c hc _)]
  show (Pg.unesc (Pg.esc t.data.toList)).map _ = _
  rw [Pg.unesc_esc]
  rfl
end Go.Proofs.YtjalggkhpnfbiaaDoor.pg

namespace Go.Proofs.YtjalggkhpnfbiaaDoor.pg
open Go.Proofs.YtjalggkhpnfbiaaDoor.common

theorem emp0 : emp ⟨#[]⟩ = true := by unfold emp; simp
/-- a name, which is never empty -/
def namL (s : List UInt8) : Option (ByteArray × List UInt8) := (txtL 34 s).bind fun p => if emp p.1 then none else some p
theorem namL_is {s r : List UInt8} {n : ByteArray} (h : namL s = some (n, r)) : s = Pg.esc n.data.toList ++ r ∧ emp n = false := by
  unfold namL at h
  obtain ⟨p, h1, h2⟩ := Option.bind_eq_some_iff.1 h
  split at h2
  · cases h2
  · rename_i e
    injection h2 with h2
    subst h2
    exact ⟨(txtL_is h1).1, by simpa using e⟩
theorem namL_app (n : ByteArray) (hn : emp n = false) (q : List UInt8) : namL (Pg.esc n.data.toList ++ 34 :: q) = some (n, 34 :: q) := by
  unfold namL
  rw [txtL_app 34 (by decide)]
  show (if emp n = true then none else some (n, 34 :: q)) = _
  rw [hn]
  rfl
/-- a name and a value -/
def valL (k : Int) (s : List UInt8) : Option (Inp × List UInt8) := (namL s).bind fun p => (skp mInputValue.data.toList p.2).bind fun r => (txtL 34 r).bind fun q => some (⟨k, p.1, q.1, ⟨#[]⟩⟩, q.2)
theorem valL_is {k : Int} {s r : List UInt8} {x : Inp} (h : valL k s = some (x, r)) : s = Pg.esc x.name.data.toList ++ (mInputValue.data.toList ++ (Pg.esc x.value.data.toList ++ r)) ∧ x.kind = k ∧ x.label = ⟨#[]⟩ ∧ emp x.name = false := by
  unfold valL at h
  obtain ⟨p, h1, h⟩ := Option.bind_eq_some_iff.1 h
  obtain ⟨r1, h2, h⟩ := Option.bind_eq_some_iff.1 h
  obtain ⟨q, h3, h⟩ := Option.bind_eq_some_iff.1 h
  injection h with h
  injection h with h4 h5
  subst h4; subst h5
  obtain ⟨i1, i2⟩ := namL_is (n := p.1) (r := p.2) h1
  have i3 := skp_is h2
  have i4 := (txtL_is (t := q.1) (r := q.2) h3).1
  refine ⟨?_, rfl, rfl, i2⟩
  show s = Pg.esc p.1.data.toList ++ (mInputValue.data.toList ++ (Pg.esc q.1.data.toList ++ q.2))
  rw [← i4, ← i3]
  exact i1
theorem valL_app (k : Int) (n v : ByteArray) (hn : emp n = false) (q : List UInt8) : valL k (Pg.esc n.data.toList ++ (mInputValue.data.toList ++ (Pg.esc v.data.toList ++ 34 :: q))) = some (⟨k, n, v, ⟨#[]⟩⟩, 34 :: q) := by
  have e : mInputValue.data.toList ++ (Pg.esc v.data.toList ++ 34 :: q) = 34 :: (mInputValue.data.toList.drop 1 ++ (Pg.esc v.data.toList ++ 34 :: q)) := rfl
  unfold valL
  rw [e, namL_app n hn, ← e, Option.bind_some, skp_app, Option.bind_some, txtL_app 34 (by decide), Option.bind_some]
/-- a label ahead of its input -/
def labL (s : List UInt8) : Option (ByteArray × List UInt8) := (ahead 60 s).bind fun p => if p.1 = [] then none else (Pg.unesc p.1.dropLast).bind fun t => some (⟨t.toArray⟩, p.1.getLast?.toList ++ p.2)
theorem labL_is {s r : List UInt8} {t : ByteArray} (h : labL s = some (t, r)) : s = Pg.esc t.data.toList ++ r := by
  unfold labL at h
  obtain ⟨p, h1, h⟩ := Option.bind_eq_some_iff.1 h
  split at h
  · cases h
  · rename_i e
    obtain ⟨u, h2, h⟩ := Option.bind_eq_some_iff.1 h
    injection h with h
    injection h with h3 h4
    subst h3; subst h4
    have i1 := (ahead_is (a := p.1) (r := p.2) h1).1
    show s = Pg.esc u ++ _
    rw [← unesc_is h2, ← List.append_assoc]
    have i2 : p.1.dropLast ++ p.1.getLast?.toList = p.1 := by
      rw [List.getLast?_eq_some_getLast e]
      exact List.dropLast_concat_getLast e
    rw [i2]
    exact i1
theorem labL_app (l : ByteArray) (b : UInt8) (hb : b ≠ 60) (q : List UInt8) : labL (Pg.esc l.data.toList ++ b :: 60 :: q) = some (l, b :: 60 :: q) := by
  have hn : (60 : UInt8) ∉ Pg.esc l.data.toList ++ [b] := by
    intro hm
    rcases List.mem_append.1 hm with hm | hm
    · exact not_esc 60 (by decide) _ hm
    · simp at hm; exact hb hm.symm
  have e : Pg.esc l.data.toList ++ b :: 60 :: q = (Pg.esc l.data.toList ++ [b]) ++ 60 :: q := by simp
  unfold labL
  rw [e, ahead_app q _ hn]
  show (if Pg.esc l.data.toList ++ [b] = [] then none else (Pg.unesc (Pg.esc l.data.toList ++ [b]).dropLast).bind _) = _
  rw [if_neg (by simp), List.dropLast_concat, Pg.unesc_esc]
  show some (_, (Pg.esc l.data.toList ++ [b]).getLast?.toList ++ 60 :: q) = _
  rw [List.getLast?_concat]
  rfl
/-- an input that is typed -/
def typL (s : List UInt8) : Option (Inp × List UInt8) := (labL s).bind fun p =>
  match skp mTextName.data.toList p.2 with
  | some r => (valL 2 r).bind fun x => (skp mTypedEnd.data.toList x.2).bind fun r => some (⟨x.1.kind, x.1.name, x.1.value, p.1⟩, r)
  | none => (skp mSecretName.data.toList p.2).bind fun r => (namL r).bind fun n => (skp mTypedEnd.data.toList n.2).bind fun r => some (⟨3, n.1, ⟨#[]⟩, p.1⟩, r)
/-- an input -/
def inL (s : List UInt8) : Option (Inp × List UInt8) :=
  match skp mHiddenName.data.toList s with
  | some r => (valL 1 r).bind fun x => (skp mHiddenEnd.data.toList x.2).bind fun r => some (x.1, r)
  | none => (skp mLabelHead.data.toList s).bind fun r =>
    match skp mBoxName.data.toList r with
    | some r => (valL 4 r).bind fun x => (skp mBoxLabel.data.toList x.2).bind fun r => (txtL 60 r).bind fun l => (skp mLabelEnd.data.toList l.2).bind fun r => some (⟨x.1.kind, x.1.name, x.1.value, l.1⟩, r)
    | none => typL r
end Go.Proofs.YtjalggkhpnfbiaaDoor.pg
