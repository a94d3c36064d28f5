import Derived.Test.YtjalggkhpnfbiaaDoorMMmKit
import Derived.Test.YtjalggkhpnfbiaaDoorMTwinPg
namespace Go.Proofs.YtjalggkhpnfbiaaDoor.pg
open Go.ChangeShapes Go.WideShapes Go.ChangeAt Go.RowKit Go.Proofs.YtjalggkhpnfbiaaDoor.common Go.Maps
open Go.Proofs.YtjalggkhpnfbiaaDoor.mm (Mid Fx Rws Gs)
attribute [local go_sem ↓] Go.wp_at_zero Go.wp_at_succ

theorem ic_set : ∀ (l : List Inp) (k : Nat), k < l.length → ∀ x : Inp, ((((ic l).set (k * 4) (.int .i64 x.kind)).set (k * 4 + 1) (.string x.name)).set (k * 4 + 2) (.string x.value)).set (k * 4 + 3) (.string x.label) = ic (l.set k x)
  | [], k, h, _ => by simp at h
  | y :: r, 0, _, x => by
    rw [List.set_cons_zero]
    simp [ic]
  | y :: r, k + 1, h, x => by
    have := ic_set r k (by simpa using h) x
    rw [List.set_cons_succ, show (k + 1) * 4 = k * 4 + 1 + 1 + 1 + 1 by omega]
    show (((((Value.int .i64 y.kind) :: (.string y.name) :: (.string y.value) :: (.string y.label) :: ic r : List Value).set _ _).set _ _).set _ _).set _ _ = (Value.int .i64 y.kind) :: (.string y.name) :: (.string y.value) :: (.string y.label) :: ic (r.set k x)
    rw [← this]
    rfl
/-- the mark of the inputs of the i-th form -/
def mkI (c : ByteArray) (i : Nat) : Inp := ⟨(i : Int) + 1, c, ⟨#[]⟩, ⟨#[]⟩⟩
/-- a page's rows: the forms', the lines', the inputs' of each form -/
def vP (vF vL : Value) (ss : List Value) : Nat → Value
  | 0 => vF
  | 1 => vL
  | j + 2 => ss.getD j (.slice none 0 0)
def eP : Nat → TypeId
  | 0 => 31
  | 1 => 9
  | _ + 2 => 28
def zPg : Nat → Nat
  | 0 => 3
  | 1 => 1
  | _ + 2 => 4
def nP (nF nL : Nat) (len : Nat → Nat) : Nat → Nat
  | 0 => nF
  | 1 => nL
  | j + 2 => len j
def XP (F : List Value) (L : List ByteArray) (I : Nat → List Inp) : Nat → List Value
  | 0 => F
  | 1 => L.map Value.string
  | j + 2 => ic (I j)
/-- a page that lies in rows of its own, between B0 and B1 -/
structure Pm (B0 B1 : Nat) (W0 : World) (nF nL : Nat) (len : Nat → Nat) (vF vL : Value) (ss : List Value) (F : List Value) (L : List ByteArray) (I : Nat → List Inp) (W : World) : Prop where
  rws : Rws B0 B1 (ss.length + 2) W0 eP zPg (nP nF nL len) (vP vF vL ss) (XP F L I) W
  len_ : ∀ j, j < ss.length → (I j).length = len j
/-- what does not change -/
structure Pf (B0 B1 : Nat) (g cF nF : Nat) (vL : Value) (ss : List Value) (F : List Value) : Prop where
  fx : Fx B0 B1 (ss.length + 2) (vP (.slice (some ⟨g, 0, none⟩) nF cF) vL ss)
  num : nF = ss.length
  cell : ∀ i (h : i < ss.length), F[i * 3 + 1]? = some ss[i]
theorem vP_in {vF vL : Value} {ss : List Value} {i : Nat} (h : i < ss.length) : vP vF vL ss (i + 2) = ss[i] := by
  show ss.getD i _ = _
  rw [List.getD_eq_getElem?_getD, List.getElem?_eq_getElem h]; rfl
section
variable {B0 B1 : Nat} {W0 W W1 : World} {g cF nF nL : Nat} {len : Nat → Nat} {vL : Value} {ss F : List Value} {L : List ByteArray} {I : Nat → List Inp}
theorem Pm.below {vF : Value} (h : Pm B0 B1 W0 nF nL len vF vL ss F L I W) (hb : Below W.heap.size W W1) : Pm B0 B1 W0 nF nL len vF vL ss F L I W1 := ⟨h.rws.below hb, h.len_⟩
theorem Pm.form (h : Pm B0 B1 W0 nF nL len (.slice (some ⟨g, 0, none⟩) nF cF) vL ss F L I W) : W.ownsRow 0 31 3 (.slice (some ⟨g, 0, none⟩) nF cF) nF F := h.rws.row 0 (by omega)
theorem Pm.lines (h : Pm B0 B1 W0 nF nL len (.slice (some ⟨g, 0, none⟩) nF cF) vL ss F L I W) : W.ownsRow 0 9 1 vL nL (L.map Value.string) := h.rws.row 1 (by omega)
theorem Pm.ins (h : Pm B0 B1 W0 nF nL len (.slice (some ⟨g, 0, none⟩) nF cF) vL ss F L I W) (i : Nat) (hi : i < ss.length) : W.ownsRow 0 28 4 ss[i] (len i) (ic (I i)) := by
  have := h.rws.row (i + 2) (by omega)
  rw [vP_in hi] at this
  exact this
theorem Pm.cell (h : Pm B0 B1 W0 nF nL len (.slice (some ⟨g, 0, none⟩) nF cF) vL ss F L I W) (hp : Pf B0 B1 g cF nF vL ss F) (i : Nat) (hi : i < ss.length) : W.cell? ⟨g, i * 3 + 1, none⟩ = some ss[i] := by
  rw [h.form.cellAt (i * 3 + 1) (by have := hp.num; omega)]
  exact hp.cell i hi
theorem grown4 (w : World) (g a : Nat) (p q r s : Value) : w.grownBy ((((w.setCell ⟨g, a, none⟩ p).setCell ⟨g, a + 1, none⟩ q).setCell ⟨g, a + 2, none⟩ r).setCell ⟨g, a + 3, none⟩ s) (some g) :=
  ⟨rfl, rfl, rfl, by simp [World.setCell], fun k _ hk => by
    have h : k ≠ g := fun e => hk (by rw [e])
    rw [Below.heap_setCell _ _ _ _ h, Below.heap_setCell _ _ _ _ h, Below.heap_setCell _ _ _ _ h, Below.heap_setCell _ _ _ _ h]⟩
/-- one input is written -/
theorem Pm.put (h : Pm B0 B1 W0 nF nL len (.slice (some ⟨g, 0, none⟩) nF cF) vL ss F L I W) (hp : Pf B0 B1 g cF nF vL ss F) {i b c k : Nat} (hi : i < ss.length) (hv : ss[i] = .slice (some ⟨b, 0, none⟩) (len i) c) (hk : k < len i) (x : Inp) {I' : Nat → List Inp} (hI : ∀ j, I' j = if j = i then (I i).set k x else I j) :
    Pm B0 B1 W0 nF nL len (.slice (some ⟨g, 0, none⟩) nF cF) vL ss F L I' ((((W.setCell ⟨b, k * 4, none⟩ (.int .i64 x.kind)).setCell ⟨b, k * 4 + 1, none⟩ (.string x.name)).setCell ⟨b, k * 4 + 2, none⟩ (.string x.value)).setCell ⟨b, k * 4 + 3, none⟩ (.string x.label)) := by
  have hr := h.ins i hi
  rw [hv] at hr
  have h4 := ((((hr.stored (k * 4) (.int .i64 x.kind)).1.stored (k * 4 + 1) (.string x.name)).1.stored (k * 4 + 2) (.string x.value)).1.stored (k * 4 + 3) (.string x.label)).1
  rw [ic_set _ _ (by rw [h.len_ i hi]; exact hk)] at h4
  refine ⟨h.rws.touch hp.fx (i := i + 2) (b := b) (by omega) (by rw [vP_in hi, hv]; rfl) (grown4 W b (k * 4) _ _ _ _) (x := ic ((I i).set k x)) ?_ (fun j => ?_), fun j hj => ?_⟩
  · rw [vP_in hi, hv]
    exact h4
  · match j with
    | 0 => rfl
    | 1 => rfl
    | j + 2 =>
      show ic (I' j) = _
      rw [hI j]
      by_cases e : j = i
      · subst e; rw [if_pos rfl, if_pos rfl]
      · rw [if_neg e, if_neg (by omega)]; rfl
  · rw [hI j]
    by_cases e : j = i
    · subst e; rw [if_pos rfl, List.length_set]; exact h.len_ j hj
    · rw [if_neg e]; exact h.len_ j hj
/-- one line is written -/
theorem Pm.putL {gL cL : Nat} (h : Pm B0 B1 W0 nF nL len (.slice (some ⟨g, 0, none⟩) nF cF) (.slice (some ⟨gL, 0, none⟩) nL cL) ss F L I W) (hp : Pf B0 B1 g cF nF (.slice (some ⟨gL, 0, none⟩) nL cL) ss F) (k : Nat) (x : ByteArray) :
    Pm B0 B1 W0 nF nL len (.slice (some ⟨g, 0, none⟩) nF cF) (.slice (some ⟨gL, 0, none⟩) nL cL) ss F (L.set k x) I (W.setCell ⟨gL, k, none⟩ (.string x)) := by
  have hr := (h.lines.stored k (.string x)).1
  rw [← List.map_set] at hr
  refine ⟨h.rws.touch hp.fx (i := 1) (b := gL) (by omega) rfl (grown_cell W _ _) (x := (L.set k x).map Value.string) hr (fun j => ?_), h.len_⟩
  match j with
  | 0 => rfl
  | 1 => rfl
  | j + 2 => rw [if_neg (by omega)]; rfl
end
/-- what the inputs hold while they are marked: those ahead of the i-th form's, and k of it -/
def mkT (c : ByteArray) (I : Nat → List Inp) (i k : Nat) : Nat → List Inp := fun j => if j < i then List.replicate (I j).length (mkI c j) else if j = i then List.replicate k (mkI c i) ++ (I i).drop k else I j
theorem mkT_zero (c : ByteArray) (I : Nat → List Inp) : mkT c I 0 0 = I := by
  funext j
  unfold mkT
  split
  · omega
  · split
    · rename_i h; subst h; simp
    · rfl
theorem mkT_turn (c : ByteArray) (I : Nat → List Inp) (i : Nat) : mkT c I i (I i).length = mkT c I (i + 1) 0 := by
  funext j
  unfold mkT
  by_cases h1 : j < i
  · rw [if_pos h1, if_pos (by omega)]
  · by_cases h2 : j = i
    · subst h2
      rw [if_neg h1, if_pos rfl, if_pos (by omega)]
      simp
    · rw [if_neg h1, if_neg h2, if_neg (by omega)]
      split
      · rename_i h; subst h; simp
      · rfl
theorem mkT_set (c : ByteArray) (I : Nat → List Inp) (i k : Nat) (hk : k < (I i).length) : ∀ j, mkT c I i (k + 1) j = if j = i then (mkT c I i k i).set k (mkI c i) else mkT c I i k j := by
  intro j
  by_cases h : j = i
  · subst h
    rw [if_pos rfl]
    unfold mkT
    rw [if_neg (by omega), if_pos rfl, if_neg (by omega), if_pos rfl]
    rw [List.set_append_right _ _ (by simp), List.length_replicate, Nat.sub_self, List.drop_eq_getElem_cons hk, List.set_cons_zero, List.replicate_succ']
    simp
  · rw [if_neg h]
    unfold mkT
    by_cases h1 : j < i
    · rw [if_pos h1, if_pos h1]
    · rw [if_neg h1, if_neg h, if_neg h1, if_neg h]
end Go.Proofs.YtjalggkhpnfbiaaDoor.pg
