import Derived.Test.YtjalggkhpnfbiaaDoorBRdIn
import Derived.Test.YtjalggkhpnfbiaaDoorBRdOnly
import Derived.Test.YtjalggkhpnfbiaaDoorBTwinAll
namespace Go.Proofs.YtjalggkhpnfbiaaDoor.pg
open Go.ChangeShapes Go.WideShapes Go.ChangeAt Go.RowKit Go.Proofs.YtjalggkhpnfbiaaDoor.common Go.Maps
open Go.Proofs.YtjalggkhpnfbiaaDoor.mm (Mid Fx Rws Gs)

theorem own_box {W : World} {base : Nat} {e te : TypeId} {z : Nat} {v : Value} {n b : Nat} {xs : List Value} {A : Array Value} (h : W.ownsRow base e z v n xs) (hb : W.heap[b]? = some (.cells A te)) (he : e ≠ te) : ∀ m, v.ownBlock = some m → m ≠ b := by
  intro m hm hmb
  rcases h.2 with ⟨rfl, _⟩ | ⟨g, cap, cur, rfl, _, hh, _⟩
  · cases hm
  · cases hm
    subst hmb
    rw [hb] at hh
    cases hh
    exact he rfl
theorem own_setOff {W : World} {base : Nat} {e : TypeId} {z : Nat} {v : Value} {n : Nat} {xs : List Value} (h : W.ownsRow base e z v n xs) (a : Addr) (u : Value) (hm : ∀ m, v.ownBlock = some m → m ≠ a.block) : (W.setCell a u).ownsRow base e z v n xs :=
  mm.own_keepI h (fun g hg => Below.heap_setCell _ _ _ _ (hm g hg))
/-- the page of the law: in its box, with its rows -/
structure Qp (base bQ : Nat) (t : ByteArray) (ls : List ByteArray) (gs : List Frm) (vL vF : Value) (ss : List Value) (W : World) : Prop where
  box : W.heap[bQ]? = some (.cells #[.string t, vL, vF] 25)
  lines : W.ownsRow base 9 1 vL ls.length (ls.map Value.string)
  forms : OwnF base W vF gs ss
section
variable {base bQ : Nat} {t : ByteArray} {ls : List ByteArray} {gs : List Frm} {vL vF : Value} {ss : List Value} {W W' : World}
theorem Qp.below (h : Qp base bQ t ls gs vL vF ss W) (hb : Below W.heap.size W W') : Qp base bQ t ls gs vL vF ss W' :=
  ⟨(hb.block _ (Array.getElem?_eq_some_iff.1 h.box).1).trans h.box, own_below h.lines hb, h.forms.below hb⟩
theorem Qp.lt (h : Qp base bQ t ls gs vL vF ss W) : bQ < W.heap.size := (Array.getElem?_eq_some_iff.1 h.box).1
theorem Qp.boxF {o p : Obj} (h : Qp base bQ t ls gs vL vF ss W) (hg : ((W.alloc o).alloc p).grownBy W' vF.ownBlock) : W'.heap[bQ]? = some (.cells #[.string t, vL, vF] 25) := by
  have hA := (h.below ((Below.refl W.heap.size W).alloc (Nat.le_refl _) o)).below ((Below.refl _ _).alloc (Nat.le_refl _) p)
  exact (hg.block bQ hA.lt (fun e => own_box hA.forms.row hA.box (by decide) bQ e.symm rfl)).trans hA.box
/-- one form more -/
theorem Qp.addF {o p : Obj} {vF' u : Value} {f : Frm} (h : Qp base bQ t ls gs vL vF ss W) (hu : (W.alloc o).ownsRow base 28 4 u f.ins.length (ic f.ins)) (hg : ((W.alloc o).alloc p).grownBy W' vF.ownBlock) (hr : W'.ownsRow base 31 3 vF' (gs.length + 1) (fc gs ss ++ [.string f.act, u, .string f.but])) : Qp base bQ t ls (gs ++ [f]) vL vF' (ss ++ [u]) (W'.setCell ⟨bQ, 2, none⟩ vF') := by
  have hA := (h.below ((Below.refl W.heap.size W).alloc (Nat.le_refl _) o)).below ((Below.refl _ _).alloc (Nat.le_refl _) p)
  have hu' := own_below hu ((Below.refl _ _).alloc (Nat.le_refl _) p)
  have hb : W'.heap[bQ]? = some (.cells #[.string t, vL, vF] 25) := (hg.block bQ hA.lt (fun e => own_box hA.forms.row hA.box (by decide) bQ e.symm rfl)).trans hA.box
  have hl : W'.ownsRow base 9 1 vL ls.length (ls.map Value.string) := hA.lines.kept hg (rows_ne (by decide) hA.lines hA.forms.row)
  have hi : ∀ i (hi : i < ss.length), W'.ownsRow base 28 4 ss[i] (gs[i]'(by have := h.forms.len; omega)).ins.length (ic (gs[i]'(by have := h.forms.len; omega)).ins) := fun i hi => (hA.forms.each i hi).kept hg (rows_ne (by decide) (hA.forms.each i hi) hA.forms.row)
  have hn : W'.ownsRow base 28 4 u f.ins.length (ic f.ins) := hu'.kept hg (rows_ne (by decide) hu' hA.forms.row)
  have ho : OwnF base (W'.setCell ⟨bQ, 2, none⟩ vF') vF' (gs ++ [f]) (ss ++ [u]) :=
    ownF_snoc h.forms.len (own_setOff hr _ _ (own_box hr hb (by decide))) (fun i hi' => own_setOff (hi i hi') _ _ (own_box (hi i hi') hb (by decide))) (own_setOff hn _ _ (own_box hn hb (by decide)))
  exact ⟨(set3 hb vF').2, own_setOff hl _ _ (own_box hl hb (by decide)), ho⟩
/-- the first line is written over -/
theorem Qp.over {gL n cL : Nat} (h : Qp base bQ t ls gs (.slice (some ⟨gL, 0, none⟩) n cL) vF ss W) (hn : n = ls.length) (x : ByteArray) : Qp base bQ t (ls.set 0 x) gs (.slice (some ⟨gL, 0, none⟩) n cL) vF ss (W.setCell ⟨gL, 0, none⟩ (.string x)) := by
  subst hn
  have hr := (h.lines.stored 0 (.string x)).1
  have h0 : ∀ m, Value.ownBlock (.slice (some ⟨gL, 0, none⟩) ls.length cL) = some m → m ≠ bQ := own_box h.lines h.box (by decide)
  have hgb : gL ≠ bQ := h0 gL rfl
  refine ⟨(Below.heap_setCell _ _ _ _ (Ne.symm hgb)).trans h.box, ?_, h.forms.len, own_setOff h.forms.row _ _ (fun m hm e => ?_), fun i hi => own_setOff (h.forms.each i hi) _ _ (fun m hm e => ?_)⟩
  · rw [List.length_set, List.map_set]
    exact hr
  · exact mm.rows_neT (by decide) h.lines h.forms.row gL rfl (by rw [hm, e])
  · exact mm.rows_neT (by decide) h.lines (h.forms.each i hi) gL rfl (by rw [hm, e])
/-- the last form's first name is written over -/
theorem Qp.name {s0 : List Value} {g0 : List Frm} {gz : Nat} {a b : ByteArray} {x y : Inp} (h : Qp base bQ t ls (g0 ++ [⟨a, [x, y], b⟩]) vL vF (s0 ++ [.slice (some ⟨gz, 0, none⟩) 2 2]) W) (hz : ∀ u ∈ s0, u.ownBlock ≠ some gz) (n : ByteArray) : Qp base bQ t ls (g0 ++ [⟨a, [⟨x.kind, n, x.value, x.label⟩, y], b⟩]) vL vF (s0 ++ [.slice (some ⟨gz, 0, none⟩) 2 2]) (W.setCell ⟨gz, 1, none⟩ (.string n)) := by
  have hl : g0.length = s0.length := by have := h.forms.len; simpa using this
  have hlast : W.ownsRow base 28 4 (.slice (some ⟨gz, 0, none⟩) 2 2) 2 (ic [x, y]) := by
    have h1 := h.forms.each s0.length (by simp)
    have e1 : (s0 ++ [Value.slice (some ⟨gz, 0, none⟩) 2 2])[s0.length]'(by simp) = .slice (some ⟨gz, 0, none⟩) 2 2 := by simp
    have e2 : (g0 ++ [(⟨a, [x, y], b⟩ : Frm)])[s0.length]'(by simp [hl]) = ⟨a, [x, y], b⟩ := by
      have : ∀ j (hj : j < (g0 ++ [(⟨a, [x, y], b⟩ : Frm)]).length), j = g0.length → (g0 ++ [(⟨a, [x, y], b⟩ : Frm)])[j] = ⟨a, [x, y], b⟩ := by intro j hj e; subst e; simp
      exact this _ _ hl.symm
    rw [e1, e2] at h1
    exact h1
  have hst := (hlast.stored 1 (.string n)).1
  have hzb : gz ≠ bQ := own_box hlast h.box (by decide) gz rfl
  have hzL := mm.rows_neT (show (28 : TypeId) ≠ 9 by decide) hlast h.lines gz rfl
  have hzF := mm.rows_neT (show (28 : TypeId) ≠ 31 by decide) hlast h.forms.row gz rfl
  refine ⟨(Below.heap_setCell _ _ _ _ (Ne.symm hzb)).trans h.box, own_setOff h.lines _ _ (fun m hm e => hzL (by rw [hm, e])), ?_⟩
  refine ownF_snoc hl ?_ (fun i hi => ?_) ?_
  · have hf := h.forms.row
    rw [fc_snoc _ _ g0 s0 hl] at hf
    have hf' := own_setOff hf ⟨gz, 1, none⟩ (.string n) (fun m hm e => hzF (by rw [hm, e]))
    rw [List.length_append] at hf'
    exact hf'
  · have h1 := h.forms.each i (by simp; omega)
    have e1 : (s0 ++ [Value.slice (some ⟨gz, 0, none⟩) 2 2])[i]'(by simp; omega) = s0[i] := List.getElem_append_left hi
    have e2 : (g0 ++ [(⟨a, [x, y], b⟩ : Frm)])[i]'(by simp; omega) = g0[i]'(by omega) := List.getElem_append_left (by omega)
    rw [e1, e2] at h1
    exact own_setOff h1 _ _ (fun m hm e => hz _ (List.getElem_mem hi) (by rw [hm, e]))
  · exact hst
end
theorem OwnF.mid {B0 B1 base : Nat} {w w' : World} {v : Value} {l : List Frm} {s : List Value} (h : OwnF base w v l s) (hm : Mid B0 B1 w w') (hb : B1 ≤ base) : OwnF base w' v l s :=
  ⟨h.len, mm.own_mid h.row hm hb, fun i hi => mm.own_mid (h.each i hi) hm hb⟩
/-- the forms that the law puts behind -/
abbrev bN : ByteArray := ⟨#[110]⟩
abbrev e0B : ByteArray := ⟨#[]⟩
theorem frmsW_app : ∀ (l m : List Frm), frmsW (l ++ m) = frmsW l + frmsW m
  | [], m => by show frmsW m = 0 + frmsW m; omega
  | x :: r, m => by
    have := frmsW_app r m
    show frmW x + frmsW (r ++ m) = frmW x + frmsW r + frmsW m
    omega
end Go.Proofs.YtjalggkhpnfbiaaDoor.pg
