import Derived.Test.YtlbhiefamnpphaaDoorRcQuiet
import Derived.StillTail
namespace Go.Proofs.YtlbhiefamnpphaaDoor.hq
open Go.ChangeShapes Go.WideShapes Go.ChangeAt Go.RowKit Go.Proofs.YtlbhiefamnpphaaDoor.common

/-- more fuel does no harm -/
theorem wpAny_more {P : Program} {md : Region.Mode} {ops : Array Oper} {Q : Exit → Act → World → Prop} {listed : Array Bool} {a : Act} {w : World} : ∀ {f : Nat}, wpAny P md ops Q f listed a w → ∀ g, f ≤ g → wpAny P md ops Q g listed a w := by
  intro f
  induction f generalizing listed a w with
  | zero =>
    intro h g _
    exact wpAny_done h.1 h.2 g
  | succ f ih =>
    intro h g hg
    obtain ⟨g, rfl⟩ : ∃ g', g = g' + 1 := ⟨g - 1, by omega⟩
    exact ⟨h.1, fun i hi => wpOp_mono (fun a' w' h' => ih h' g (by omega)) (h.2 i hi)⟩
/-- what has come up of the head, nothing of the tail -/
abbrev full (L : Array Bool) (t : Nat) : Array Bool := L ++ Array.replicate t false
theorem full_lt {L : Array Bool} {t j : Nat} (d : Bool) (h : j < L.size) : (full L t).getD j d = L.getD j d := by
  simp [full, Array.getD_eq_getD_getElem?, Array.getElem?_append_left h]
theorem full_ge {L : Array Bool} {t j : Nat} (h : L.size ≤ j) : (full L t).getD j false = false := by
  simp only [full, Array.getD_eq_getD_getElem?, Array.getElem?_append_right h]
  rcases Nat.lt_or_ge (j - L.size) t with k | k
  · simp [k]
  · rw [Array.getElem?_eq_none (by simpa using k)]; rfl
theorem full_set {L : Array Bool} {t i : Nat} (h : i < L.size) : (full L t).setIfInBounds i true = full (L.setIfInBounds i true) t := by
  unfold full
  rw [Array.setIfInBounds_append_left h]
/-- what an operation waits for has come up too -/
def Closed (md : Region.Mode) (pre : Array Oper) (L : Array Bool) : Prop := ∀ j o, pre[j]? = some o → L.getD j false = true → ∀ e ∈ o.after, Region.binds md e = true → L.getD e.on false = true
def AllT (L : Array Bool) : Prop := ∀ j, j < L.size → L.getD j false = true
def sinkB (md : Region.Mode) (pre : Array Oper) (n : Nat) : Bool := (List.range n).all fun i => decide (i + 1 = n) || (List.range n).any fun j => decide (i < j) && Region.waitsFor md pre j i
def tailB (md : Region.Mode) (ops : Array Oper) (n t : Nat) : Bool := (List.range t).all fun k => Region.waitsFor md ops (n + k) (n - 1) || (List.range t).any fun k' => Region.waitsFor md ops (n + k) (n + k')
def backB (md : Region.Mode) (pre : Array Oper) : Bool := (List.range pre.size).all fun j => match pre[j]? with | some o => o.guard.isNone && o.after.all fun e => !Region.binds md e || decide (e.on < j) | none => true
theorem closed_set {md : Region.Mode} {pre : Array Oper} {L : Array Bool} {i : Nat} (h : Closed md pre L) (hi : i ∈ Region.ready md pre L) : Closed md pre (L.setIfInBounds i true) := by
  obtain ⟨_, oi, hoi, hall⟩ := mem_ready.1 hi
  intro j o hj hl e he hb
  by_cases hij : i = j
  · subst hij
    have : o = oi := Option.some.inj (hj.symm.trans hoi)
    subst this
    exact getD_set_true (hall e he hb)
  · rw [getD_set_ne false hij] at hl
    exact getD_set_true (h j o hj hl e he hb)
theorem all_of_last {md : Region.Mode} {pre : Array Oper} {L : Array Bool} {n : Nat} (hs : sinkB md pre n = true) (hn : L.size = n) (hc : Closed md pre L) (hl : L.getD (n - 1) false = true) : AllT L := by
  have key : ∀ k j, j < n → n - j ≤ k → L.getD j false = true := by
    intro k
    induction k with
    | zero => intro j hj hk; omega
    | succ k ih =>
      intro j hj hk
      have h1 := List.all_eq_true.1 hs j (List.mem_range.2 hj)
      simp only [Bool.or_eq_true, decide_eq_true_eq] at h1
      rcases h1 with h1 | h1
      · rw [show j = n - 1 by omega]; exact hl
      · obtain ⟨j', hj', h2⟩ := List.any_eq_true.1 h1
        simp only [Bool.and_eq_true, decide_eq_true_eq] at h2
        have hj2 := List.mem_range.1 hj'
        obtain ⟨oj, hoj, e, he, hb, heq⟩ := Region.waitsFor_spec h2.2
        have := hc j' oj hoj (ih j' hj2 (by omega)) e he hb
        rwa [heq] at this
  intro j hj
  exact key n j (by omega) (by omega)
theorem all_of_idle {md : Region.Mode} {pre : Array Oper} {L : Array Bool} (hb : backB md pre = true) (hn : L.size = pre.size) (hr : Region.ready md pre L = []) : AllT L := by
  have key : ∀ k j, j ≤ k → j < pre.size → L.getD j false = true := by
    intro k
    induction k with
    | zero => ?_
    | succ k ih => ?_
    all_goals
      intro j hj hjs
      cases hL : L.getD j false with
      | true => rfl
      | false =>
        exfalso
        have hmem : j ∈ Region.ready md pre L := by
          refine mem_ready.2 ⟨getD_in (by omega) hL, pre[j], Array.getElem?_eq_getElem hjs, fun e he hbi => ?_⟩
          have h1 := List.all_eq_true.1 hb j (List.mem_range.2 hjs)
          rw [Array.getElem?_eq_getElem hjs] at h1
          simp only [Bool.and_eq_true] at h1
          have h2 := Array.all_eq_true_iff_forall_mem.1 h1.2 e he
          simp only [hbi, Bool.not_true, Bool.false_or, decide_eq_true_eq] at h2
          first
            | omega
            | exact ih e.on (by omega) (by omega)
        rw [hr] at hmem
        cases hmem
  intro j hj
  exact key j j (Nat.le_refl _) (by omega)
theorem ready_down {md : Region.Mode} {ops : Array Oper} {pre : Array Oper} {L : Array Bool} {t j : Nat} (hpre : ∀ i, i < L.size → pre[i]? = ops[i]?) (hj : j ∈ Region.ready md ops (full L t)) (hjn : j < L.size) : j ∈ Region.ready md pre L := by
  obtain ⟨h0, o, ho, hall⟩ := mem_ready.1 hj
  rw [full_lt true hjn] at h0
  refine mem_ready.2 ⟨h0, o, (hpre j hjn).trans ho, fun e he hb => ?_⟩
  have h1 := hall e he hb
  rcases Nat.lt_or_ge e.on L.size with k | k
  · rwa [full_lt false k] at h1
  · rw [full_ge k] at h1; cases h1
theorem ready_up {md : Region.Mode} {ops : Array Oper} {pre : Array Oper} {L : Array Bool} {t j : Nat} (hpre : ∀ i, i < L.size → pre[i]? = ops[i]?) (hj : j ∈ Region.ready md pre L) (hjn : j < L.size) : j ∈ Region.ready md ops (full L t) := by
  obtain ⟨h0, o, ho, hall⟩ := mem_ready.1 hj
  refine mem_ready.2 ⟨by rw [full_lt true hjn]; exact h0, o, (hpre j hjn).symm.trans ho, fun e he hb => ?_⟩
  have h1 := hall e he hb
  rcases Nat.lt_or_ge e.on L.size with k | k
  · rw [full_lt false k]; exact h1
  · have : L.getD e.on false = false := by simp [Array.getElem?_eq_none k]
    rw [this] at h1; cases h1
theorem ready_tail {md : Region.Mode} {ops : Array Oper} {pre : Array Oper} {L : Array Bool} {n t j : Nat} (hn : L.size = n) (ht : tailB md ops n t = true) (hsz : ops.size = n + t) (hs : sinkB md pre n = true) (hc : Closed md pre L) (hj : j ∈ Region.ready md ops (full L t)) (hjn : n ≤ j) : AllT L := by
  obtain ⟨_, o, ho, hall⟩ := mem_ready.1 hj
  have hjs : j < ops.size := (Array.getElem?_eq_some_iff.1 ho).1
  have h1 := List.all_eq_true.1 ht (j - n) (List.mem_range.2 (by omega))
  rw [show n + (j - n) = j by omega] at h1
  simp only [Bool.or_eq_true] at h1
  rcases h1 with h1 | h1
  · obtain ⟨oj, hoj, e, he, hb, heq⟩ := Region.waitsFor_spec h1
    have : oj = o := Option.some.inj (hoj.symm.trans ho)
    subst this
    have h2 := hall e he hb
    rw [heq] at h2
    rcases Nat.lt_or_ge (n - 1) L.size with k | k
    · rw [full_lt false k] at h2
      exact all_of_last hs hn hc h2
    · intro i hi; omega
  · obtain ⟨k', hk', h2⟩ := List.any_eq_true.1 h1
    obtain ⟨oj, hoj, e, he, hb, heq⟩ := Region.waitsFor_spec h2
    have : oj = o := Option.some.inj (hoj.symm.trans ho)
    subst this
    have h3 := hall e he hb
    rw [heq, full_ge (by omega)] at h3
    cases h3
theorem qOp_pre {P : Program} {ops : Array Oper} {pre : Array Oper} {C : World → Prop} {i : Nat} {o : Oper} {K : Act → Prop} {a : Act} (h1 : pre[i]? = some o) (h2 : ops[i]? = some o) (hg : o.guard = none) (h : qOp P pre C i K a) : qOp P ops C i K a := by
  unfold qOp at *
  simp only [h1] at h
  simp only [h2]
  have hw : ∀ y, Region.wanted o y = true := fun y => by simp [Region.wanted, hg]
  simp only [hw, if_true] at *
  exact h
/-- a region whose head is quiet: then its tail -/
theorem wpAny_head {P : Program} {md : Region.Mode} {ops : Array Oper} {pre : Array Oper} {C : World → Prop} {Q : Exit → Act → World → Prop} {n t : Nat} {Qa : Act → Prop} (hpre : ∀ i, i < n → pre[i]? = ops[i]?) (hps : pre.size = n) (hos : ops.size = n + t) (hb : backB md pre = true) (hs : sinkB md pre n = true) (ht : tailB md ops n t = true)
    (hT : ∀ a w, C w → Qa a → wpAny P md ops Q t (full (Array.replicate n true) t) a w) :
    ∀ (fuel : Nat) (L : Array Bool) (a : Act) (w : World), C w → L.size = n → Closed md pre L → wpAnyQ P md pre C Qa fuel L a → wpAny P md ops Q (fuel + t) (full L t) a w := by
  have hall : ∀ L : Array Bool, L.size = n → AllT L → L = Array.replicate n true := fun L hL hA => by
    apply Array.ext
    · simpa using hL
    · intro i hi _
      have := hA i hi
      simp [hi] at this
      simpa using this
  intro fuel
  induction fuel with
  | zero =>
    intro L a w hC hL hcl h
    have hA := all_of_idle hb (hL.trans hps.symm) h.1
    rw [hall L hL hA, Nat.zero_add]
    exact hT a w hC h.2
  | succ fuel ih =>
    intro L a w hC hL hcl h
    by_cases hA : AllT L
    · have hr : Region.ready md pre L = [] := by
        apply List.eq_nil_iff_forall_not_mem.2
        intro j hj
        obtain ⟨h0, o, ho, _⟩ := mem_ready.1 hj
        have hjs : j < L.size := by rw [hL, ← hps]; exact (Array.getElem?_eq_some_iff.1 ho).1
        have := hA j hjs
        simp [hjs] at this h0
        rw [this] at h0; cases h0
      have := hT a w hC (h.1 hr)
      rw [hall L hL hA]
      exact wpAny_more this _ (by omega)
    · rw [show fuel + 1 + t = (fuel + t) + 1 by omega]
      refine ⟨fun h0 => absurd (all_of_idle hb (hL.trans hps.symm) ?_) hA, fun i hi => ?_⟩
      · apply List.eq_nil_iff_forall_not_mem.2
        intro j hj
        have hjs : j < L.size := by
          obtain ⟨_, o, ho, _⟩ := mem_ready.1 hj
          rw [hL, ← hps]; exact (Array.getElem?_eq_some_iff.1 ho).1
        have := ready_up (t := t) (fun i hi => hpre i (by omega)) hj hjs
        rw [h0] at this; cases this
      · rcases Nat.lt_or_ge i n with hin | hin
        · have hi2 := ready_down (pre := pre) (fun i hi => hpre i (by omega)) hi (by omega)
          obtain ⟨_, o, ho, _⟩ := mem_ready.1 hi2
          have hg : o.guard = none := by
            have h1 := List.all_eq_true.1 hb i (List.mem_range.2 (by omega))
            rw [ho] at h1
            simp only [Bool.and_eq_true, Option.isNone_iff_eq_none] at h1
            exact h1.1
          have h2 := qOp_pre ho ((hpre i hin).symm.trans ho) hg (h.2 i hi2)
          rw [full_set (by omega)]
          exact wpOp_of_qOp hC (fun a' w' hC' hK => ih _ a' w' hC' (by simpa using hL) (closed_set hcl hi2) hK) h2
        · exact absurd (ready_tail hL ht hos hs hcl hi hin) hA
/-- the region's own words -/
theorem wp_region_head {P : Program} {Q : Exit → Act → World → Prop} {id : Nat} {a : Act} {w : World} {l r : List Oper} (f : World → World) (hm : P.follows .mixedOrders = true) (hB : Region.lexB .any l.toArray = true) (hb : backB .any l.toArray = true) (hs : sinkB .any l.toArray l.length = true) (ht : tailB .any (l ++ r).toArray l.length r.length = true) (w0 : World) (h0 : w.drew = f w0)
    (h : wpQuiet P l.toArray (fun w' => ∃ n, w' = f n) (fun a' => ∀ w', (∃ n, w' = f n) → wpAny P .any (l ++ r).toArray Q r.length (full (Array.replicate l.length true) r.length) a' w') l a) : (Code.region id (l ++ r).toArray true).wp P Q a w := by
  have hB' := hB
  simp only [Region.lexB, Bool.and_eq_true] at hB'
  have h1 := wpAnyQ_lex (C := fun w' => ∃ n, w' = f n) (md := .any) hB'.1 l 0 (Array.replicate l.toArray.size false) a (by simp) (by simpa using hB'.2) h
  refine wp_region_any hm ?_
  have h2 := wpAny_head (P := P) (md := .any) (Q := Q) (ops := (l ++ r).toArray) (pre := l.toArray) (n := l.length) (t := r.length) (C := fun w' => ∃ n, w' = f n) (Qa := fun a' => ∀ w', (∃ n, w' = f n) → wpAny P .any (l ++ r).toArray Q r.length (full (Array.replicate l.length true) r.length) a' w') (fun i hi => by simp [List.getElem?_append_left hi, hi]) (by simp) (by simp) hb hs ht (fun a w hC hq => hq w hC) l.length (Array.replicate l.length false) a w.drew ⟨w0, h0⟩ (by simp) (fun j o _ hl => by rw [getD_replicate_false] at hl; cases hl) (by simpa using h1)
  have e1 : (l ++ r).toArray.size = l.length + r.length := by simp
  have e2 : Array.replicate (l ++ r).toArray.size false = full (Array.replicate l.length false) r.length := by
    rw [e1]; unfold full; simp
  rw [e1, ← e1, e2, e1]
  exact h2
theorem wp_region_headn {P : Program} {Q : Exit → Act → World → Prop} (n : Nat) {id : Nat} {a : Act} {w : World} {l : List Oper} (f : World → World) (hm : P.follows .mixedOrders = true) (hB : Region.lexB .any (l.take n).toArray = true) (hb : backB .any (l.take n).toArray = true) (hs : sinkB .any (l.take n).toArray (l.take n).length = true) (ht : tailB .any l.toArray (l.take n).length (l.drop n).length = true) (w0 : World) (h0 : w.drew = f w0)
    (h : wpQuiet P (l.take n).toArray (fun w' => ∃ n, w' = f n) (fun a' => ∀ w', (∃ n, w' = f n) → wpAny P .any l.toArray Q (l.drop n).length (full (Array.replicate (l.take n).length true) (l.drop n).length) a' w') (l.take n) a) : (Code.region id l.toArray true).wp P Q a w := by
  have e := List.take_append_drop n l
  have k := wp_region_head (P := P) (Q := Q) (id := id) (a := a) (w := w) (l := l.take n) (r := l.drop n) f hm hB hb hs (by rw [e]; exact ht) w0 h0 (by rw [e]; exact h)
  rwa [e] at k
end Go.Proofs.YtlbhiefamnpphaaDoor.hq
