import Derived.Test.YtidccfflpcgkiaaGreatDoorMRefScope9
import Derived.Laws.Cover1
import Derived.Sort.Walk0
import Derived.Test.YtidccfflpcgkiaaGreatDoorMStrBase
namespace Go.Proofs.YtidccfflpcgkiaaGreatDoor.tm
open Go.ChangeShapes Go.WideShapes Go.ChangeAt Go.RowKit Go.Proofs.YtidccfflpcgkiaaGreatDoor.common Go.Proofs.YtidccfflpcgkiaaGreatDoor.bk
open Go.Proofs.YtidccfflpcgkiaaGreatDoor.ss (sc Lies)
attribute [local go_sem ↓] Go.wp_at_zero Go.wp_at_succ

/-- which texts are above the last one -/
def above (last : ByteArray) (first : Bool) (x : ByteArray) : Bool := first || decide (last.data.toList < x.data.toList)
/-- what is known of the least: none is above, or it is one of them, and none of them is below it -/
structure Least (l : List ByteArray) (last : ByteArray) (first : Bool) (best : ByteArray) (found : Bool) : Prop where
  no : found = false → ∀ x ∈ l, above last first x = false
  mem : found = true → best ∈ l
  ab : found = true → above last first best = true
  low : found = true → ∀ x ∈ l, above last first x = true → ¬ x.data.toList < best.data.toList

theorem less_eq (a b : ByteArray) : Op.bytesLess a.toList b.toList = decide (a.data.toList < b.data.toList) := by
  rw [Go.Proofs.bytesLess_eq, ByteArray.toList_eq, ByteArray.toList_eq]
theorem gtr_eq (a b : ByteArray) : (Op.bytesLess a.toList b.toList || a.toList == b.toList) = !decide (b.data.toList < a.data.toList) := by
  rw [less_eq, ByteArray.toList_eq, ByteArray.toList_eq]
  by_cases h : b.data.toList < a.data.toList
  · rw [decide_eq_true h]
    have h1 : ¬ a.data.toList < b.data.toList := fun k => Tm.lt_irr _ (Tm.lt_tr h k)
    have h2 : a.data.toList ≠ b.data.toList := fun e => by rw [e] at h; exact Tm.lt_irr _ h
    rw [decide_eq_false h1, beq_false_of_ne h2]; rfl
  · rw [decide_eq_false h]
    by_cases e : a.data.toList = b.data.toList
    · simp [e]
    · have : a.data.toList < b.data.toList := Tm.lt_of (List.not_lt.1 h) e
      rw [decide_eq_true this]; rfl

theorem Least.take_no {l : List ByteArray} {last best : ByteArray} {first found : Bool} {k : Nat} (h : k < l.length) (H : Least (l.take k) last first best found) (hx : above last first l[k] = false ∨ (found = true ∧ ¬ l[k].data.toList < best.data.toList)) : Least (l.take (k + 1)) last first best found := by
  have ht := ss.takeS l k h
  refine ⟨fun hf x hx' => ?_, fun hf => ?_, H.ab, fun hf x hx' ha => ?_⟩
  · rw [ht] at hx'
    rcases List.mem_append.1 hx' with m | m
    · exact H.no hf x m
    · obtain rfl : x = l[k] := by simpa using m
      rcases hx with h1 | ⟨h1, _⟩
      · exact h1
      · rw [hf] at h1; cases h1
  · rw [ht]; exact List.mem_append_left _ (H.mem hf)
  · rw [ht] at hx'
    rcases List.mem_append.1 hx' with m | m
    · exact H.low hf x m ha
    · obtain rfl : x = l[k] := by simpa using m
      rcases hx with h1 | ⟨_, h1⟩
      · rw [ha] at h1; cases h1
      · exact h1
theorem Least.take_yes {l : List ByteArray} {last best : ByteArray} {first found : Bool} {k : Nat} (h : k < l.length) (H : Least (l.take k) last first best found) (ha : above last first l[k] = true) (hb : found = false ∨ l[k].data.toList < best.data.toList) : Least (l.take (k + 1)) last first l[k] true := by
  have ht := ss.takeS l k h
  refine ⟨fun hf => (by cases hf), fun _ => (by rw [ht]; exact List.mem_append_right _ (List.mem_singleton.2 rfl)), fun _ => ha, fun _ x hx' hax => ?_⟩
  rw [ht] at hx'
  rcases List.mem_append.1 hx' with m | m
  · cases found with
    | false => rw [H.no rfl x m] at hax; cases hax
    | true =>
      rcases hb with hb | hb
      · cases hb
      · intro hlt
        exact H.low rfl x m hax (Tm.lt_tr hlt hb)
  · obtain rfl : x = l[k] := by simpa using m
    exact Tm.lt_irr _

end Go.Proofs.YtidccfflpcgkiaaGreatDoor.tm

namespace Go.Proofs.YtidccfflpcgkiaaGreatDoor.ss
open Go.ChangeShapes Go.WideShapes Go.ChangeAt Go.RowKit Go.Proofs.YtidccfflpcgkiaaGreatDoor.common Go.Proofs.YtidccfflpcgkiaaGreatDoor.bk
attribute [local go_sem ↓] Go.wp_at_zero Go.wp_at_succ

/-- does x stand in l? -/
def has (x : ByteArray) (l : List ByteArray) : Bool := l.any fun y => y.data.toList == x.data.toList
theorem has_iff {x : ByteArray} {l : List ByteArray} : has x l = true ↔ x ∈ l := by
  unfold has
  rw [List.any_eq_true]
  constructor
  · rintro ⟨y, hy, e⟩
    have : y = x := ba_ext (by simpa using e)
    exact this ▸ hy
  · intro h; exact ⟨x, h, by simp⟩
theorem has_no {x : ByteArray} {l : List ByteArray} (h : ∀ y ∈ l, y ≠ x) : has x l = false := by
  cases e : has x l with
  | false => rfl
  | true => exact absurd rfl (h x (has_iff.1 e))
/-- is each of a among b? -/
def win (a b : List ByteArray) : Bool := a.all fun x => has x b
theorem win_iff {a b : List ByteArray} : win a b = true ↔ ∀ x ∈ a, x ∈ b := by
  unfold win
  rw [List.all_eq_true]
  exact ⟨fun h x hx => has_iff.1 (h x hx), fun h x hx => has_iff.2 (h x hx)⟩
theorem all_takeS (l : List ByteArray) (p : ByteArray → Bool) (k : Nat) (h : k < l.length) : (l.take (k + 1)).all p = ((l.take k).all p && p l[k]) := by
  rw [takeS l k h, List.all_append]; simp
theorem all_shortS (l : List ByteArray) (p : ByteArray → Bool) (k : Nat) (h : (l.take k).all p = false) : l.all p = false := by
  have e : l.all p = ((l.take k).all p && (l.drop k).all p) := by rw [← List.all_append, List.take_append_drop]
  rw [e, h]; rfl

theorem no_next {x : ByteArray} {l : List ByteArray} {k : Nat} (h : k < l.length) (h0 : ∀ y ∈ l.take k, y ≠ x) (hn : l[k] ≠ x) : ∀ y ∈ l.take (k + 1), y ≠ x := by
  rw [takeS l k h]
  intro y hy
  rcases List.mem_append.1 hy with hy | hy
  · exact h0 y hy
  · simp at hy; subst hy; exact hn

end Go.Proofs.YtidccfflpcgkiaaGreatDoor.ss

namespace Go.Proofs.YtidccfflpcgkiaaGreatDoor.tm
open Go.ChangeShapes Go.WideShapes Go.ChangeAt Go.RowKit Go.Proofs.YtidccfflpcgkiaaGreatDoor.common Go.Proofs.YtidccfflpcgkiaaGreatDoor.bk
open Go.Proofs.YtidccfflpcgkiaaGreatDoor.ss (sc Lies)
attribute [local go_sem ↓] Go.wp_at_zero Go.wp_at_succ

theorem least_next {l R : List ByteArray} (hR : R.Pairwise fun a b => a.data.toList < b.data.toList) (hm : ∀ x, x ∈ R ↔ x ∈ l) {i : Nat} (hi : i ≤ R.length) {last best : ByteArray} {first found : Bool} (hf : first = decide (i = 0)) (hl : ∀ (_ : i ≠ 0) (h : i - 1 < R.length), last = R[i - 1]) (H : Least l last first best found) :
    (found = false → i = R.length) ∧ (found = true → ∃ h : i < R.length, best = R[i]) := by
  have hab : ∀ j (h : j < R.length), i ≤ j → above last first R[j] = true := by
    intro j h hij
    unfold above
    rw [hf]
    by_cases h0 : i = 0
    · simp [h0]
    · have e := hl h0 (by omega)
      rw [decide_eq_false h0, Bool.false_or, e]
      exact decide_eq_true (List.pairwise_iff_getElem.1 hR (i - 1) j (by omega) h (by omega))
  constructor
  · intro hfo
    rcases Nat.lt_or_ge i R.length with h | h
    · have := H.no hfo R[i] ((hm _).1 (List.getElem_mem h))
      rw [hab i h (Nat.le_refl _)] at this; cases this
    · omega
  · intro hfo
    obtain ⟨j, hj, ej⟩ := List.mem_iff_getElem.1 ((hm best).2 (H.mem hfo))
    have hij : i ≤ j := by
      have h1 := H.ab hfo
      unfold above at h1
      rw [hf] at h1
      by_cases h0 : i = 0
      · omega
      · have e := hl h0 (by omega)
        rw [decide_eq_false h0, Bool.false_or, e, ← ej] at h1
        have h2 := of_decide_eq_true h1
        rcases Nat.lt_or_ge j i with hlt | hge
        · exfalso
          by_cases hje : j = i - 1
          · subst hje; exact Tm.lt_irr _ h2
          · exact Tm.lt_irr _ (Tm.lt_tr h2 (List.pairwise_iff_getElem.1 hR j (i - 1) hj (by omega) (by omega)))
        · exact hge
    refine ⟨by omega, ?_⟩
    have hlow := H.low hfo R[i] ((hm _).1 (List.getElem_mem (by omega))) (hab i (by omega) (Nat.le_refl _))
    rcases Nat.lt_or_ge i j with hlt | hge
    · exact absurd (by rw [← ej]; exact List.pairwise_iff_getElem.1 hR i j (by omega) hj hlt) hlow
    · have : i = j := by omega
      subst this; exact ej.symm

theorem own_mono {w : World} {b b' : Nat} {t : TypeId} {z : Nat} {v : Value} {n : Nat} {xs : List Value} (h : w.ownsRow b t z v n xs) (hb : b' ≤ b) : w.ownsRow b' t z v n xs := by
  refine ⟨h.1, ?_⟩
  rcases h.2 with hh | ⟨g, cap, cur, hv, hg, hr⟩
  · exact Or.inl hh
  · exact Or.inr ⟨g, cap, cur, hv, Nat.le_trans hb hg, hr⟩
/-- the number of the answer -/
def scN (s : ByteArray) : Int := if areSc s then (if many s then 3 else 0) else 2

end Go.Proofs.YtidccfflpcgkiaaGreatDoor.tm
