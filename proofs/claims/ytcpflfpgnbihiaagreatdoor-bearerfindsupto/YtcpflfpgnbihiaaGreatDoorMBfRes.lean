import Derived.Test.YtcpflfpgnbihiaaGreatDoorMBfGet
import Derived.Test.YtcpflfpgnbihiaaGreatDoorMBfMath
namespace Go.Proofs.YtcpflfpgnbihiaaGreatDoor.gtn
open Go.Proofs.YtcpflfpgnbihiaaGreatDoor
open Go.Proofs.YtcpflfpgnbihiaaGreatDoor.lst (PB)

theorem getOf_nil (n : ByteArray) : getOf [] n = (emp, 0) := rfl
theorem fold_app (n : ByteArray) (l : List PB) : ∀ a : ByteArray × Nat, l.foldl (step n) a = if a.2 = 0 ∧ a.1 = emp then getOf l n else if a.2 = 0 then l.foldl (step n) a else (a.1, a.2 + (getOf l n).2) := by
  have key : ∀ (l : List PB) (a b : ByteArray × Nat), 0 < a.2 → (l.foldl (step n) (a.1, a.2 + b.2)) = (a.1, a.2 + (l.foldl (step n) b).2) := by
    intro l
    induction l with
    | nil => intro a b _; rfl
    | cons p r ih =>
      intro a b ha
      rw [List.foldl_cons, List.foldl_cons]
      by_cases h : p.1 = n ∧ p.2 ≠ emp
      · have e1 : step n (a.1, a.2 + b.2) p = (a.1, a.2 + (step n b p).2) := by
          unfold step
          rw [if_pos h, if_pos h, if_neg (by show ¬ a.2 + b.2 = 0; omega)]
          rfl
        rw [e1]; exact ih a _ ha
      · have e1 : step n (a.1, a.2 + b.2) p = (a.1, a.2 + (step n b p).2) := by
          unfold step
          rw [if_neg h, if_neg h]
        rw [e1]; exact ih a _ ha
  intro a
  by_cases h0 : a.2 = 0
  · by_cases h1 : a.1 = emp
    · rw [if_pos ⟨h0, h1⟩]
      obtain ⟨x, y⟩ := a
      simp only at h0 h1
      subst h0 h1
      rfl
    · rw [if_neg (fun h => h1 h.2), if_pos h0]
  · rw [if_neg (fun h => h0 h.1), if_neg h0]
    have := key l a (emp, 0) (by omega)
    exact this
theorem get_zero (l : List PB) (n : ByteArray) (h : (getOf l n).2 = 0) : (getOf l n).1 = emp := by
  have key : ∀ (l : List PB) (a : ByteArray × Nat), (a.2 = 0 → a.1 = emp) → (l.foldl (step n) a).2 = 0 → (l.foldl (step n) a).1 = emp := by
    intro l
    induction l with
    | nil => intro a h h0; exact h h0
    | cons p r ih =>
      intro a h h0
      rw [List.foldl_cons] at h0 ⊢
      refine ih _ ?_ h0
      unfold step
      by_cases hp : p.1 = n ∧ p.2 ≠ emp
      · rw [if_pos hp]; intro e; simp at e
      · rw [if_neg hp]; exact h
  exact key l _ (fun _ => rfl) h
theorem get_app (l m : List PB) (n : ByteArray) : getOf (l ++ m) n = if (getOf l n).2 = 0 then getOf m n else ((getOf l n).1, (getOf l n).2 + (getOf m n).2) := by
  have : getOf (l ++ m) n = m.foldl (step n) (getOf l n) := by unfold getOf; rw [List.foldl_append]
  rw [this, fold_app]
  by_cases h : (getOf l n).2 = 0
  · rw [if_pos ⟨h, get_zero l n h⟩, if_pos h]
  · rw [if_neg (fun x => h x.1), if_neg h, if_neg h]

/-- the parameter's name -/
def tn : ByteArray := ⟨#[97, 99, 99, 101, 115, 115, 95, 116, 111, 107, 101, 110]⟩
def cat (a b : ByteArray) : ByteArray := ⟨(a.data.toList ++ b.data.toList).toArray⟩
/-- what comes of what was shown: so many fields, so often shown, this text -/
def fin (fields count : Nat) (t : ByteArray) : ByteArray × Nat :=
  if 1 < fields ∨ 1 < count then (emp, 4) else if count = 0 then (emp, 12) else if Bf.isTk t.data.toList then (t, 0) else (emp, 2)
/-- the program's token and count -/
def shT (pq pf : List PB) (lk : ByteArray × Nat) : ByteArray × Nat :=
  if (Bf.shw lk.1.data.toList).2 then (⟨(Bf.shw lk.1.data.toList).1.toArray⟩, (getOf (pq ++ pf) tn).2 + 1) else getOf (pq ++ pf) tn
/-- what Find answers -/
def ans (pq pf : Option (List PB)) (lk : ByteArray × Nat) : ByteArray × Nat :=
  match pq, pf with
  | some a, some b => fin lk.2 (shT a b lk).2 (shT a b lk).1
  | _, _ => (emp, 2)
/-- the document's token and count -/
def shD (pq pf : List PB) (lk : ByteArray × Nat) : ByteArray × Nat :=
  if lk.2 = 1 ∧ (Bf.shw lk.1.data.toList).2 = true then (cat (cat (getOf pf tn).1 (getOf pq tn).1) ⟨(Bf.shw lk.1.data.toList).1.toArray⟩, (getOf pf tn).2 + (getOf pq tn).2 + 1)
  else (cat (getOf pf tn).1 (getOf pq tn).1, (getOf pf tn).2 + (getOf pq tn).2)
theorem ba_ext' {a b : ByteArray} (h : a.data.toList = b.data.toList) : a = b := by
  apply ByteArray.ext; apply Array.toList_inj.1; exact h
theorem cat_nil (a : ByteArray) : cat a emp = a := ba_ext' (by simp [cat])
theorem nil_cat (a : ByteArray) : cat emp a = a := ba_ext' (by simp [cat])
/-- both come to the same -/
theorem fin_same (pq pf : List PB) (lk : ByteArray × Nat) (h0 : lk.2 = 0 → lk.1 = emp) : fin lk.2 (shT pq pf lk).2 (shT pq pf lk).1 = fin lk.2 (shD pq pf lk).2 (shD pq pf lk).1 := by
  obtain ⟨v, f⟩ := lk
  unfold shT shD
  rw [get_app]
  have za := get_zero pq tn
  have zb := get_zero pf tn
  generalize getOf pq tn = A at *
  generalize getOf pf tn = B at *
  obtain ⟨a, i⟩ := A
  obtain ⟨b, j⟩ := B
  simp only at za zb h0 ⊢
  have hs0 : f = 0 → (Bf.shw v.data.toList).2 = false := by
    intro h
    rw [h0 h]
    show (Bf.shw []).2 = false
    rw [Bf.shw_nil]
  generalize Bf.shw v.data.toList = S at *
  obtain ⟨s, t⟩ := S
  simp only at hs0 ⊢
  by_cases h1 : 1 < f
  · unfold fin; rw [if_pos (Or.inl h1), if_pos (Or.inl h1)]
  · cases t with
    | false =>
      simp only [and_false, if_false, Bool.false_eq_true]
      rcases Nat.eq_zero_or_pos i with hi | hi
      · subst hi
        rw [if_pos rfl, za rfl, cat_nil, Nat.add_zero]
      · have c2 : ¬ i = 0 := by omega
        simp only [c2, if_false]
        rcases Nat.eq_zero_or_pos j with hj | hj
        · subst hj
          rw [zb rfl, nil_cat, Nat.zero_add, Nat.add_zero]
        · unfold fin
          rw [if_pos (Or.inr (by omega)), if_pos (Or.inr (by omega))]
    | true =>
      have hf : f = 1 := by
        rcases Nat.eq_zero_or_pos f with h | h
        · exact absurd (hs0 h) (by simp)
        · omega
      have e : (if i = 0 then (b, j) else (a, i + j)).2 = j + i := by
        by_cases h : i = 0
        · rw [if_pos h, h]; rfl
        · rw [if_neg h]; exact Nat.add_comm i j
      simp only [hf, if_true, and_self]
      rw [e]
      by_cases hz : j + i = 0
      · obtain rfl : i = 0 := by omega
        obtain rfl : j = 0 := by omega
        rw [za rfl, zb rfl, cat_nil, nil_cat]
      · unfold fin
        rw [if_pos (Or.inr (by omega)), if_pos (Or.inr (by omega))]

end Go.Proofs.YtcpflfpgnbihiaaGreatDoor.gtn
