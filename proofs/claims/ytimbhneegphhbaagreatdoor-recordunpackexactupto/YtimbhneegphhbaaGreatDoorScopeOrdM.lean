import Derived.Test.YtimbhneegphhbaaGreatDoorTmSeq
import Derived.Lib.SlicesCompact
import Derived.Test.YtimbhneegphhbaaGreatDoorStrBase
import Derived.OpenShut
import Derived.Deep.DeepHandedRow
import Derived.Test.YtimbhneegphhbaaGreatDoorTermLays
import Derived.Shelf.Strings.OnBuilder
import Derived.Test.YtimbhneegphhbaaGreatDoorTmByte
namespace Go.Proofs.YtimbhneegphhbaaGreatDoor.Tm

abbrev By := List UInt8

theorem lt_irr (x : By) : ¬ x < x := List.lt_irrefl x
theorem lt_tr {x y z : By} (h : x < y) (k : y < z) : x < z := List.lt_trans h k
theorem lt_of {x y : By} (h : x ≤ y) (k : x ≠ y) : x < y := by
  rcases Decidable.em (x < y) with h1 | h1
  · exact h1
  · exact absurd (List.le_antisymm h (List.not_lt.1 h1)) k
theorem le_lt {x y z : By} (h : x ≤ y) (k : y < z) : x < z := by
  rcases Decidable.em (x = y) with e | e
  · exact e ▸ k
  · exact lt_tr (lt_of h e) k

theorem upTo_inv (zs : List By) (hs : zs.Pairwise (· ≤ ·)) : ∀ m, m ≤ zs.length →
    (Lib.compactUpTo zs.toArray m).Pairwise (· < ·) ∧ (∀ x, x ∈ Lib.compactUpTo zs.toArray m ↔ x ∈ zs.take m) := by
  intro m
  induction m with
  | zero => intro _; exact ⟨by simp [Lib.compactUpTo], fun x => by simp [Lib.compactUpTo]⟩
  | succ m ih =>
    intro hm
    obtain ⟨h1, h2⟩ := ih (by omega)
    have hml : m < zs.length := by omega
    have hd : zs.toArray[m]! = zs[m] := by simp [hml]
    have ht : zs.take (m + 1) = zs.take m ++ [zs[m]] := List.take_succ_eq_append_getElem hml
    rw [Lib.compactUpTo_succ, hd, ht]
    have hle : ∀ x ∈ zs.take m, x ≤ zs[m] := by
      intro x hx
      obtain ⟨i, hi, rfl⟩ := List.mem_iff_getElem.1 hx
      rw [List.length_take] at hi
      rw [List.getElem_take]
      exact List.pairwise_iff_getElem.1 hs i m (by omega) hml (by omega)
    cases hk : Lib.keeps zs.toArray m with
    | true =>
      refine ⟨?_, fun x => ?_⟩
      · simp only [if_true]
        rw [List.pairwise_append]
        refine ⟨h1, List.pairwise_singleton _ _, fun x hx y hy => ?_⟩
        obtain rfl : y = zs[m] := by simpa using hy
        have hx' := (h2 x).1 hx
        by_cases h0 : m = 0
        · subst h0; simp at hx'
        · have hm1 : m - 1 < zs.length := by omega
          have hne : zs[m - 1] ≠ zs[m] := by
            unfold Lib.keeps at hk
            simp [h0] at hk
            have e1 : zs.toArray[m - 1]! = zs[m - 1] := by simp [hm1]
            have e2 : zs.toArray[m]! = zs[m] := hd
            intro e
            first
              | exact hk (by rw [e])
              | exact hk (by simp [hm1, hml, e])
              | (rw [e2, e1] at hk; exact hk e.symm)
              | (rw [e1, e2] at hk; exact hk e)
              | exact hk e.symm
              | exact hk e
          have h3 : x ≤ zs[m - 1] := by
            obtain ⟨i, hi, rfl⟩ := List.mem_iff_getElem.1 hx'
            rw [List.length_take] at hi
            rw [List.getElem_take]
            by_cases e : i = m - 1
            · subst e; exact List.le_refl _
            · exact List.pairwise_iff_getElem.1 hs i (m - 1) (by omega) hm1 (by omega)
          exact le_lt h3 (lt_of (List.pairwise_iff_getElem.1 hs (m - 1) m hm1 hml (by omega)) hne)
      · simp only [if_true, List.mem_append, h2]
    | false =>
      have h0 : m ≠ 0 := by
        intro e; subst e
        rw [Lib.keeps_lt_one _ 0 (by decide)] at hk; cases hk
      have hm1 : m - 1 < zs.length := by omega
      have he : zs[m - 1] = zs[m] := by
        unfold Lib.keeps at hk
        simp [h0] at hk
        have e1 : zs.toArray[m - 1]! = zs[m - 1] := by simp [hm1]
        have e2 : zs.toArray[m]! = zs[m] := hd
        first
          | exact hk
          | exact hk.symm
          | (simp [hm1, hml] at hk; exact hk)
          | (simp [hm1, hml] at hk; exact hk.symm)
      refine ⟨by simpa using h1, fun x => ?_⟩
      simp only [Bool.false_eq_true, if_false, List.append_nil, h2, List.mem_append, List.mem_singleton]
      constructor
      · exact Or.inl
      · rintro (h | rfl)
        · exact h
        · rw [← he]
          exact List.mem_iff_getElem.2 ⟨m - 1, by rw [List.length_take]; omega, by rw [List.getElem_take]⟩

def sorted (ss : List By) : List By := ss.mergeSort fun x y => decide (x ≤ y)
theorem sorted_pw (ss : List By) : (sorted ss).Pairwise (· ≤ ·) := by
  have h := List.pairwise_mergeSort (le := fun x y : By => decide (x ≤ y)) (fun a b c h1 h2 => by
    simp only [decide_eq_true_eq] at *
    exact List.le_trans h1 h2) (fun a b => by
    simp only [Bool.or_eq_true, decide_eq_true_eq]
    exact List.le_total a b) ss
  exact h.imp fun hh => by simpa using hh
theorem rise_spec (ss : List By) : (Lib.compact (ss.mergeSort fun x y => decide (x ≤ y))).Pairwise (· < ·) ∧ ∀ x, x ∈ Lib.compact (ss.mergeSort fun x y => decide (x ≤ y)) ↔ x ∈ ss := by
  have h := upTo_inv (sorted ss) (sorted_pw ss) (sorted ss).length (Nat.le_refl _)
  refine ⟨h.1, fun x => (h.2 x).trans ?_⟩
  rw [List.take_length]
  exact List.mem_mergeSort
theorem split_cons (c x : UInt8) (r : By) : split c (x :: r) = if x = c then [] :: split c r else match split c r with
    | h :: t => (x :: h) :: t
    | [] => [[x]] := rfl
end Go.Proofs.YtimbhneegphhbaaGreatDoor.Tm

namespace Go.Proofs.YtimbhneegphhbaaGreatDoor.ss
open Go.ChangeShapes Go.WideShapes Go.ChangeAt Go.RowKit Go.Joins Go.Proofs.YtimbhneegphhbaaGreatDoor.common Go.Proofs.YtimbhneegphhbaaGreatDoor.bk
open Go.WideMaps Go.WideElems

/-- all the bytes of texts, and one for each -/
def tot (l : List ByteArray) : Nat := (l.map fun x => x.size + 1).sum

end Go.Proofs.YtimbhneegphhbaaGreatDoor.ss

namespace Go.Proofs.YtimbhneegphhbaaGreatDoor.ss
open Go.ChangeShapes Go.WideShapes Go.ChangeAt Go.RowKit Go.Proofs.YtimbhneegphhbaaGreatDoor.common Go.Proofs.YtimbhneegphhbaaGreatDoor.bk
attribute [local go_sem ↓] Go.wp_at_zero Go.wp_at_succ

/-- texts with a blank between each two -/
def joinS (l : List ByteArray) : List UInt8 := Lib.join (l.map (·.data.toList)) [32]
end Go.Proofs.YtimbhneegphhbaaGreatDoor.ss

namespace Go.Proofs.YtimbhneegphhbaaGreatDoor.ss
open Go.ChangeShapes Go.WideShapes Go.ChangeAt Go.RowKit Go.Joins Go.Proofs.YtimbhneegphhbaaGreatDoor.common Go.Proofs.YtimbhneegphhbaaGreatDoor.bk
attribute [local go_sem ↓] Go.wp_at_zero Go.wp_at_succ

end Go.Proofs.YtimbhneegphhbaaGreatDoor.ss

namespace Go.Proofs.YtimbhneegphhbaaGreatDoor.tm
open Go.RowKit Go.Proofs.YtimbhneegphhbaaGreatDoor.common Go.Proofs.YtimbhneegphhbaaGreatDoor.bk
open Go.Proofs.YtimbhneegphhbaaGreatDoor.ss (joinS tot)

end Go.Proofs.YtimbhneegphhbaaGreatDoor.tm
