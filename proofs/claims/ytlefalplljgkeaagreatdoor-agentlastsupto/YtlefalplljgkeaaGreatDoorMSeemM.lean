import Derived.Test.YtlefalplljgkeaaGreatDoorMSetW2
import Derived.Test.YtlefalplljgkeaaGreatDoorMSetsLaw
import Derived.Test.YtlefalplljgkeaaGreatDoorMCkRd2
import Derived.Test.YtlefalplljgkeaaGreatDoorMNumM
import Derived.Lib.IndexMore
namespace Go.Proofs.YtlefalplljgkeaaGreatDoor.fd
open Go.Proofs.YtlefalplljgkeaaGreatDoor.common Go.Proofs.YtlefalplljgkeaaGreatDoor.bk

abbrev pathL : List UInt8 := [59, 32, 80, 97, 116, 104, 61, 47]
abbrev ageL : List UInt8 := [59, 32, 77, 97, 120, 45, 65, 103, 101, 61]
abbrev lastL : List UInt8 := [59, 32, 83, 101, 99, 117, 114, 101, 59, 32, 72, 116, 116, 112, 79, 110, 108, 121, 59, 32, 83, 97, 109, 101, 83, 105, 116, 101, 61, 76, 97, 120]
/-- the age that seems to be meant -/
def seemAge (l : List UInt8) : Int :=
  if (Lib.cut l ageL).2.2 = true then (match Lib.atoiAll (before 59 (Lib.cut l ageL).2.1) with | .ok v => v | _ => -1) else -1
def seemN (l : List UInt8) : List UInt8 := before 61 l
def seemV (l : List UInt8) : List UInt8 := before 59 (behind 61 l)
def seemA (l : List UInt8) : Int := seemAge (behind 59 (behind 61 l))
theorem seemAge_in (l : List UInt8) : inR (seemAge l) := by
  unfold seemAge inR
  split
  · cases h : Lib.atoiAll (before 59 (Lib.cut l ageL).2.1) with
    | ok v => exact Lib.atoiAll_bounds h
    | _ => exact ⟨by decide, by decide⟩
  · exact ⟨by decide, by decide⟩

/-- the text of a cookie with its age -/
def ageT (m : Int) : List UInt8 := if 0 ≤ m then ageL ++ Lib.itoa m else []
theorem set_list (n v : ByteArray) (m : Int) : (setB n v m).data.toList = n.data.toList ++ 61 :: (v.data.toList ++ 59 :: ([32, 80, 97, 116, 104, 61, 47] ++ (ageT m ++ lastL))) := by
  unfold setB ckB attrB ageT itoaB
  by_cases h : 0 ≤ m
  · rw [if_pos h, if_pos h]
    simp
  · rw [if_neg h, if_neg h]
    simp
theorem set_low (n v : ByteArray) (m : Int) (h : ¬ 0 ≤ m) : setB n v m = setB n v (-1) := by
  unfold setB attrB
  rw [if_neg h, if_neg (by decide)]
theorem cut_first {c : UInt8} {l r : List UInt8} (h : ∀ x ∈ l, x ≠ c) : before c (l ++ c :: r) = l ∧ behind c (l ++ c :: r) = r := by
  have hp : ∀ x ∈ l, decide (x ≠ c) = true := fun x hx => decide_eq_true (h x hx)
  refine ⟨?_, ?_⟩
  · unfold before
    rw [List.takeWhile_append_of_pos hp, List.takeWhile_cons_of_neg (by simp), List.append_nil]
  · unfold behind
    rw [List.dropWhile_append_of_pos hp, List.dropWhile_cons_of_neg (by simp)]
    rfl
theorem itoa_nat (m : Int) (h : 0 ≤ m) : Lib.itoa m = Lib.decDigits m.toNat := by
  unfold Lib.itoa; rw [if_neg (by omega)]
theorem dig_ne (u : Nat) : ∀ c ∈ Lib.decDigits u, c ≠ 59 := by
  intro c hc e
  have := Num.digits_are u u (Nat.le_refl _) c hc
  subst e
  exact absurd this (by decide)
theorem isPrefixOf_self (l r : List UInt8) : l.isPrefixOf (l ++ r) = true := by
  rw [List.isPrefixOf_iff_prefix]; exact List.prefix_append _ _
theorem age_yes (D : List UInt8) : Lib.cut ([32, 80, 97, 116, 104, 61, 47] ++ (ageL ++ D)) ageL = ([32, 80, 97, 116, 104, 61, 47], D, true) := by
  have hi : Lib.index ([32, 80, 97, 116, 104, 61, 47] ++ (ageL ++ D)) ageL = (7 : Nat) := by
    refine Lib.index_first (by simp) ?_ ?_
    · unfold Lib.occAt
      show ageL.isPrefixOf (ageL ++ D) = true
      exact isPrefixOf_self _ _
    · intro j hj
      match j, hj with
      | 0, _ => rfl
      | 1, _ => rfl
      | 2, _ => rfl
      | 3, _ => rfl
      | 4, _ => rfl
      | 5, _ => rfl
      | 6, _ => rfl
  unfold Lib.cut
  rw [hi, if_pos (by decide)]
  rfl
theorem age_no : (Lib.cut ([32, 80, 97, 116, 104, 61, 47] ++ lastL) ageL).2.2 = false := by kernel_rfl
theorem seemAge_set (m : Int) (hm : m = -1 ∨ 0 ≤ m ∧ m ≤ 9223372036854775807) : seemAge ([32, 80, 97, 116, 104, 61, 47] ++ (ageT m ++ lastL)) = m := by
  unfold seemAge ageT
  rcases hm with rfl | ⟨h0, h1⟩
  · rw [if_neg (by decide : ¬ (0 : Int) ≤ -1), List.nil_append, age_no]
    rfl
  · rw [if_pos h0, List.append_assoc, age_yes]
    have hb : before 59 (Lib.itoa m ++ lastL) = Lib.itoa m := (cut_first (c := 59) (r := lastL.tail) (by rw [itoa_nat m h0]; exact dig_ne _)).1
    simp only [if_pos]
    rw [hb, Num.atoi_itoa m ⟨by omega, h1⟩]
theorem ck_bytes {n v : ByteArray} (h : isCk n v = true) : (∀ x ∈ n.data.toList, x ≠ 61 ∧ x ≠ 59) ∧ (∀ x ∈ v.data.toList, x ≠ 59) := by
  unfold isCk Fd.token at h
  rw [Bool.and_eq_true, Bool.and_eq_true] at h
  obtain ⟨⟨_, h2⟩, h3⟩ := h
  refine ⟨fun c hc => ?_, fun c hc => ?_⟩
  · have := of_decide_eq_true (List.all_eq_true.1 h2 c hc)
    constructor
    · rintro rfl; revert this; decide
    · rintro rfl; revert this; decide
  · have := of_decide_eq_true (List.all_eq_true.1 h3 c hc)
    rintro rfl; revert this; decide
/-- what seems to be meant is what was meant -/
theorem seem_set (n v : ByteArray) (m : Int) (h : isCk n v = true) (hm : m = -1 ∨ 0 ≤ m ∧ m ≤ 9223372036854775807) :
    seemN (setB n v m).data.toList = n.data.toList ∧ seemV (setB n v m).data.toList = v.data.toList ∧ seemA (setB n v m).data.toList = m := by
  obtain ⟨h1, h2⟩ := ck_bytes h
  obtain ⟨e1, e2⟩ := cut_first (c := 61) (r := v.data.toList ++ 59 :: ([32, 80, 97, 116, 104, 61, 47] ++ (ageT m ++ lastL))) (fun x hx => (h1 x hx).1)
  obtain ⟨e3, e4⟩ := cut_first (c := 59) (r := [32, 80, 97, 116, 104, 61, 47] ++ (ageT m ++ lastL)) h2
  rw [set_list]
  refine ⟨e1, ?_, ?_⟩
  · unfold seemV; rw [e2, e3]
  · unfold seemA; rw [e2, e4, seemAge_set m hm]

/-- a text that is a cookie's -/
def Good (l : List UInt8) (n v : ByteArray) (m : Int) : Prop := isCk n v = true ∧ (m = -1 ∨ 0 ≤ m ∧ m ≤ 9223372036854775807) ∧ (setB n v m).data.toList = l
theorem good_eq {l : List UInt8} {n v n' v' : ByteArray} {m m' : Int} (h : Good l n v m) (h' : Good l n' v' m') : n = n' ∧ v = v' ∧ m = m' := by
  obtain ⟨a1, a2, a3⟩ := seem_set n v m h.1 h.2.1
  obtain ⟨b1, b2, b3⟩ := seem_set n' v' m' h'.1 h'.2.1
  rw [h.2.2] at a1 a2 a3
  rw [h'.2.2] at b1 b2 b3
  exact ⟨ba_ext (a1.symm.trans b1), ba_ext (a2.symm.trans b2), a3.symm.trans b3⟩
/-- the guess holds just where the text is a cookie's -/
theorem seem_good (l : List UInt8) (hc : isCk ⟨(seemN l).toArray⟩ ⟨(seemV l).toArray⟩ = true) (he : (setB ⟨(seemN l).toArray⟩ ⟨(seemV l).toArray⟩ (seemA l)).data.toList = l) : Good l ⟨(seemN l).toArray⟩ ⟨(seemV l).toArray⟩ (seemA l) := by
  refine ⟨hc, ?_, he⟩
  have hin : inR (seemA l) := seemAge_in _
  by_cases h0 : 0 ≤ seemA l
  · exact Or.inr ⟨h0, hin.2⟩
  · left
    rw [set_low _ _ _ h0] at he
    have := (seem_set ⟨(seemN l).toArray⟩ ⟨(seemV l).toArray⟩ (-1) hc (Or.inl rfl)).2.2
    rw [he] at this
    exact this
theorem seem_bad (l : List UInt8) (h : ¬ (isCk ⟨(seemN l).toArray⟩ ⟨(seemV l).toArray⟩ = true ∧ (setB ⟨(seemN l).toArray⟩ ⟨(seemV l).toArray⟩ (seemA l)).data.toList = l)) : ∀ n v m, ¬ Good l n v m := by
  rintro n v m ⟨g1, g2, g3⟩
  obtain ⟨a1, a2, a3⟩ := seem_set n v m g1 g2
  rw [g3] at a1 a2 a3
  apply h
  rw [a1, a2, a3]
  exact ⟨g1, g3⟩

end Go.Proofs.YtlefalplljgkeaaGreatDoor.fd
