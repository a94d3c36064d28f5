import Derived.Test.YthhkhpgffamdhaaDoorSeemM
import Derived.Test.YthhkhpgffamdhaaDoorRefLow
namespace Go.Proofs.YthhkhpgffamdhaaDoor.fd
open Go.Proofs.YthhkhpgffamdhaaDoor.common Go.Proofs.YthhkhpgffamdhaaDoor.bk

/-- the places of the two marks -/
def atL (l : List UInt8) : Nat := (before 61 l).length
def enL (l : List UInt8) : Nat := (before 59 l).length
def refN (l : List UInt8) : List UInt8 := l.take (atL l)
def refV (l : List UInt8) : List UInt8 := (l.drop (atL l + 1)).take (enL l - (atL l + 1))
def refA (l : List UInt8) : Int := if enL l + 18 + 32 < l.length then Num.num ((l.drop (enL l + 18)).take (l.length - 32 - (enL l + 18))) else -1
theorem refA_in (l : List UInt8) : -1 ≤ refA l ∧ refA l ≤ 9223372036854775807 := by
  unfold refA
  split
  · exact Num.num_ge _
  · exact ⟨by decide, by decide⟩
theorem refA_inR (l : List UInt8) : inR (refA l) := by
  have := refA_in l
  unfold inR; omega
theorem fnd_eq {c : UInt8} {l : List UInt8} {n k : Nat} (hn : l.length = n) (h : Fnd c l n k) : k = (before c l).length ∧ k ≤ n := by
  have hk : k ≤ n := by rcases h.2 with ⟨h, _⟩ | ⟨h, _⟩ <;> omega
  refine ⟨?_, hk⟩
  rw [h.1, List.length_take]
  omega
theorem take_exact (a b : List UInt8) (k : Nat) (h : k = a.length) : (a ++ b).take k = a ∧ (a ++ b).drop k = b := by
  subst h; exact ⟨List.take_left, List.drop_left⟩
theorem ref_set {l : List UInt8} {n v : ByteArray} {m : Int} (h : Good l n v m) : atL l < enL l ∧ refN l = n.data.toList ∧ refV l = v.data.toList ∧ refA l = m := by
  obtain ⟨hck, hm, hl⟩ := h
  obtain ⟨h1, h2⟩ := ck_bytes hck
  have hL := set_list n v m
  rw [hl] at hL
  obtain ⟨e1, _⟩ := cut_first (c := 61) (r := v.data.toList ++ 59 :: ([32, 80, 97, 116, 104, 61, 47] ++ (ageT m ++ lastL))) (fun x hx => (h1 x hx).1)
  have hat : atL l = n.data.toList.length := by unfold atL; rw [hL, e1]
  have hL2 : l = (n.data.toList ++ 61 :: v.data.toList) ++ 59 :: ([32, 80, 97, 116, 104, 61, 47] ++ (ageT m ++ lastL)) := by rw [hL]; simp
  have hno : ∀ x ∈ n.data.toList ++ 61 :: v.data.toList, x ≠ 59 := by
    intro x hx
    rcases List.mem_append.1 hx with hx | hx
    · exact (h1 x hx).2
    · rcases List.mem_cons.1 hx with rfl | hx
      · decide
      · exact h2 x hx
  obtain ⟨e3, _⟩ := cut_first (c := 59) (r := [32, 80, 97, 116, 104, 61, 47] ++ (ageT m ++ lastL)) hno
  have hen : enL l = n.data.toList.length + 1 + v.data.toList.length := by
    unfold enL; rw [hL2, e3]; simp; omega
  refine ⟨by omega, ?_, ?_, ?_⟩
  · unfold refN; rw [hat, hL]; exact (take_exact _ _ _ rfl).1
  · unfold refV
    rw [hen, hat]
    have h5 : l.drop (n.data.toList.length + 1) = v.data.toList ++ 59 :: ([32, 80, 97, 116, 104, 61, 47] ++ (ageT m ++ lastL)) := by
      have h6 : l = (n.data.toList ++ [61]) ++ (v.data.toList ++ 59 :: ([32, 80, 97, 116, 104, 61, 47] ++ (ageT m ++ lastL))) := by rw [hL]; simp
      rw [h6]; exact (take_exact _ _ _ (by simp)).2
    rw [h5]; exact (take_exact _ _ _ (by omega)).1
  · unfold refA
    rw [hen]
    have hlen : l.length = n.data.toList.length + 1 + v.data.toList.length + 8 + (ageT m).length + 32 := by rw [hL]; simp; omega
    rcases hm with rfl | ⟨h0, hmx⟩
    · have ha : (ageT (-1)).length = 0 := by unfold ageT; rw [if_neg (by decide)]; rfl
      rw [if_neg (by omega)]
    · have ha : ageT m = ageL ++ Lib.decDigits m.toNat := by unfold ageT; rw [if_pos h0, itoa_nat m h0]
      have hdl : 1 ≤ (Lib.decDigits m.toNat).length := by
        cases hh : Lib.decDigits m.toNat with
        | nil => exact absurd hh (Num.dec_ne _)
        | cons _ _ => simp
      rw [ha, List.length_append] at hlen
      have hal : ageL.length = 10 := rfl
      rw [if_pos (by omega)]
      have h7 : l = (n.data.toList ++ 61 :: (v.data.toList ++ (pathL ++ ageL))) ++ (Lib.decDigits m.toNat ++ lastL) := by rw [hL, ha]; simp
      have h8 : l.drop (n.data.toList.length + 1 + v.data.toList.length + 18) = Lib.decDigits m.toNat ++ lastL := by
        conv => lhs; rw [h7]
        exact (take_exact _ _ _ (by simp; omega)).2
      rw [h8, (take_exact _ _ _ (by omega)).1, Num.num_dec _ (by omega)]
      omega
theorem ref_good {l : List UInt8} (hc : isCk ⟨(refN l).toArray⟩ ⟨(refV l).toArray⟩ = true) (he : (setB ⟨(refN l).toArray⟩ ⟨(refV l).toArray⟩ (refA l)).data.toList = l) : Good l ⟨(refN l).toArray⟩ ⟨(refV l).toArray⟩ (refA l) := by
  refine ⟨hc, ?_, he⟩
  have := refA_in l
  omega
theorem ref_bad {l : List UInt8} (h : ¬ (isCk ⟨(refN l).toArray⟩ ⟨(refV l).toArray⟩ = true ∧ (setB ⟨(refN l).toArray⟩ ⟨(refV l).toArray⟩ (refA l)).data.toList = l)) : ∀ n v m, ¬ Good l n v m := by
  intro n v m hg
  obtain ⟨_, a1, a2, a3⟩ := ref_set hg
  apply h
  rw [a1, a2, a3]
  exact ⟨hg.1, hg.2.2⟩

end Go.Proofs.YthhkhpgffamdhaaDoor.fd
