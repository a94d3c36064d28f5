import Derived.Test.YtmdjppjfjkgnpaaGreatDoorRedEq
import Derived.Test.YtmdjppjfjkgnpaaGreatDoorFormMath
namespace Go.Proofs.YtmdjppjfjkgnpaaGreatDoor.tm
open Go.Proofs.YtmdjppjfjkgnpaaGreatDoor.fd (before behind cut_no cut_at index_cases)
open Go.Proofs.YtmdjppjfjkgnpaaGreatDoor.common Go.Proofs.YtmdjppjfjkgnpaaGreatDoor.bk

/-- what stands between an address and its parameters -/
def jntL (l : List UInt8) : List UInt8 := if l.contains 63 then (if (behind 63 l).isEmpty then [] else [38]) else [63]
theorem jnt_cases (l : List UInt8) : (l.contains 63 = false ∧ jntL l = [63]) ∨ (l.contains 63 = true ∧ behind 63 l = [] ∧ jntL l = []) ∨ (l.contains 63 = true ∧ behind 63 l ≠ [] ∧ jntL l = [38]) := by
  unfold jntL
  cases h : l.contains 63 with
  | false => exact Or.inl ⟨rfl, rfl⟩
  | true =>
    cases hb : behind 63 l with
    | nil => exact Or.inr (Or.inl ⟨rfl, rfl, rfl⟩)
    | cons c t => exact Or.inr (Or.inr ⟨rfl, by simp, rfl⟩)
/-- what stands ahead of the query and behind it, with parameters put in -/
theorem ans_parts (l f : List UInt8) : before 63 (l ++ (jntL l ++ f)) = before 63 l ∧ behind 63 (l ++ (jntL l ++ f)) = behind 63 l ++ (if l.contains 63 then jntL l ++ f else f) ∧ (l ++ (jntL l ++ f)).contains 63 = true := by
  rcases cut_cases 63 l with ⟨h, e1, e2, e3⟩ | ⟨m, r, e, hm, e1, e2, e3⟩
  · have ej : jntL l = [63] := by unfold jntL; rw [e3]; rfl
    rw [ej, e3, e1, e2]
    have := cut_at (r := f) h
    exact ⟨this.1, this.2.1, this.2.2⟩
  · rw [e3, if_pos rfl, e1, e2]
    have ea : l ++ (jntL l ++ f) = m ++ 63 :: (r ++ (jntL l ++ f)) := by
      have h2 : l ++ (jntL l ++ f) = (m ++ 63 :: r) ++ (jntL l ++ f) := congrArg (· ++ (jntL l ++ f)) e
      rw [h2, List.append_assoc, List.cons_append]
    rw [ea]
    have := cut_at (r := r ++ (jntL l ++ f)) hm
    exact ⟨this.1, this.2.1, this.2.2⟩

theorem madeN_app (more : List UInt8) : ∀ (n : Nat) (a b : List UInt8), a.length ≤ n → madeOf more a = true → madeOf more (a ++ b) = madeOf more b
  | 0, a, b, h, _ => by
    have : a = [] := List.eq_nil_of_length_eq_zero (by omega)
    rw [this, List.nil_append]
  | n + 1, [], b, _, _ => by rw [List.nil_append]
  | n + 1, c :: r, b, h, hm => by
    rw [List.length_cons] at h
    by_cases hc : c = 37
    · subst hc
      rw [made_pct, Bool.and_eq_true] at hm
      rw [List.cons_append, made_pct]
      have hd := hm.1
      unfold hasD at hd
      rw [Bool.and_eq_true] at hd
      have h3 := of_decide_eq_true hd.1
      rw [List.length_cons] at h3
      have e1 : hasD (37 :: (r ++ b)) = true := by
        unfold hasD
        rw [Bool.and_eq_true]
        refine ⟨decide_eq_true (by rw [List.length_cons, List.length_append]; omega), ?_⟩
        show ((r ++ b).take 2).all hexB = true
        rw [List.take_append_of_le_length (by omega)]
        exact hd.2
      rw [e1, Bool.true_and, List.drop_append_of_le_length (by omega)]
      exact madeN_app more n (r.drop 2) b (by rw [List.length_drop]; omega) hm.2
    · rw [made_ok _ _ hc, Bool.and_eq_true] at hm
      rw [List.cons_append, made_ok _ _ hc, hm.1, Bool.true_and]
      exact madeN_app more n r b (by omega) hm.2
theorem made_app {more a : List UInt8} (b : List UInt8) (h : madeOf more a = true) : madeOf more (a ++ b) = madeOf more b := madeN_app more a.length a b (Nat.le_refl _) h
theorem made_one {more : List UInt8} {c : UInt8} (hc : c ≠ 37) (h : okB more c = true) (r : List UInt8) : madeOf more (c :: r) = madeOf more r := by rw [made_ok _ _ hc, h, Bool.true_and]
theorem unres_ok (c : UInt8) (h : Pct.unres c = true) : okB [47, 63] c = true ∧ c ≠ 37 := by
  have := byte_imp Pct.unres (fun c => okB [47, 63] c && decide (c ≠ 37)) (by decide +kernel) h
  rw [Bool.and_eq_true] at this
  exact ⟨this.1, of_decide_eq_true this.2⟩
theorem dig_hex (c : UInt8) : hexB (Pct.dig (c.toNat / 16)) = true ∧ hexB (Pct.dig (c.toNat % 16)) = true := by
  have := byte_imp (fun _ => true) (fun c => hexB (Pct.dig (c.toNat / 16)) && hexB (Pct.dig (c.toNat % 16))) (by decide +kernel) (b := c) rfl
  exact Bool.and_eq_true_iff.1 this
theorem made_esc1 (c : UInt8) (b : List UInt8) : madeOf [47, 63] (Pct.esc1 true c ++ b) = madeOf [47, 63] b := by
  unfold Pct.esc1
  by_cases hu : Pct.unres c = true
  · rw [if_pos hu, List.singleton_append]
    exact made_one (unres_ok c hu).2 (unres_ok c hu).1 b
  · rw [if_neg hu]
    by_cases h2 : true = true ∧ c = 32
    · rw [if_pos h2, List.singleton_append]
      exact made_one (by decide) (by decide) b
    · rw [if_neg h2]
      show madeOf [47, 63] (37 :: Pct.dig (c.toNat / 16) :: Pct.dig (c.toNat % 16) :: b) = _
      rw [made_pct]
      have e : hasD (37 :: Pct.dig (c.toNat / 16) :: Pct.dig (c.toNat % 16) :: b) = true := by
        unfold hasD
        rw [Bool.and_eq_true]
        refine ⟨decide_eq_true (by simp), ?_⟩
        show (hexB (Pct.dig (c.toNat / 16)) && (hexB (Pct.dig (c.toNat % 16)) && true)) = true
        rw [(dig_hex c).1, (dig_hex c).2]; rfl
      rw [e, Bool.true_and]; rfl
theorem made_esc (l b : List UInt8) : madeOf [47, 63] (Pct.esc true l ++ b) = madeOf [47, 63] b := by
  induction l with
  | nil => rfl
  | cons c r ih =>
    show madeOf [47, 63] ((Pct.esc1 true c ++ Pct.esc true r) ++ b) = _
    rw [List.append_assoc, made_esc1, ih]
theorem made_shown (x : Pct.Pr) (b : List UInt8) : madeOf [47, 63] (Pct.shown x ++ b) = madeOf [47, 63] b := by
  unfold Pct.shown
  rw [List.append_assoc, made_esc, List.cons_append, made_one (by decide) (by decide), made_esc]
theorem made_form : ∀ l : List Pct.Pr, madeOf [47, 63] (Pct.form l) = true
  | [] => rfl
  | [x] => by
    have := made_shown x []
    rw [List.append_nil] at this
    exact this
  | x :: y :: r => by
    rw [Pct.form_cons, made_shown, made_one (by decide) (by decide)]
    exact made_form (y :: r)

def ansL (l f : List UInt8) : List UInt8 := l ++ (jntL l ++ f)
/-- an address that has been answered is an address, if it is not too long -/
theorem ans_red {l f : List UInt8} (h : redL l = true) (hf : madeOf [47, 63] f = true) : redL (ansL l f) = decide ((ansL l f).length ≤ 512) := by
  rw [← ref_red] at h ⊢
  unfold refL at h ⊢
  obtain ⟨e1, e2, _⟩ := ans_parts l f
  rw [Bool.and_eq_true, Bool.and_eq_true] at h
  unfold ansL
  rw [e1, h.2.2, Bool.and_true, e2, made_app _ h.2.1]
  have : madeOf [47, 63] (if l.contains 63 = true then jntL l ++ f else f) = true := by
    rcases jnt_cases l with ⟨h0, hj⟩ | ⟨h0, _, hj⟩ | ⟨h0, _, hj⟩
    · rw [h0, if_neg (by decide)]; exact hf
    · rw [h0, if_pos rfl, hj]; exact hf
    · rw [h0, if_pos rfl, hj, List.singleton_append, made_one (by decide) (by decide)]; exact hf
  rw [this, Bool.and_true]
end Go.Proofs.YtmdjppjfjkgnpaaGreatDoor.tm
