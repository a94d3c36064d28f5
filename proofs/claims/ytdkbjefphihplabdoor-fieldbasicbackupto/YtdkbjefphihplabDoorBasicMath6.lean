import Derived.Test.YtdkbjefphihplabDoorBasicRd
import Derived.Test.YtdkbjefphihplabDoorStdOk
import Derived.Test.YtdkbjefphihplabDoorBasicOfL
namespace Go.Proofs.YtdkbjefphihplabDoor.fd
open Go.ChangeShapes Go.WideShapes Go.ChangeAt Go.RowKit Go.Proofs.YtdkbjefphihplabDoor.common Go.Proofs.YtdkbjefphihplabDoor.bk

theorem std_ways : ∀ v : Fin 64, Rad.stdT.getD v.val 0 ≠ 32 := by decide +kernel
theorem std_no32 (l : List UInt8) : ∀ c ∈ Rad.std l, c ≠ 32 := by
  intro c hc
  unfold Rad.std at hc
  rcases List.mem_append.1 hc with hc | hc
  · unfold Rad.b64 at hc
    obtain ⟨m, _, rfl⟩ := List.mem_map.1 hc
    exact std_ways ⟨_, Rad.six_lt l m⟩
  · rw [Rad.pad_all _ _ hc]; decide
theorem esc1_no58 : ∀ c : UInt8, ¬ (58 ∈ Pct.esc1 true c) := Pct.u8 _ (by decide +kernel)
theorem esc_no58 (l : List UInt8) : ∀ c ∈ Pct.esc true l, c ≠ 58 := by
  intro c hc e
  subst e
  unfold Pct.esc at hc
  obtain ⟨x, _, hx⟩ := List.mem_flatMap.1 hc
  exact esc1_no58 x hx
theorem hd_std (l : List UInt8) (r : List UInt8) (hr : hd isBl r = false) : hd isBl (Rad.std l ++ r) = false := by
  cases h : Rad.std l with
  | nil => exact hr
  | cons c t =>
    have : c ≠ 32 := std_no32 l c (by rw [h]; simp)
    exact decide_eq_false this
theorem lows_tok : ∀ c : UInt8, Fd.low c = 98 ∨ Fd.low c = 97 ∨ Fd.low c = 115 ∨ Fd.low c = 105 ∨ Fd.low c = 99 → Fd.tok c = true := Pct.u8 _ (by decide +kernel)
theorem name_tok {t : List UInt8} (h : Fd.lows t = Fd.lows nameL) : t.all Fd.tok = true ∧ t ≠ [] := by
  have hl : Fd.lows nameL = [98, 97, 115, 105, 99] := by decide +kernel
  rw [hl] at h
  constructor
  · rw [List.all_eq_true]
    intro c hc
    have hm : Fd.low c ∈ Fd.lows t := List.mem_map.2 ⟨c, hc, rfl⟩
    rw [h] at hm
    simp at hm
    exact lows_tok c hm
  · rintro rfl
    cases h
theorem blanks_all (n : Nat) : (List.replicate n (32 : UInt8)).all isBl = true := by
  rw [List.all_eq_true]
  intro c hc
  rw [(List.mem_replicate.1 hc).2]; rfl
theorem unV_good (x : Value) (u p : List UInt8) : unV x (Pct.esc true u) (Pct.esc true p) = .tuple #[S u, S p, .nilIface] := by
  unfold unV
  rw [Pct.back, Pct.back]
theorem coded_std (l : List UInt8) : codedL (Rad.std l) = l := by
  unfold codedL
  rw [radw.lets_std]
  exact Rad.un64_b64 Rad.stdGood l
/-- the parts of a text with a scheme that is well spelt -/
theorem parts {t r : List UInt8} {n : Nat} (ht : Fd.lows t = Fd.lows nameL) (hn : 0 < n) (hr : hd isBl r = false) :
    (t ++ (List.replicate n 32 ++ r)).takeWhile Fd.tok = t ∧ (t ++ (List.replicate n 32 ++ r)).dropWhile Fd.tok = List.replicate n 32 ++ r ∧
      (List.replicate n 32 ++ r).takeWhile isBl = List.replicate n 32 ∧ (List.replicate n 32 ++ r).dropWhile isBl = r := by
  have h0 : hd Fd.tok (List.replicate n 32 ++ r) = false := by
    obtain ⟨m, rfl⟩ : ∃ m, n = m + 1 := ⟨n - 1, by omega⟩
    rfl
  have h1 := take_all_p (name_tok ht).1 h0
  have h2 := take_all_p (blanks_all n) hr
  exact ⟨h1.1, h1.2, h2.1, h2.2⟩
theorem basic_good (xt xs : Value) (t u p : List UInt8) (n : Nat) (ht : Fd.lows t = Fd.lows nameL) (hn : 0 < n) (ok : Bool) (hok : ok = true ↔ radw.okStd (((t ++ (List.replicate n 32 ++ Rad.std (pairL u p))).dropWhile Fd.tok).dropWhile isBl)) :
    basicV ok xt xs (t ++ (List.replicate n 32 ++ Rad.std (pairL u p))) = .tuple #[S u, S p, .nilIface] := by
  obtain ⟨h1, h2, h3, h4⟩ := parts (r := Rad.std (pairL u p)) ht hn (by have := hd_std (pairL u p) [] rfl; rwa [List.append_nil] at this)
  have hoks : ok = true := by
    rw [hok, h2, h4]; exact radw.ok_std _
  subst hoks
  have hne : (List.replicate n (32 : UInt8)) ≠ [] := by
    intro e
    have := congrArg List.length e
    rw [List.length_replicate] at this
    simp at this
    omega
  obtain ⟨c1, c2, c3⟩ := cut_at (r := Pct.esc true p) (esc_no58 u)
  change before 58 (pairL u p) = _ at c1
  change behind 58 (pairL u p) = _ at c2
  change (pairL u p).contains 58 = _ at c3
  unfold basicV
  rw [h1, h2, if_neg (name_tok ht).2, if_pos ht]
  unfold credV
  rw [h3, h4, if_neg hne, coded_std, c1, c2, c3]
  exact unV_good xt u p
/-- without a blank behind it the scheme runs on, or there is nothing behind it -/
theorem basic_none (xt xs : Value) (l : List UInt8) (ok : Bool) : basicV ok xt xs (nameL ++ Rad.std l) = failV xt ∨ basicV ok xt xs (nameL ++ Rad.std l) = failV xs := by
  have hall : ∀ x ∈ nameL, Fd.tok x = true := by decide +kernel
  have h1 : (nameL ++ Rad.std l).takeWhile Fd.tok = nameL ++ (Rad.std l).takeWhile Fd.tok := List.takeWhile_append_of_pos hall
  have h2 : (nameL ++ Rad.std l).dropWhile Fd.tok = (Rad.std l).dropWhile Fd.tok := List.dropWhile_append_of_pos hall
  unfold basicV
  rw [h1, h2, if_neg (by unfold nameL; simp)]
  by_cases hn : Fd.lows (nameL ++ (Rad.std l).takeWhile Fd.tok) = Fd.lows nameL
  · rw [if_pos hn]
    left
    have hl := congrArg List.length hn
    unfold Fd.lows at hl
    rw [List.length_map, List.length_map, List.length_append] at hl
    have he : (Rad.std l).takeWhile Fd.tok = [] := List.eq_nil_of_length_eq_zero (by omega)
    have hd1 : (Rad.std l).dropWhile Fd.tok = Rad.std l := by
      have := List.takeWhile_append_dropWhile (p := Fd.tok) (l := Rad.std l)
      rw [he] at this
      exact this
    unfold credV
    rw [hd1, if_pos]
    have hh := hd_std l [] rfl
    rw [List.append_nil] at hh
    exact (take_all_p (m := []) (l := Rad.std l) rfl hh).1
  · rw [if_neg hn]
    exact Or.inr rfl
/-- a byte more at the end is no text that is read -/
theorem not_ok (l : List UInt8) : ¬ radw.okStd (l ++ [32]) := by
  intro h
  have ht : radw.trimN (l ++ [32]) (l ++ [32]).length = (l ++ [32]).length := by
    refine radw.trimN_eq _ _ _ (Nat.le_refl _) (fun i h1 h2 => absurd h2 (by omega)) (Or.inr ?_)
    rw [List.length_append]
    show (l ++ [32]).getD (l.length + 1 - 1) 0 ≠ 61
    rw [Nat.add_sub_cancel, radw.app_getD, if_neg (Nat.lt_irrefl _), Nat.sub_self]
    decide
  have hv := h.2.1
  unfold radw.lets0 at hv
  rw [ht, List.take_length] at hv
  have := hv l.length (by simp)
  rw [radw.app_getD, if_neg (Nat.lt_irrefl _), Nat.sub_self] at this
  exact this (by decide +kernel)
theorem basic_more (xt xs : Value) (l : List UInt8) (ok : Bool) (hok : ok = true ↔ radw.okStd (((nameL ++ (List.replicate 1 32 ++ (Rad.std l ++ [32]))).dropWhile Fd.tok).dropWhile isBl)) :
    l ≠ [] → basicV ok xt xs (nameL ++ (List.replicate 1 32 ++ (Rad.std l ++ [32]))) = failV xt := by
  intro hl
  have hst : Rad.std l ≠ [] := by
    intro e
    have := congrArg List.length e
    rw [Rad.std_len] at this
    have : l.length = 0 := by
      rw [List.length_nil] at this
      omega
    exact hl (List.eq_nil_of_length_eq_zero this)
  have hh : hd isBl (Rad.std l ++ [32]) = false := by
    cases h : Rad.std l with
    | nil => exact absurd h hst
    | cons c t =>
      have : c ≠ 32 := std_no32 l c (by rw [h]; simp)
      exact decide_eq_false this
  obtain ⟨h1, h2, h3, h4⟩ := parts (t := nameL) rfl (n := 1) (by decide) hh
  have hoks : ok = false := by
    cases ok with
    | false => rfl
    | true =>
      have := hok.1 rfl
      rw [h2, h4] at this
      exact absurd this (not_ok _)
  subst hoks
  unfold basicV
  rw [h1, h2, if_neg (by unfold nameL; simp), if_pos rfl]
  unfold credV
  rw [h3, if_neg (by simp)]
  rfl

end Go.Proofs.YtdkbjefphihplabDoor.fd
