import Derived.Test.YthhkhpgffamdhaaDoorMqW
import Derived.Test.YthhkhpgffamdhaaDoorRefMed3
namespace Go.Proofs.YthhkhpgffamdhaaDoor.fd
open Go.Proofs.YthhkhpgffamdhaaDoor.common Go.Proofs.YthhkhpgffamdhaaDoor.bk

theorem tok_facts {c : UInt8} (h : Fd.tok c = true) : c ≠ 34 ∧ c ≠ 47 ∧ c ≠ 59 ∧ Fd.white c = false ∧ Fd.val c = true := by
  have h0 := of_decide_eq_true h
  refine ⟨?_, ?_, ?_, ?_, ?_⟩
  · rintro rfl; revert h0; decide
  · rintro rfl; revert h0; decide
  · rintro rfl; revert h0; decide
  · cases e : Fd.white c with
    | false => rfl
    | true => have := (Fd.white_iff c).1 e; omega
  · exact decide_eq_true (by omega)
theorem token_facts {l : List UInt8} (h : Fd.token l = true) : l ≠ [] ∧ ∀ c ∈ l, Fd.tok c = true := by
  unfold Fd.token at h
  rw [Bool.and_eq_true] at h
  refine ⟨?_, fun c hc => List.all_eq_true.1 h.2 c hc⟩
  rintro rfl
  exact absurd h.1 (by decide)
theorem span_tok {n X : List UInt8} (hn : ∀ c ∈ n, Fd.tok c = true) (hX : hd Fd.tok X = false) : (n ++ X).takeWhile Fd.tok = n ∧ (n ++ X).dropWhile Fd.tok = X := by
  rw [List.takeWhile_append_of_pos hn, List.dropWhile_append_of_pos hn]
  cases X with
  | nil => exact ⟨by simp, rfl⟩
  | cons c t =>
    have h2 : Fd.tok c = false := hX
    rw [List.takeWhile_cons_of_neg (by rw [h2]; decide), List.dropWhile_cons_of_neg (by rw [h2]; decide), List.append_nil]
    exact ⟨rfl, rfl⟩
theorem tok_ok {n X : List UInt8} (hn : Fd.token n = true) (hX : hd Fd.tok X = false) : tokL (n ++ X) = some X := by
  obtain ⟨h1, h2⟩ := token_facts hn
  obtain ⟨e1, e2⟩ := span_tok h2 hX
  unfold tokL
  rw [e1, e2, if_neg h1]
theorem kind_ok {h u X : List UInt8} (hh : Fd.token h = true) (hu : Fd.token u = true) (hX : hd Fd.tok X = false) : kindL (h ++ 47 :: (u ++ X)) = some X := by
  unfold kindL
  rw [tok_ok hh rfl]
  show slL (47 :: (u ++ X)) = _
  rw [slL_yes, tok_ok hu hX]
theorem q_ok (l X : List UInt8) (h : ∀ c ∈ l, Fd.val c = true) : qL (qEsc l ++ 34 :: X) = some X := by
  induction l with
  | nil => exact qL_quote X
  | cons c t ih =>
    have e : qEsc (c :: t) = qE1 c ++ qEsc t := rfl
    have ht := ih (fun x hx => h x (by simp [hx]))
    have hc := h c (by simp)
    rw [e, List.append_assoc]
    unfold qE1
    by_cases hq : c = 34 ∨ c = 92
    · rw [if_pos hq]
      show qL (92 :: c :: (qEsc t ++ 34 :: X)) = _
      rw [show qL (92 :: c :: (qEsc t ++ 34 :: X)) = qL (qEsc t ++ 34 :: X) from qL_back c _ hc]
      exact ht
    · rw [if_neg hq]
      show qL (c :: (qEsc t ++ 34 :: X)) = _
      rw [qL_in _ (isIn_of (fun e => hq (Or.inl e)) (fun e => hq (Or.inr e)) hc)]
      exact ht
theorem par_ok {n l X : List UInt8} (hn : Fd.token n = true) (hl : ∀ c ∈ l, Fd.val c = true) : parL (n ++ 61 :: (qTxt l ++ X)) = some X := by
  unfold parL
  rw [tok_ok hn rfl]
  show eqL (61 :: (qTxt l ++ X)) = _
  rw [eqL_yes]
  have e : qTxt l ++ X = 34 :: (qEsc l ++ 34 :: X) := by unfold qTxt; simp
  rw [e, valL_yes, q_ok l X hl]
theorem sem_tok {n Y : List UInt8} (hn : Fd.token n = true) : (n ++ Y).dropWhile Fd.white = n ++ Y ∧ hd Fd.tok (n ++ Y) = true := by
  obtain ⟨h1, h2⟩ := token_facts hn
  cases n with
  | nil => exact absurd rfl h1
  | cons c t =>
    have hc := h2 c (by simp)
    exact ⟨List.dropWhile_cons_of_neg (by rw [(tok_facts hc).2.2.2.1]; decide), hc⟩
theorem one_ok {pre n l X Y : List UInt8} (hp : (pre ++ (n ++ 61 :: (qTxt l ++ X))).dropWhile Fd.white = 59 :: Y) (hY : Y.dropWhile Fd.white = n ++ 61 :: (qTxt l ++ X)) (hn : Fd.token n = true) (hl : ∀ c ∈ l, Fd.val c = true) : oneP (pre ++ (n ++ 61 :: (qTxt l ++ X))) = some X := by
  unfold oneP
  rw [semL_yes hp, hY]
  simp only [Option.bind_some]
  rw [if_pos (sem_tok hn).2, par_ok hn hl]
/-- the whole of a good type -/
theorem med_good {h u n l : List UInt8} (hh : Fd.token h = true) (hu : Fd.token u = true) (hn : Fd.token n = true) (hl : ∀ c ∈ l, Fd.val c = true) :
    medR (h ++ 47 :: (u ++ ([32, 9, 59, 9, 32] ++ (n ++ 61 :: (qTxt l ++ [59]))))) = some (Fd.lows (h ++ 47 :: u)) := by
  have hX : hd Fd.tok ([32, 9, 59, 9, 32] ++ (n ++ 61 :: (qTxt l ++ [59]))) = false := rfl
  have hk := kind_ok hh hu hX
  have hp : pars ([32, 9, 59, 9, 32] ++ (n ++ 61 :: (qTxt l ++ [59]))) = true := by
    have h1 := one_ok (pre := [32, 9, 59, 9, 32]) (X := [59]) (Y := 9 :: 32 :: (n ++ 61 :: (qTxt l ++ [59]))) rfl (by
      rw [List.dropWhile_cons_of_pos (by decide), List.dropWhile_cons_of_pos (by decide)]
      exact (sem_tok hn).1) hn hl
    rw [pars_yes (by simp) h1]
    rfl
  rw [medR_ok hk hp]
  congr 2
  rw [show h ++ 47 :: (u ++ ([32, 9, 59, 9, 32] ++ (n ++ 61 :: (qTxt l ++ [59])))) = (h ++ 47 :: u) ++ ([32, 9, 59, 9, 32] ++ (n ++ 61 :: (qTxt l ++ [59]))) by simp, List.length_append, Nat.add_sub_cancel, List.take_left]
theorem low_tok {c : UInt8} (h : Fd.tok c = true) : Fd.tok (Fd.low c) = true := by
  have h0 := of_decide_eq_true h
  rcases lnm.low_cases c with ⟨h1, h2, h3⟩ | ⟨_, h3⟩
  · exact decide_eq_true (by omega)
  · exact decide_eq_true (by omega)
theorem low_low (c : UInt8) : Fd.low (Fd.low c) = Fd.low c := by
  apply UInt8.toNat_inj.1
  rcases lnm.low_cases c with ⟨h1, h2, h3⟩ | ⟨h1, h3⟩
  · rcases lnm.low_cases (Fd.low c) with ⟨g1, g2, g3⟩ | ⟨g1, g3⟩ <;> omega
  · rcases lnm.low_cases (Fd.low c) with ⟨g1, g2, g3⟩ | ⟨g1, g3⟩ <;> omega
theorem token_low {l : List UInt8} (h : Fd.token l = true) : Fd.token (Fd.lows l) = true := by
  obtain ⟨h1, h2⟩ := token_facts h
  unfold Fd.token Fd.lows
  rw [Bool.and_eq_true]
  constructor
  · cases l with
    | nil => exact absurd rfl h1
    | cons _ _ => rfl
  · rw [List.all_eq_true]
    intro c hc
    obtain ⟨x, hx, rfl⟩ := List.mem_map.1 hc
    exact low_tok (h2 x hx)
theorem lows_lows (l : List UInt8) : Fd.lows (Fd.lows l) = Fd.lows l := by
  unfold Fd.lows
  rw [List.map_map]
  exact List.map_congr_left fun c _ => low_low c
theorem med_again {h u : List UInt8} (hh : Fd.token h = true) (hu : Fd.token u = true) : medR (Fd.lows (h ++ 47 :: u)) = some (Fd.lows (h ++ 47 :: u)) := by
  have e : Fd.lows (h ++ 47 :: u) = Fd.lows h ++ 47 :: (Fd.lows u ++ []) := by unfold Fd.lows; rw [List.map_append, List.map_cons, List.append_nil]; rfl
  have hk : kindL (Fd.lows (h ++ 47 :: u)) = some [] := by rw [e]; exact kind_ok (token_low hh) (token_low hu) rfl
  rw [medR_ok hk rfl, List.length_nil, Nat.sub_zero, List.take_length, lows_lows]
theorem qL_tok (l : List UInt8) (h : ∀ c ∈ l, Fd.tok c = true) : qL l = none := by
  induction l with
  | nil => rfl
  | cons c t ih =>
    have hf := tok_facts (h c (by simp))
    have ht := ih (fun x hx => h x (by simp [hx]))
    by_cases h92 : c = 92
    · have := h c (by simp)
      rw [h92] at this
      exact absurd this (by decide)
    · rw [qL_in t (isIn_of hf.1 h92 hf.2.2.2.2)]
      exact ht
theorem med_open {h u n m : List UInt8} (hh : Fd.token h = true) (hu : Fd.token u = true) (hn : Fd.token n = true) (hm : ∀ c ∈ m, Fd.tok c = true) :
    medR (h ++ 47 :: (u ++ 59 :: (n ++ 61 :: 34 :: m))) = none := by
  have hk := kind_ok (X := 59 :: (n ++ 61 :: 34 :: m)) hh hu rfl
  refine medR_bad hk (pars_no (by simp) ?_)
  unfold oneP
  rw [semL_yes (r := n ++ 61 :: 34 :: m) rfl, (sem_tok hn).1]
  simp only [Option.bind_some]
  rw [if_pos (sem_tok hn).2]
  unfold parL
  rw [tok_ok hn rfl]
  show eqL (61 :: 34 :: m) = _
  rw [eqL_yes, valL_yes]
  exact qL_tok m hm
theorem med_white {h u n l : List UInt8} (hh : Fd.token h = true) (hu : Fd.token u = true) (hn : Fd.token n = true) (hl : ∀ c ∈ l, Fd.val c = true) :
    medR (h ++ 47 :: (u ++ 59 :: (n ++ 61 :: (qTxt l ++ [32])))) = none := by
  have hk := kind_ok (X := 59 :: (n ++ 61 :: (qTxt l ++ [32]))) hh hu rfl
  have h1 := one_ok (pre := [59]) (X := [32]) (Y := n ++ 61 :: (qTxt l ++ [32])) rfl (sem_tok hn).1 hn hl
  refine medR_bad hk ?_
  rw [show 59 :: (n ++ 61 :: (qTxt l ++ [32])) = [59] ++ (n ++ 61 :: (qTxt l ++ [32])) from rfl, pars_yes (by simp) h1]
  rfl
/-- two texts that can be no head of a type -/
def Broken (h u : List UInt8) : Prop :=
  (Fd.token h = false ∧ ∀ c ∈ h, c ≠ 59) ∨ (Fd.token h = true ∧ (u = [] ∨ ∃ t c r, u = t ++ c :: r ∧ (∀ x ∈ t, Fd.tok x = true) ∧ Fd.tok c = false ∧ (t = [] ∨ (c ≠ 59 ∧ c ≠ 32 ∧ c ≠ 9))))
theorem first_not (l : List UInt8) (h : Fd.token l = false) : l = [] ∨ ∃ p c q, l = p ++ c :: q ∧ (∀ x ∈ p, Fd.tok x = true) ∧ Fd.tok c = false := by
  induction l with
  | nil => exact Or.inl rfl
  | cons a t ih =>
    right
    cases ha : Fd.tok a with
    | false => exact ⟨[], a, t, rfl, fun x hx => (by cases hx), ha⟩
    | true =>
      have ht : t = [] → False := by
        rintro rfl
        unfold Fd.token at h
        simp [ha] at h
      have ht2 : Fd.token t = false := by
        unfold Fd.token at h ⊢
        cases t with
        | nil => exact absurd rfl ht
        | cons b r => simpa [ha] using h
      rcases ih ht2 with h0 | ⟨p, c, q, e, h1, h2⟩
      · exact absurd h0 ht
      · refine ⟨a :: p, c, q, by rw [e]; rfl, fun x hx => ?_, h2⟩
        rcases List.mem_cons.1 hx with rfl | hx
        · exact ha
        · exact h1 x hx
theorem broken_none {h u X : List UInt8} (hb : Broken h u) : medR (h ++ 47 :: (u ++ 32 :: X)) = none := by
  rcases hb with ⟨hh, h59⟩ | ⟨hh, hu⟩
  · rcases first_not h hh with rfl | ⟨p, c, q, rfl, hp, hc⟩
    · exact medR_no rfl
    · have e0 : (p ++ c :: q) ++ 47 :: (u ++ 32 :: X) = p ++ (c :: (q ++ 47 :: (u ++ 32 :: X))) := by simp
      obtain ⟨e1, e2⟩ := span_tok (X := c :: (q ++ 47 :: (u ++ 32 :: X))) hp hc
      rw [e0]
      by_cases hp0 : p = []
      · refine medR_no ?_
        unfold kindL tokL
        rw [e1, if_pos hp0]; rfl
      · by_cases h47 : c = 47
        · subst h47
          cases hk : kindL (p ++ 47 :: (q ++ 47 :: (u ++ 32 :: X))) with
          | none => exact medR_no hk
          | some r =>
            refine medR_bad hk ?_
            have hk2 : tokL (q ++ 47 :: (u ++ 32 :: X)) = some r := by
              unfold kindL tokL at hk
              rw [e1, e2, if_neg hp0] at hk
              exact hk
            have hr : r = q.dropWhile Fd.tok ++ 47 :: (u ++ 32 :: X) := by
              unfold tokL at hk2
              split at hk2
              · cases hk2
              · injection hk2 with hk2
                rw [← hk2]
                have : ∀ m : List UInt8, (m ++ 47 :: (u ++ 32 :: X)).dropWhile Fd.tok = m.dropWhile Fd.tok ++ 47 :: (u ++ 32 :: X) := by
                  intro m
                  induction m with
                  | nil => rfl
                  | cons a t ih =>
                    rw [List.cons_append, List.dropWhile_cons, List.dropWhile_cons]
                    split
                    · exact ih
                    · rfl
                exact this q
            have hq' : ∀ x ∈ q.dropWhile Fd.tok, x ≠ 59 := fun x hx => h59 x (by
              have := (List.dropWhile_suffix (l := q) Fd.tok).subset hx
              simp [this])
            rw [hr]
            generalize q.dropWhile Fd.tok = q' at *
            refine pars_no (by simp) ?_
            unfold oneP
            rw [semL_no]
            · rfl
            · intro t e
              have h3 : ∃ y z, (q' ++ 47 :: (u ++ 32 :: X)).dropWhile Fd.white = y :: z ∧ y ≠ 59 := by
                clear e hr hk2 hk
                induction q' with
                | nil => exact ⟨47, _, rfl, by decide⟩
                | cons a t ih =>
                  rw [List.cons_append, List.dropWhile_cons]
                  split
                  · exact ih (fun x hx => hq' x (by simp [hx]))
                  · exact ⟨a, _, rfl, hq' a (by simp)⟩
              obtain ⟨y, z, e3, h4⟩ := h3
              rw [e3] at e
              injection e with e _
              exact h4 e
        · refine medR_no ?_
          unfold kindL tokL
          rw [e1, e2, if_neg hp0]
          show slL (c :: _) = none
          exact slL_no (fun r e => h47 (by injection e))
  · have e1 : tokL (h ++ 47 :: (u ++ 32 :: X)) = some (47 :: (u ++ 32 :: X)) := tok_ok hh rfl
    have ek : kindL (h ++ 47 :: (u ++ 32 :: X)) = tokL (u ++ 32 :: X) := by unfold kindL; rw [e1]; rfl
    rcases hu with rfl | ⟨t, c, r, rfl, ht, hc, hor⟩
    · exact medR_no (by rw [ek]; rfl)
    · have e0 : (t ++ c :: r) ++ 32 :: X = t ++ (c :: (r ++ 32 :: X)) := by simp
      obtain ⟨s1, s2⟩ := span_tok (X := c :: (r ++ 32 :: X)) ht hc
      by_cases ht0 : t = []
      · refine medR_no ?_
        rw [ek, e0]
        unfold tokL
        rw [s1, if_pos ht0]
      · rcases hor with h | ⟨n59, n32, n9⟩
        · exact absurd h ht0
        · have hk : kindL (h ++ 47 :: ((t ++ c :: r) ++ 32 :: X)) = some (c :: (r ++ 32 :: X)) := by
            rw [ek, e0]
            unfold tokL
            rw [s1, s2, if_neg ht0]
          refine medR_bad hk (pars_stuck _ ?_ n59)
          cases e : Fd.white c with
          | false => rfl
          | true =>
            rcases (Fd.white_iff c).1 e with h1 | h1
            · exact absurd (UInt8.toNat_inj.1 (show c.toNat = (32 : UInt8).toNat from h1)) n32
            · exact absurd (UInt8.toNat_inj.1 (show c.toNat = (9 : UInt8).toNat from h1)) n9

end Go.Proofs.YthhkhpgffamdhaaDoor.fd
