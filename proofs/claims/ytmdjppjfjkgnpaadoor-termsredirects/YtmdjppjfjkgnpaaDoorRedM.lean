import Derived.Test.YtmdjppjfjkgnpaaDoorTmRed
namespace Go.Proofs.YtmdjppjfjkgnpaaDoor.tm
open Go.Proofs.YtmdjppjfjkgnpaaDoor.fd (before behind cut_no cut_at index_cases)
open Go.Proofs.YtmdjppjfjkgnpaaDoor.common Go.Proofs.YtmdjppjfjkgnpaaDoor.bk

/-- plain text that an address may hold -/
def safeB (b : UInt8) : Bool := decide (32 < b.toNat ∧ b.toNat < 127 ∧ b.toNat ≠ 35 ∧ b.toNat ≠ 34 ∧ b.toNat ≠ 60 ∧ b.toNat ≠ 62 ∧ b.toNat ≠ 92)
def atB (b : UInt8) : Bool := decide (b.toNat ≠ 64)

theorem byte_imp (p q : UInt8 → Bool) (h : (List.range 256).all (fun n => !p (UInt8.ofNat n) || q (UInt8.ofNat n)) = true) {b : UInt8} (hb : p b = true) : q b = true := by
  have := List.all_eq_true.1 h b.toNat (List.mem_range.2 b.toNat_lt)
  rw [UInt8.ofNat_toNat, hb] at this
  simpa using this
theorem pth_safe {b : UInt8} (h : pthB b = true) : safeB b = true := byte_imp pthB safeB (by decide +kernel) h
theorem hex_safe {b : UInt8} (h : hexB b = true) : safeB b = true := byte_imp hexB safeB (by decide +kernel) h
theorem num_safe {b : UInt8} (h : numB b = true) : safeB b = true := byte_imp numB safeB (by decide +kernel) h
theorem sch_safe {b : UInt8} (h : schB b = true) : safeB b = true := byte_imp schB safeB (by decide +kernel) h
theorem lab_safe {b : UInt8} (h : labB b = true) : safeB b = true := byte_imp labB safeB (by decide +kernel) h
theorem dig_safe {b : UInt8} (h : Tm.btw 48 57 b = true) : safeB b = true := byte_imp (Tm.btw 48 57) safeB (by decide +kernel) h
theorem dig_at {b : UInt8} (h : Tm.btw 48 57 b = true) : atB b = true := byte_imp (Tm.btw 48 57) atB (by decide +kernel) h
theorem num_at {b : UInt8} (h : numB b = true) : (atB b && !([47, 63] : List UInt8).contains b) = true := byte_imp numB (fun b => atB b && !([47, 63] : List UInt8).contains b) (by decide +kernel) h
theorem lab_at {b : UInt8} (h : labB b = true) : (atB b && !([47, 63] : List UInt8).contains b) = true := byte_imp labB (fun b => atB b && !([47, 63] : List UInt8).contains b) (by decide +kernel) h

theorem all_imp {p q : UInt8 → Bool} (h : ∀ b, p b = true → q b = true) {l : List UInt8} (hl : l.all p = true) : l.all q = true :=
  List.all_eq_true.2 fun x hx => h x (List.all_eq_true.1 hl x hx)
theorem all_app {p : UInt8 → Bool} {a b : List UInt8} (ha : a.all p = true) (hb : b.all p = true) : (a ++ b).all p = true := by rw [List.all_append, ha, hb]; rfl
theorem all_con {p : UInt8 → Bool} {a : UInt8} {b : List UInt8} (ha : p a = true) (hb : b.all p = true) : (a :: b).all p = true := by rw [List.all_cons, ha, hb]; rfl

theorem madeN_safe (more : List UInt8) (hm : more.all safeB = true) : ∀ (n : Nat) (l : List UInt8), madeN more n l = true → l.all safeB = true
  | 0, l, h => by
    unfold madeN at h
    rw [List.isEmpty_iff.1 h]; rfl
  | n + 1, [], _ => rfl
  | n + 1, c :: r, h => by
    unfold madeN at h
    by_cases hc : c = 37
    · rw [if_pos hc, Bool.and_eq_true] at h
      have h1 := madeN_safe more hm n _ h.2
      have h2 := h.1
      unfold hasD at h2
      rw [Bool.and_eq_true] at h2
      have h3 : (r.take 2).all hexB = true := h2.2
      subst hc
      refine all_con (by decide) ?_
      rw [← List.take_append_drop 2 r]
      exact all_app (all_imp (fun _ => hex_safe) h3) h1
    · rw [if_neg hc, Bool.and_eq_true] at h
      refine all_con ?_ (madeN_safe more hm n r h.2)
      have h1 := h.1
      unfold okB at h1
      rw [Bool.or_eq_true] at h1
      rcases h1 with h1 | h1
      · exact pth_safe h1
      · exact List.all_eq_true.1 hm c (List.contains_iff_mem.1 h1)
theorem made_safe {more l : List UInt8} (hm : more.all safeB = true) (h : madeOf more l = true) : l.all safeB = true := madeN_safe more hm _ l h
theorem pth_ok {l : List UInt8} (h : isPth l = true) : l.all safeB = true := by
  unfold isPth at h
  rw [Bool.or_eq_true, Bool.and_eq_true] at h
  rcases h with h | h
  · rw [List.isEmpty_iff.1 h]; rfl
  · exact made_safe (by decide) h.2

/-- a text and the first of a byte -/
theorem cut_cases (c : UInt8) (l : List UInt8) : ((∀ x ∈ l, x ≠ c) ∧ before c l = l ∧ behind c l = [] ∧ l.contains c = false) ∨ ∃ m r, l = m ++ c :: r ∧ (∀ x ∈ m, x ≠ c) ∧ before c l = m ∧ behind c l = r ∧ l.contains c = true := by
  rcases index_cases c l with ⟨_, h⟩ | ⟨i, _, _, h3, h4⟩
  · exact Or.inl ⟨h, cut_no h⟩
  · refine Or.inr ⟨_, _, h3, h4, ?_⟩
    have := cut_at (r := l.drop (i + 1)) h4
    rw [← h3] at this
    exact this
theorem pathQ_safe {l : List UInt8} (h : pathQ l = true) : l.all safeB = true := by
  unfold pathQ at h
  rw [Bool.and_eq_true] at h
  rcases cut_cases 63 l with ⟨_, e1, e2, _⟩ | ⟨m, r, e, _, e1, e2, _⟩
  · rw [e1] at h
    exact pth_ok h.1
  · rw [e1, e2] at h
    rw [e]
    exact all_app (pth_ok h.1) (all_con (by decide) (made_safe (by decide) h.2))

theorem parse_digits (M : Nat) : ∀ (l : List UInt8) (acc : Nat) (u : Nat), Lib.parseUintM M acc l = .ok u → l.all (Tm.btw 48 57) = true
  | [], _, _, _ => rfl
  | c :: r, acc, u, h => by
    unfold Lib.parseUintM at h
    split at h
    · next hc =>
      split at h
      · cases h
      · split at h
        · cases h
        · exact all_con (decide_eq_true hc) (parse_digits M r _ u h)
    · cases h
theorem port_digits {l : List UInt8} (h : portL l = true) : l.all (Tm.btw 48 57) = true := by
  unfold portL is16 at h
  rw [Bool.and_eq_true] at h
  have h1 := h.1
  split at h1
  · next u hu =>
    unfold Lib.parseUintB at hu
    split at hu
    · cases hu
    · exact parse_digits _ l 0 u hu
  · cases h1

theorem pre_app {p l : List UInt8} (h : p.isPrefixOf l = true) : l = p ++ l.drop p.length := by
  obtain ⟨r, hr⟩ := List.isPrefixOf_iff_prefix.1 h
  subst hr
  rw [List.drop_left]
theorem beh_safe {l : List UInt8} (h : behL l = true) : l.all safeB = true := by
  unfold behL at h
  split at h
  · next hp =>
    rw [pre_app hp]
    rw [Bool.and_eq_true] at h
    refine all_con (by decide) ?_
    show (l.drop 1).all safeB = true
    rw [← hd_tl [47, 63] (l.drop 1)]
    exact all_app (all_imp (fun _ => dig_safe) (port_digits h.1)) (pathQ_safe h.2)
  · exact pathQ_safe h
theorem beh_ends {l : List UInt8} (h : behL l = true) : l = [] ∨ ∃ c t, l = c :: t ∧ (c = 58 ∨ c = 47 ∨ c = 63) := by
  unfold behL at h
  split at h
  · next hp =>
    exact Or.inr ⟨58, l.drop 1, pre_app hp, Or.inl rfl⟩
  · unfold pathQ at h
    rw [Bool.and_eq_true] at h
    cases l with
    | nil => exact Or.inl rfl
    | cons c t =>
      refine Or.inr ⟨c, t, rfl, Or.inr ?_⟩
      by_cases hc : c = 63
      · exact Or.inr hc
      · left
        have hb : before 63 (c :: t) = c :: before 63 t := List.takeWhile_cons_of_pos (by simpa using hc)
        have h1 := h.1
        rw [hb] at h1
        unfold isPth at h1
        rw [Bool.or_eq_true, Bool.and_eq_true] at h1
        rcases h1 with h1 | h1
        · cases h1
        · have := of_decide_eq_true h1.1
          simpa using this

theorem split_all (c : UInt8) (P : UInt8 → Prop) : ∀ l : List UInt8, (∀ p ∈ Tm.split c l, ∀ x ∈ p, P x) → ∀ x ∈ l, x = c ∨ P x
  | [], _, x, hx => by cases hx
  | b :: r, h, x, hx => by
    unfold Tm.split at h
    by_cases hb : b = c
    · rw [if_pos hb] at h
      rcases List.mem_cons.1 hx with rfl | hx
      · exact Or.inl hb
      · exact split_all c P r (fun p hp => h p (List.mem_cons_of_mem _ hp)) x hx
    · rw [if_neg hb] at h
      cases hs : Tm.split c r with
      | nil => exact absurd hs (Tm.split_ne c r)
      | cons y t =>
        rw [hs] at h
        have h1 := h (b :: y) (List.mem_cons_self ..)
        rcases List.mem_cons.1 hx with rfl | hx
        · exact Or.inr (h1 x (List.mem_cons_self ..))
        · refine split_all c P r (fun p hp => ?_) x hx
          rw [hs] at hp
          rcases List.mem_cons.1 hp with rfl | hp
          · exact fun z hz => h1 z (List.mem_cons_of_mem _ hz)
          · exact h p (List.mem_cons_of_mem _ hp)
theorem host_bytes {l : List UInt8} (h : hostN ⟨l.toArray⟩ = true) : ∀ x ∈ l, x = 46 ∨ labB x = true := by
  refine split_all 46 (fun x => labB x = true) l fun p hp x hx => ?_
  unfold hostN tsq.parts at h
  have := List.all_eq_true.1 h ⟨p.toArray⟩ (List.mem_map.2 ⟨p, by simpa using hp, rfl⟩)
  unfold isLab Tm.word at this
  rw [Bool.and_eq_true, Bool.and_eq_true] at this
  exact List.all_eq_true.1 this.1.2 x (by simpa using hx)
theorem host_safe {l : List UInt8} (h : hostN ⟨l.toArray⟩ = true) : l.all safeB = true := List.all_eq_true.2 fun x hx => by
  rcases host_bytes h x hx with rfl | h
  · decide
  · exact lab_safe h
theorem host_at {l : List UInt8} (h : hostN ⟨l.toArray⟩ = true) : ∀ x ∈ l, (atB x && !([47, 63] : List UInt8).contains x) = true := fun x hx => by
  rcases host_bytes h x hx with rfl | h
  · decide
  · exact lab_at h

theorem sec_bracket {i : List UInt8} (h : secI i = true) : ∃ m r, i = m ++ 93 :: r ∧ m.all numB = true ∧ behL r = true := by
  unfold secI at h
  rw [Bool.and_eq_true, Bool.and_eq_true, Bool.and_eq_true] at h
  rcases cut_cases 93 i with ⟨_, _, _, e3⟩ | ⟨m, r, e, _, e1, e2, _⟩
  · rw [e3] at h; cases h.1
  · rw [e1, e2] at h
    exact ⟨m, r, e, h.2.2.1, h.2.2.2⟩
theorem sec_safe {l : List UInt8} (h : secL l = true) : l.all safeB = true := by
  unfold secL at h
  split at h
  · next hp =>
    obtain ⟨m, r, e, h1, h2⟩ := sec_bracket h
    rw [pre_app hp]
    refine all_con (by decide) ?_
    show (l.drop 1).all safeB = true
    rw [e]
    exact all_app (all_imp (fun _ => num_safe) h1) (all_con (by decide) (beh_safe h2))
  · rw [Bool.and_eq_true] at h
    rw [← hd_tl [58, 47, 63] l]
    exact all_app (host_safe h.1) (beh_safe h.2)

/-- no user's name ahead of the path and the query -/
def noAt (l : List UInt8) : Bool := (hd [47, 63] l).all atB
theorem noAt_app {a b : List UInt8} (ha : ∀ x ∈ a, (atB x && !([47, 63] : List UInt8).contains x) = true) (hb : noAt b = true) : noAt (a ++ b) = true := by
  unfold noAt hd at hb ⊢
  rw [List.takeWhile_append_of_pos (fun x hx => (Bool.and_eq_true_iff.1 (ha x hx)).2)]
  exact all_app (List.all_eq_true.2 fun x hx => (Bool.and_eq_true_iff.1 (ha x hx)).1) hb
theorem beh_at {l : List UInt8} (h : behL l = true) : noAt l = true := by
  unfold behL at h
  split at h
  · next hp =>
    rw [pre_app hp]
    rw [Bool.and_eq_true] at h
    refine noAt_app (a := [58]) (fun x hx => ?_) ?_
    · rw [List.mem_singleton.1 hx]; decide
    · unfold noAt
      exact all_imp (fun _ => dig_at) (port_digits h.1)
  · next hp =>
    rcases beh_ends (l := l) (by unfold behL; rw [if_neg hp]; exact h) with rfl | ⟨c, t, rfl, hc⟩
    · rfl
    · rcases hc with rfl | rfl | rfl
      · exact absurd rfl hp
      · rfl
      · rfl
theorem sec_at {l : List UInt8} (h : secL l = true) : noAt l = true := by
  unfold secL at h
  split at h
  · next hp =>
    obtain ⟨m, r, e, h1, h2⟩ := sec_bracket h
    rw [pre_app hp]
    refine noAt_app (a := [91]) (fun x hx => ?_) ?_
    · rw [List.mem_singleton.1 hx]; decide
    · show noAt (l.drop 1) = true
      rw [e]
      refine noAt_app (fun x hx => num_at (List.all_eq_true.1 h1 x hx)) ?_
      refine noAt_app (a := [93]) (fun x hx => ?_) (beh_at h2)
      rw [List.mem_singleton.1 hx]; decide
  · rw [Bool.and_eq_true] at h
    rw [← hd_tl [58, 47, 63] l]
    exact noAt_app (host_at h.1) (beh_at h.2)
theorem noAt_step {c : UInt8} {t : List UInt8} (h : noAt (c :: t) = true) (h1 : c.toNat ≠ 47) (h2 : c.toNat ≠ 63) : c.toNat ≠ 64 ∧ noAt t = true := by
  unfold noAt hd at h
  rw [List.takeWhile_cons_of_pos (by
    have e1 : c ≠ 47 := fun e => h1 (by rw [e]; rfl)
    have e2 : c ≠ 63 := fun e => h2 (by rw [e]; rfl)
    simp [e1, e2]), List.all_cons, Bool.and_eq_true] at h
  exact ⟨of_decide_eq_true h.1, h.2⟩

theorem loc_cases {l : List UInt8} (h : locL l = true) : ((tH 0).isPrefixOf l = true ∧ behL (l.drop 9) = true) ∨ ((tH 0).isPrefixOf l = false ∧ (tH 1).isPrefixOf l = true ∧ behL (l.drop 9) = true) ∨ ((tH 0).isPrefixOf l = false ∧ (tH 1).isPrefixOf l = false ∧ (tH 2).isPrefixOf l = true ∧ behL (l.drop 5) = true) := by
  unfold locL at h
  have h0 := loc_step 0 (by decide) l
  have h1 := loc_step 1 (by decide) l
  have h2 := loc_step 2 (by decide) l
  rw [List.drop_zero] at h0
  rw [h0] at h
  split at h
  · next hp => exact Or.inl ⟨hp, h⟩
  · next hp =>
    rw [Bool.not_eq_true] at hp
    rw [h1] at h
    split at h
    · next hq => exact Or.inr (Or.inl ⟨hp, hq, h⟩)
    · next hq =>
      rw [Bool.not_eq_true] at hq
      rw [h2] at h
      split at h
      · next hr => exact Or.inr (Or.inr ⟨hp, hq, hr, h⟩)
      · cases h
theorem loc_safe {l : List UInt8} (h : locL l = true) : l.all safeB = true := by
  rcases loc_cases h with ⟨hp, hb⟩ | ⟨_, hp, hb⟩ | ⟨_, _, hp, hb⟩
  all_goals
    rw [pre_app hp]
    exact all_app (by decide) (beh_safe hb)

theorem priv_cases {l : List UInt8} (h : privA l = true) : ∃ m t, l = m ++ 58 :: 47 :: t ∧ (∀ x ∈ m, x ≠ 58) ∧ m.contains 46 = true ∧ m.all schB = true ∧ t.head? ≠ some 47 ∧ pathQ (47 :: t) = true := by
  unfold privA privS at h
  rcases cut_cases 58 l with ⟨_, _, e2, _⟩ | ⟨m, r, e, hm, e1, e2, _⟩
  · rw [e2] at h
    simp at h
  · rw [e1, e2] at h
    simp only [Bool.and_eq_true] at h
    obtain ⟨⟨⟨⟨⟨⟨_, _⟩, hs⟩, hd⟩, h1⟩, h2⟩, h3⟩ := h
    cases r with
    | nil => cases h1
    | cons c t =>
      have hc : c = 47 := by
        have := pre_app h1
        simpa using this
      subst hc
      refine ⟨m, t, e, hm, hd, hs, fun ht => ?_, h3⟩
      cases t with
      | nil => cases ht
      | cons d u =>
        have hd2 : d = 47 := by simpa using ht
        subst hd2
        have e3 : ([47, 47] : List UInt8).isPrefixOf (47 :: 47 :: u) = true := by cases u <;> rfl
        rw [e3] at h2
        cases h2
theorem priv_safe {l : List UInt8} (h : privA l = true) : l.all safeB = true := by
  obtain ⟨m, t, e, _, _, hs, _, hq⟩ := priv_cases h
  rw [e]
  exact all_app (all_imp (fun _ => sch_safe) hs) (all_con (by decide) (pathQ_safe hq))

theorem red_len {l : List UInt8} (h : redL l = true) : l.length ≤ 512 := by
  unfold redL at h
  rw [Bool.and_eq_true] at h
  exact of_decide_eq_true h.1
theorem red_secure {l : List UInt8} (h : redL l = true) (hp : mHttps.isPrefixOf l = true) : secL (l.drop 8) = true := by
  unfold redL at h
  rw [Bool.and_eq_true, if_pos hp] at h
  exact h.2
theorem apart_heads {l : List UInt8} (hp : mHttp.isPrefixOf l = true) : mHttps.isPrefixOf l = false := by
  rw [pre_app hp]; rfl
theorem red_local {l : List UInt8} (h : redL l = true) (hp : mHttp.isPrefixOf l = true) : locL (l.drop 7) = true := by
  unfold redL at h
  rw [Bool.and_eq_true, if_neg (by rw [apart_heads hp]; decide), if_pos hp] at h
  exact h.2
theorem red_private {l : List UInt8} (h : redL l = true) (hp : mHttps.isPrefixOf l = false) (hq : mHttp.isPrefixOf l = false) : privA l = true := by
  unfold redL at h
  rw [Bool.and_eq_true, if_neg (by rw [hp]; decide), if_neg (by rw [hq]; decide)] at h
  exact h.2
theorem red_safe {l : List UInt8} (h : redL l = true) : l.all safeB = true := by
  cases hp : mHttps.isPrefixOf l with
  | true =>
    rw [pre_app hp]
    exact all_app (by decide) (sec_safe (red_secure h hp))
  | false =>
    cases hq : mHttp.isPrefixOf l with
    | true =>
      rw [pre_app hq]
      exact all_app (by decide) (loc_safe (red_local h hq))
    | false => exact priv_safe (red_private h hp hq)
theorem red_some {l : List UInt8} (h : redL l = true) : l ≠ [] := by
  rintro rfl
  revert h; decide

end Go.Proofs.YtmdjppjfjkgnpaaDoor.tm
