import Derived.Test.YtmdjppjfjkgnpaaDoorAnsW
namespace Go.Proofs.YtmdjppjfjkgnpaaDoor.tm
open Go.Proofs.YtmdjppjfjkgnpaaDoor.fd (before behind cut_no cut_at index_cases)
open Go.Proofs.YtmdjppjfjkgnpaaDoor.common Go.Proofs.YtmdjppjfjkgnpaaDoor.bk
open Go.Proofs.YtmdjppjfjkgnpaaDoor.pctw (X pr)
open Go.Proofs.YtmdjppjfjkgnpaaDoor.lst (PB)

/-- a text that is read -/
def Good (l : List UInt8) : Prop := ∃ r, Pct.unesc true l = some r
theorem good_nil : Good [] := ⟨[], Pct.unesc_nil true⟩
theorem good_part (c : UInt8) (hc : c ≠ 37) (hx : Pct.hexv c = 16) (b : List UInt8) : ∀ (n : Nat) (a : List UInt8), a.length ≤ n → Good (a ++ c :: b) → Good a ∧ Good b
  | _, [], _, h => by
    rw [List.nil_append] at h
    obtain ⟨r, hr⟩ := h
    by_cases hp : c.toNat < 33 ∨ 126 < c.toNat
    · rw [Pct.unesc_out _ _ _ hp] at hr; cases hr
    · rw [Pct.unesc_one _ _ _ hc hp] at hr
      obtain ⟨r', h', _⟩ := Option.map_eq_some_iff.1 hr
      exact ⟨good_nil, r', h'⟩
  | 0, d :: a, hl, _ => by rw [List.length_cons] at hl; omega
  | n + 1, d :: a, hl, h => by
    rw [List.length_cons] at hl
    rw [List.cons_append] at h
    obtain ⟨r, hr⟩ := h
    by_cases hd : d = 37
    · subst hd
      match a with
      | [] =>
        cases b with
        | nil => rw [Pct.unesc_short _ _ (by simp)] at hr; cases hr
        | cons y b =>
          rw [List.nil_append, Pct.unesc_bad _ _ _ _ (by rw [hx]; omega)] at hr; cases hr
      | [y] =>
        rw [List.singleton_append, Pct.unesc_bad _ _ _ _ (by rw [hx]; omega)] at hr; cases hr
      | y :: z :: a =>
        rw [List.cons_append, List.cons_append] at hr
        by_cases hh : Pct.hexv y < 16 ∧ Pct.hexv z < 16
        · rw [Pct.unesc_pct _ _ _ _ hh.1 hh.2] at hr
          obtain ⟨r', h', _⟩ := Option.map_eq_some_iff.1 hr
          have ih := good_part c hc hx b n a (by rw [List.length_cons, List.length_cons] at hl; omega) ⟨r', h'⟩
          obtain ⟨⟨t, ht⟩, h2⟩ := ih
          exact ⟨⟨_, by rw [Pct.unesc_pct _ _ _ _ hh.1 hh.2, ht]; rfl⟩, h2⟩
        · rw [Pct.unesc_bad _ _ _ _ hh] at hr; cases hr
    · by_cases hp : d.toNat < 33 ∨ 126 < d.toNat
      · rw [Pct.unesc_out _ _ _ hp] at hr; cases hr
      · rw [Pct.unesc_one _ _ _ hd hp] at hr
        obtain ⟨r', h', _⟩ := Option.map_eq_some_iff.1 hr
        have ih := good_part c hc hx b n a (by omega) ⟨r', h'⟩
        obtain ⟨⟨t, ht⟩, h2⟩ := ih
        exact ⟨⟨_, by rw [Pct.unesc_one _ _ _ hd hp, ht]; rfl⟩, h2⟩
theorem good_cut {c : UInt8} (hc : c ≠ 37) (hx : Pct.hexv c = 16) {a b : List UInt8} (h : Good (a ++ c :: b)) : Good a ∧ Good b := good_part c hc hx b a.length a (Nat.le_refl _) h
theorem good_split : ∀ (n : Nat) (l : List UInt8), l.length ≤ n → Good l → ∀ p ∈ Pct.split l, Good p
  | n, l, hl, h, p, hp => by
    rcases cut_cases 38 l with ⟨hn, _, _, _⟩ | ⟨m, r, e, hm, _, _, _⟩
    · rw [Pct.split_one l hn] at hp
      rw [List.mem_singleton.1 hp]; exact h
    · subst e
      obtain ⟨h1, h2⟩ := good_cut (by decide) (by decide) h
      rw [Pct.split_at m r hm] at hp
      rcases List.mem_cons.1 hp with rfl | hp
      · exact h1
      · rw [List.length_append, List.length_cons] at hl
        match n, hl with
        | 0, hl => omega
        | n + 1, hl => exact good_split n r (by omega) h2 p hp
theorem good_pair {p : List UInt8} (h : Good p) : ∃ x, Pct.pair p = some x := by
  have key : Good (Pct.name p) ∧ Good (Pct.value p) := by
    rcases cut_cases 61 p with ⟨hn, _, _, _⟩ | ⟨m, r, e, hm, _, _, _⟩
    · rw [Pct.name_no p hn, Pct.value_no p hn]; exact ⟨h, good_nil⟩
    · subst e
      rw [Pct.name_at m r hm, Pct.value_at m r hm]
      exact good_cut (by decide) (by decide) h
  obtain ⟨⟨a, ha⟩, ⟨b, hb⟩⟩ := key
  unfold Pct.pair
  rw [ha, hb]
  exact ⟨_, rfl⟩
theorem good_all : ∀ l : List (List UInt8), (∀ p ∈ l, Good p) → ∃ x, Pct.pairAll l = some x
  | [], _ => ⟨[], rfl⟩
  | p :: r, h => by
    obtain ⟨x, hx⟩ := good_pair (h p (List.mem_cons_self ..))
    obtain ⟨y, hy⟩ := good_all r fun q hq => h q (List.mem_cons_of_mem _ hq)
    exact ⟨x :: y, by rw [Pct.pairAll_cons, hx, hy]; rfl⟩
theorem good_pairs {l : List UInt8} (h : Good l) : ∃ x, Pct.pairAll (Pct.pieces l) = some x :=
  good_all _ fun p hp => good_split l.length l (Nat.le_refl _) h p (List.mem_filter.1 hp).1
theorem hexB_lt {c : UInt8} (h : hexB c = true) : Pct.hexv c < 16 := of_decide_eq_true (byte_imp hexB (fun c => decide (Pct.hexv c < 16)) (by decide +kernel) h)
theorem made_good : ∀ (n : Nat) (l : List UInt8), l.length ≤ n → madeOf [47, 63] l = true → Good l
  | _, [], _, _ => good_nil
  | 0, c :: r, hl, _ => by rw [List.length_cons] at hl; omega
  | n + 1, c :: r, hl, h => by
    rw [List.length_cons] at hl
    by_cases hc : c = 37
    · subst hc
      rw [made_pct, Bool.and_eq_true] at h
      have hd := h.1
      unfold hasD at hd
      rw [Bool.and_eq_true] at hd
      have h3 := of_decide_eq_true hd.1
      match r, h3 with
      | [], h3 => exact absurd h3 (by simp)
      | [_], h3 => exact absurd h3 (by simp)
      | y :: z :: t, _ =>
        have hx : (hexB y && (hexB z && true)) = true := hd.2
        rw [Bool.and_true, Bool.and_eq_true] at hx
        have ih := made_good n t (by rw [List.length_cons, List.length_cons] at hl; omega) h.2
        obtain ⟨q, hq⟩ := ih
        exact ⟨_, by rw [Pct.unesc_pct _ _ _ _ (hexB_lt hx.1) (hexB_lt hx.2), hq]; rfl⟩
    · rw [made_ok _ _ hc, Bool.and_eq_true] at h
      have hb : ¬ (c.toNat < 33 ∨ 126 < c.toNat) := of_decide_eq_true (byte_imp (okB [47, 63]) (fun c => decide (¬ (c.toNat < 33 ∨ 126 < c.toNat))) (by decide +kernel) h.1)
      obtain ⟨q, hq⟩ := made_good n r (by omega) h.2
      exact ⟨_, by rw [Pct.unesc_one _ _ _ hc hb, hq]; rfl⟩
theorem red_query {l : List UInt8} (h : redL l = true) : madeOf [47, 63] (behind 63 l) = true := by
  rw [← ref_red] at h
  unfold refL at h
  rw [Bool.and_eq_true, Bool.and_eq_true] at h
  exact h.2.1
/-- the pairs of an address's own query -/
theorem red_pairs {l : List UInt8} (h : redL l = true) : ∃ x, Pct.pairAll (Pct.pieces (behind 63 l)) = some x := good_pairs (made_good _ _ (Nat.le_refl _) (red_query h))

/-- the address that comes out -/
def outL (l : List UInt8) (q : List PB) : List UInt8 := if q = [] then l else ansL l (Pct.form (q.map pr))
theorem out_before (l : List UInt8) (q : List PB) : before 63 (outL l q) = before 63 l := by
  unfold outL
  by_cases h : q = []
  · rw [if_pos h]
  · rw [if_neg h]; exact (ans_parts l _).1
theorem out_pieces (l : List UInt8) (q : List PB) : Pct.pieces (behind 63 (outL l q)) = Pct.pieces (behind 63 l) ++ (q.map pr).map Pct.shown := by
  unfold outL
  by_cases h : q = []
  · rw [if_pos h, h]; simp
  · rw [if_neg h]
    unfold ansL
    rw [(ans_parts l _).2.1]
    rcases jnt_cases l with ⟨h0, hj⟩ | ⟨h0, hb, hj⟩ | ⟨h0, hb, hj⟩
    · rw [h0, if_neg (by decide)]
      have hb : behind 63 l = [] := by
        rcases cut_cases 63 l with ⟨_, _, e, _⟩ | ⟨_, _, _, _, _, _, e⟩
        · exact e
        · rw [h0] at e; cases e
      rw [hb, List.nil_append, Pct.pieces_form]; rfl
    · rw [h0, if_pos rfl, hj, hb, List.nil_append, List.nil_append, Pct.pieces_form]; rfl
    · rw [h0, if_pos rfl, hj, List.singleton_append, Pct.pieces_join, Pct.pieces_form]
theorem shown_all : ∀ l : List Pct.Pr, Pct.pairAll (l.map Pct.shown) = some l
  | [] => rfl
  | x :: r => by rw [List.map_cons, Pct.pairAll_cons, Pct.pair_shown, shown_all r]; rfl
theorem out_pairs {l : List UInt8} {x : List Pct.Pr} (h : Pct.pairAll (Pct.pieces (behind 63 l)) = some x) (q : List PB) : Pct.pairAll (Pct.pieces (behind 63 (outL l q))) = some (x ++ q.map pr) := by
  rw [out_pieces, Pct.pairAll_app, h, shown_all]; rfl
end Go.Proofs.YtmdjppjfjkgnpaaDoor.tm
