import Derived.Test.YtilhfmhjgfmejaaGreatDoorMTmRed
namespace Go.Proofs.YtilhfmhjgfmejaaGreatDoor.tm
open Go.Proofs.YtilhfmhjgfmejaaGreatDoor.fd (before behind cut_no cut_at index_cases)
open Go.Proofs.YtilhfmhjgfmejaaGreatDoor.common Go.Proofs.YtilhfmhjgfmejaaGreatDoor.bk

theorem byte_imp (p q : UInt8 → Bool) (h : (List.range 256).all (fun n => !p (UInt8.ofNat n) || q (UInt8.ofNat n)) = true) {b : UInt8} (hb : p b = true) : q b = true := by
  have := List.all_eq_true.1 h b.toNat (List.mem_range.2 b.toNat_lt)
  rw [UInt8.ofNat_toNat, hb] at this
  simpa using this
theorem all_con {p : UInt8 → Bool} {a : UInt8} {b : List UInt8} (ha : p a = true) (hb : b.all p = true) : (a :: b).all p = true := by rw [List.all_cons, ha, hb]; rfl

/-- a text and the first of a byte -/
theorem cut_cases (c : UInt8) (l : List UInt8) : ((∀ x ∈ l, x ≠ c) ∧ before c l = l ∧ behind c l = [] ∧ l.contains c = false) ∨ ∃ m r, l = m ++ c :: r ∧ (∀ x ∈ m, x ≠ c) ∧ before c l = m ∧ behind c l = r ∧ l.contains c = true := by
  rcases index_cases c l with ⟨_, h⟩ | ⟨i, _, _, h3, h4⟩
  · exact Or.inl ⟨h, cut_no h⟩
  · refine Or.inr ⟨_, _, h3, h4, ?_⟩
    have := cut_at (r := l.drop (i + 1)) h4
    rw [← h3] at this
    exact this
theorem parse_digits (M : Nat) : ∀ (l : List UInt8) (acc : Nat) (u : Nat), Lib.parseUintM M acc l = .ok u → l.all (Tm.btw 48 57) = true
  | [], _, _, _ => rfl
  | c :: r, acc, u, h => by
    unfold Lib.parseUintM at h
    split at h
    · next hc =>
      split at h
      · cases h
      · split at h
        · cases h
        · exact all_con (decide_eq_true hc) (parse_digits M r _ u h)
    · cases h
theorem port_digits {l : List UInt8} (h : portL l = true) : l.all (Tm.btw 48 57) = true := by
  unfold portL is16 at h
  rw [Bool.and_eq_true] at h
  have h1 := h.1
  split at h1
  · next u hu =>
    unfold Lib.parseUintB at hu
    split at hu
    · cases hu
    · exact parse_digits _ l 0 u hu
  · cases h1

theorem pre_app {p l : List UInt8} (h : p.isPrefixOf l = true) : l = p ++ l.drop p.length := by
  obtain ⟨r, hr⟩ := List.isPrefixOf_iff_prefix.1 h
  subst hr
  rw [List.drop_left]
theorem split_all (c : UInt8) (P : UInt8 → Prop) : ∀ l : List UInt8, (∀ p ∈ Tm.split c l, ∀ x ∈ p, P x) → ∀ x ∈ l, x = c ∨ P x
  | [], _, x, hx => by cases hx
  | b :: r, h, x, hx => by
    unfold Tm.split at h
    by_cases hb : b = c
    · rw [if_pos hb] at h
      rcases List.mem_cons.1 hx with rfl | hx
      · exact Or.inl hb
      · exact split_all c P r (fun p hp => h p (List.mem_cons_of_mem _ hp)) x hx
    · rw [if_neg hb] at h
      cases hs : Tm.split c r with
      | nil => exact absurd hs (Tm.split_ne c r)
      | cons y t =>
        rw [hs] at h
        have h1 := h (b :: y) (List.mem_cons_self ..)
        rcases List.mem_cons.1 hx with rfl | hx
        · exact Or.inr (h1 x (List.mem_cons_self ..))
        · refine split_all c P r (fun p hp => ?_) x hx
          rw [hs] at hp
          rcases List.mem_cons.1 hp with rfl | hp
          · exact fun z hz => h1 z (List.mem_cons_of_mem _ hz)
          · exact h p (List.mem_cons_of_mem _ hp)
theorem host_bytes {l : List UInt8} (h : hostN ⟨l.toArray⟩ = true) : ∀ x ∈ l, x = 46 ∨ labB x = true := by
  refine split_all 46 (fun x => labB x = true) l fun p hp x hx => ?_
  unfold hostN tsq.parts at h
  have := List.all_eq_true.1 h ⟨p.toArray⟩ (List.mem_map.2 ⟨p, by simpa using hp, rfl⟩)
  unfold isLab Tm.word at this
  rw [Bool.and_eq_true, Bool.and_eq_true] at this
  exact List.all_eq_true.1 this.1.2 x (by simpa using hx)
end Go.Proofs.YtilhfmhjgfmejaaGreatDoor.tm

namespace Go.Proofs.YtilhfmhjgfmejaaGreatDoor.tm
open Go.Proofs.YtilhfmhjgfmejaaGreatDoor.fd (before behind cut_no cut_at index_cases)
open Go.Proofs.YtilhfmhjgfmejaaGreatDoor.common Go.Proofs.YtilhfmhjgfmejaaGreatDoor.bk

/-- the document's words: a port's number -/
def numOf (n : Nat) : List UInt8 → Nat
  | [] => n
  | c :: r => numOf (10 * n + (c.toNat - 48)) r
theorem numOf_ge : ∀ (l : List UInt8) (n : Nat), n ≤ numOf n l
  | [], n => Nat.le_refl _
  | c :: r, n => Nat.le_trans (by omega) (numOf_ge r _)
def portD (l : List UInt8) : Bool := !l.isEmpty && decide (l.length ≤ 5) && decide ((l.headD 0).toNat ≠ 48) && l.all (Tm.btw 48 57) && decide (numOf 0 l ≤ 65535)
def okN : Lib.NumEnd Nat → Bool | .ok _ => true | _ => false
theorem parse_ok (M : Nat) (hM : M < 1844674407370955162) : ∀ (l : List UInt8) (acc : Nat), acc ≤ M → okN (Lib.parseUintM M acc l) = (l.all (Tm.btw 48 57) && decide (numOf acc l ≤ M))
  | [], acc, h => by
    unfold Lib.parseUintM okN numOf
    rw [decide_eq_true h]; rfl
  | c :: r, acc, h => by
    unfold Lib.parseUintM
    by_cases hc : 48 ≤ c.toNat ∧ c.toNat ≤ 57
    · have hb : Tm.btw 48 57 c = true := decide_eq_true hc
      rw [if_pos hc, if_neg (by omega), List.all_cons, hb, Bool.true_and]
      have e : numOf acc (c :: r) = numOf (acc * 10 + (c.toNat - 48)) r := by
        show numOf (10 * acc + (c.toNat - 48)) r = _
        rw [Nat.mul_comm]
      rw [e]
      by_cases hm : M < acc * 10 + (c.toNat - 48)
      · rw [if_pos hm, decide_eq_false (by have := numOf_ge r (acc * 10 + (c.toNat - 48)); omega), Bool.and_false]; rfl
      · rw [if_neg hm]
        exact parse_ok M hM r _ (by omega)
    · have hb : Tm.btw 48 57 c = false := decide_eq_false hc
      rw [if_neg hc, List.all_cons, hb]; rfl
theorem numOf_mul : ∀ (l : List UInt8) (n : Nat), n * 10 ^ l.length ≤ numOf n l
  | [], n => by
    show n * 1 ≤ n
    omega
  | c :: r, n => by
    have := numOf_mul r (10 * n + (c.toNat - 48))
    show n * 10 ^ (r.length + 1) ≤ numOf (10 * n + (c.toNat - 48)) r
    rw [Nat.pow_succ]
    refine Nat.le_trans ?_ this
    rw [show n * (10 ^ r.length * 10) = 10 * n * 10 ^ r.length by rw [Nat.mul_comm (10 ^ r.length) 10, ← Nat.mul_assoc, Nat.mul_comm n 10]]
    exact Nat.mul_le_mul_right _ (by omega)
theorem port_eq (l : List UInt8) : portL l = portD l := by
  unfold portL portD
  cases l with
  | nil => rfl
  | cons c r =>
    have e : is16 (c :: r) = okN (Lib.parseUintM (2 ^ 16 - 1) 0 (c :: r)) := by
      unfold is16 Lib.parseUintB
      rw [if_neg (by exact List.cons_ne_nil _ _)]
      cases Lib.parseUintM (2 ^ 16 - 1) 0 (c :: r) <;> rfl
    obtain ⟨M, hM⟩ : ∃ M, M = 65535 := ⟨_, rfl⟩
    rw [show 2 ^ 16 - 1 = M by rw [hM]] at e
    rw [e, parse_ok M (by omega) _ _ (by omega), ← hM]
    by_cases hl : (c :: r).length ≤ 5
    · rw [decide_eq_true hl]
      cases (c :: r).all (Tm.btw 48 57) <;> cases decide (numOf 0 (c :: r) ≤ M) <;> cases decide (((c :: r).headD 0).toNat ≠ 48) <;> rfl
    · rw [decide_eq_false hl]
      simp only [Bool.and_false, Bool.false_and]
      cases hd : decide (((c :: r).headD 0).toNat ≠ 48) with
      | false => rw [Bool.and_false]
      | true =>
        have h48 : c.toNat ≠ 48 := of_decide_eq_true hd
        rw [Bool.and_true, List.all_cons]
        by_cases hc : 48 ≤ c.toNat ∧ c.toNat ≤ 57
        · have hn : M < numOf 0 (c :: r) := by
            show M < numOf (10 * 0 + (c.toNat - 48)) r
            have h1 := numOf_mul r (10 * 0 + (c.toNat - 48))
            have h2 : 10 ^ 5 ≤ 10 ^ r.length := Nat.pow_le_pow_right (by decide) (by rw [List.length_cons] at hl; omega)
            have h3 : 1 * 10 ^ r.length ≤ (10 * 0 + (c.toNat - 48)) * 10 ^ r.length := Nat.mul_le_mul_right _ (by omega)
            omega
          rw [decide_eq_false (by omega), Bool.and_false]
        · have hb : Tm.btw 48 57 c = false := decide_eq_false hc
          rw [hb]; rfl

/-- the last colon, if no bracket stands behind it -/
def cutLast : List UInt8 → Option (List UInt8 × List UInt8)
  | [] => none
  | c :: r => match cutLast r with
    | some (a, b) => some (c :: a, b)
    | none => if c = 58 ∧ r.contains 93 = false then some ([], r) else none
theorem cutLast_no : ∀ u : List UInt8, (∀ x ∈ u, x ≠ 58) → cutLast u = none
  | [], _ => rfl
  | c :: r, h => by
    rw [cutLast, cutLast_no r fun x hx => h x (List.mem_cons_of_mem _ hx)]
    exact if_neg fun e => h c (List.mem_cons_self ..) e.1
theorem cutLast_some : ∀ a b : List UInt8, (∀ x ∈ b, x ≠ 58) → (∀ x ∈ b, x ≠ 93) → cutLast (a ++ 58 :: b) = some (a, b)
  | [], b, h1, h2 => by
    rw [List.nil_append, cutLast, cutLast_no b h1]
    exact if_pos ⟨rfl, (cut_no h2).2.2⟩
  | c :: a, b, h1, h2 => by
    rw [List.cons_append, cutLast, cutLast_some a b h1 h2]
theorem cutLast_none : ∀ u : List UInt8, (∀ a b, u = a ++ 58 :: b → 93 ∈ b) → cutLast u = none
  | [], _ => rfl
  | c :: r, h => by
    rw [cutLast, cutLast_none r fun a b e => h (c :: a) b (by rw [e]; rfl)]
    refine if_neg fun e => ?_
    have := h [] r (by rw [e.1]; rfl)
    rw [← List.contains_iff_mem, e.2] at this
    cases this
theorem cutLast_inv : ∀ (u a b : List UInt8), cutLast u = some (a, b) → u = a ++ 58 :: b
  | [], a, b, h => by cases h
  | c :: r, a, b, h => by
    rw [cutLast] at h
    cases hr : cutLast r with
    | none =>
      rw [hr] at h
      simp only at h
      split at h
      · next e =>
        have := Option.some.inj h
        have e1 := congrArg Prod.fst this
        have e2 := congrArg Prod.snd this
        simp only at e1 e2
        rw [← e1, ← e2, e.1]; rfl
      · cases h
    | some p =>
      obtain ⟨a', b'⟩ := p
      rw [hr] at h
      simp only at h
      have := Option.some.inj h
      have e1 := congrArg Prod.fst this
      have e2 := congrArg Prod.snd this
      simp only at e1 e2
      rw [← e1, ← e2, cutLast_inv r a' b' hr]; rfl

/-- a host and perhaps a port -/
def siteR (nm : List UInt8 → Bool) (u : List UInt8) : Bool := match cutLast u with
  | some (a, b) => portL b && nm a
  | none => nm u
/-- the three hosts of one's own -/
def isLoc (a : List UInt8) : Bool := decide (a = tH 0) || decide (a = tH 1) || decide (a = tH 2)
/-- in brackets? -/
def brk (u : List UInt8) : Bool := decide (2 < u.length) && decide (u.headD 0 = 91) && decide (u.getLastD 0 = 93)
def hostR (u : List UInt8) : Bool := if brk u then ((u.drop 1).take (u.length - 2)).all numB else hostN ⟨u.toArray⟩
def webR (nm : List UInt8 → Bool) (t : List UInt8) : Bool := siteR nm (hd [47] t) && madeOf [47] (tl [47] t)
def privR (b : List UInt8) : Bool := b.contains 58 && (privS (before 58 b) && [47].isPrefixOf (behind 58 b) && !([47, 47].isPrefixOf (behind 58 b)) && madeOf [47] (behind 58 b))
/-- the document's Redirect -/
def refL (l : List UInt8) : Bool := decide (l.length ≤ 512) && (madeOf [47, 63] (behind 63 l) && (if mHttps.isPrefixOf (before 63 l) then webR hostR ((before 63 l).drop 8) else if mHttp.isPrefixOf (before 63 l) then webR isLoc ((before 63 l).drop 7) else privR (before 63 l)))

/-- the rest of an address behind its path -/
def Rest (q : List UInt8) : Prop := q = [] ∨ ∃ t, q = 63 :: t
/-- a path, as it may begin -/
def Way (p : List UInt8) : Prop := (p = [] ∨ ∃ t, p = 47 :: t) ∧ ∀ x ∈ p, x ≠ 63
theorem pathQ_split {p q : List UInt8} (hp : ∀ x ∈ p, x ≠ 63) (hq : Rest q) : pathQ (p ++ q) = (isPth p && madeOf [47, 63] q.tail) := by
  unfold pathQ
  rcases hq with rfl | ⟨t, rfl⟩
  · rw [List.append_nil, (cut_no hp).1, (cut_no hp).2.1]; rfl
  · rw [(cut_at hp).1, (cut_at hp).2.1]; rfl
theorem isPth_made {p : List UInt8} (h : p = [] ∨ ∃ t, p = 47 :: t) : isPth p = madeOf [47] p := by
  rcases h with rfl | ⟨t, rfl⟩
  · rfl
  · unfold isPth; rfl
theorem hd_app {cs a b : List UInt8} (ha : ∀ x ∈ a, cs.contains x = false) (hb : b = [] ∨ ∃ c t, b = c :: t ∧ cs.contains c = true) : hd cs (a ++ b) = a ∧ tl cs (a ++ b) = b := by
  unfold hd tl
  have h1 : ∀ x ∈ a, (fun b => !cs.contains b) x = true := fun x hx => by simp only [ha x hx]; rfl
  rw [List.takeWhile_append_of_pos h1, List.dropWhile_append_of_pos h1]
  rcases hb with rfl | ⟨c, t, rfl, hc⟩
  · exact ⟨List.append_nil _, rfl⟩
  · rw [List.takeWhile_cons_of_neg (by simp only [hc]; decide), List.dropWhile_cons_of_neg (by simp only [hc]; decide)]
    exact ⟨List.append_nil _, rfl⟩
/-- what stands behind a site -/
theorem way_rest {p q : List UInt8} (hp : Way p) (hq : Rest q) : p ++ q = [] ∨ ∃ c t, p ++ q = c :: t ∧ (c = 47 ∨ c = 63) := by
  rcases hp.1 with rfl | ⟨t, rfl⟩
  · rcases hq with rfl | ⟨t, rfl⟩
    · exact Or.inl rfl
    · exact Or.inr ⟨63, t, rfl, Or.inr rfl⟩
  · exact Or.inr ⟨47, t ++ q, rfl, Or.inl rfl⟩
theorem way_hd {cs p q : List UInt8} (h1 : cs.contains 47 = true) (h2 : cs.contains 63 = true) (hp : Way p) (hq : Rest q) : p ++ q = [] ∨ ∃ c t, p ++ q = c :: t ∧ cs.contains c = true := by
  rcases way_rest hp hq with h | ⟨c, t, e, rfl | rfl⟩
  · exact Or.inl h
  · exact Or.inr ⟨_, t, e, h1⟩
  · exact Or.inr ⟨_, t, e, h2⟩

/-- a port or none -/
def behV : List UInt8 → Bool
  | [] => true
  | c :: t => decide (c = 58) && portL t
theorem behV_port (b : List UInt8) : behV (58 :: b) = portL b := by
  show (decide ((58 : UInt8) = 58) && portL b) = portL b
  rw [decide_eq_true rfl, Bool.true_and]
theorem behV_no {c : UInt8} {t : List UInt8} (h : c ≠ 58) : behV (c :: t) = false := by
  show (decide (c = 58) && portL t) = false
  rw [decide_eq_false h, Bool.false_and]
/-- neither a slash nor a question mark -/
def Flat (v : List UInt8) : Prop := ∀ x ∈ v, x ≠ 47 ∧ x ≠ 63
theorem not23 {x : UInt8} (h : x ≠ 47 ∧ x ≠ 63) : ([47, 63] : List UInt8).contains x = false := by
  rw [Bool.eq_false_iff]
  intro hc
  rcases List.mem_cons.1 (List.contains_iff_mem.1 hc) with e | e
  · exact h.1 e
  · exact h.2 (List.mem_singleton.1 e)
theorem beh_split {v p q : List UInt8} (hv : Flat v) (hp : Way p) (hq : Rest q) : behL (v ++ (p ++ q)) = (behV v && (madeOf [47] p && madeOf [47, 63] q.tail)) := by
  unfold behL
  cases v with
  | nil =>
    rw [List.nil_append, if_neg (by
      intro h
      rcases way_rest hp hq with e | ⟨c, t, e, rfl | rfl⟩
      · rw [e] at h; cases h
      · rw [e] at h; exact absurd (List.cons.inj (pre_app h)).1 (by decide)
      · rw [e] at h; exact absurd (List.cons.inj (pre_app h)).1 (by decide)), pathQ_split hp.2 hq, isPth_made hp.1]
    rfl
  | cons c t =>
    by_cases hc : c = 58
    · subst hc
      have ht : ∀ x ∈ t, ([47, 63] : List UInt8).contains x = false := fun x hx => not23 (hv x (List.mem_cons_of_mem _ hx))
      obtain ⟨e1, e2⟩ := hd_app ht (way_hd (cs := [47, 63]) rfl rfl hp hq)
      rw [if_pos (by rfl)]
      show (portL (hd [47, 63] (t ++ (p ++ q))) && pathQ (tl [47, 63] (t ++ (p ++ q)))) = _
      rw [e1, e2, pathQ_split hp.2 hq, isPth_made hp.1]
      rfl
    · have h1 : ([58] : List UInt8).isPrefixOf (c :: t ++ (p ++ q)) = false := by
        rw [Bool.eq_false_iff]
        intro h
        have := pre_app h
        exact hc (List.cons.inj this).1
      rw [if_neg (by rw [h1]; decide)]
      have h63 : ∀ x ∈ c :: t ++ p, x ≠ 63 := fun x hx => by
        rcases List.mem_append.1 hx with h | h
        · exact (hv x h).2
        · exact hp.2 x h
      rw [← List.append_assoc, pathQ_split h63 hq]
      have e : isPth (c :: t ++ p) = false := by
        unfold isPth
        have : c ≠ 47 := (hv c (List.mem_cons_self ..)).1
        rw [List.cons_append, List.isEmpty_cons, Bool.false_or, List.head?_cons, decide_eq_false (fun e => this (Option.some.inj e))]
        rfl
      rw [e, behV_no hc]; rfl

def secV (u : List UInt8) : Bool := if [91].isPrefixOf u then (u.drop 1).contains 93 && (!(before 93 (u.drop 1)).isEmpty && ((before 93 (u.drop 1)).all numB && behV (behind 93 (u.drop 1)))) else hostN ⟨(hd [58] u).toArray⟩ && behV (tl [58] u)
theorem num_flat {x : UInt8} (h : numB x = true) : x ≠ 47 ∧ x ≠ 63 ∧ x ≠ 93 := by
  have := byte_imp numB (fun b => decide (b ≠ 47 ∧ b ≠ 63 ∧ b ≠ 93)) (by decide +kernel) h
  exact of_decide_eq_true this
theorem tw_mem (p : UInt8 → Bool) : ∀ (l : List UInt8) (x : UInt8), x ∈ l.takeWhile p → p x = true
  | [], x, h => by cases h
  | c :: t, x, h => by
    by_cases hc : p c = true
    · rw [List.takeWhile_cons_of_pos hc] at h
      rcases List.mem_cons.1 h with rfl | h
      · exact hc
      · exact tw_mem p t x h
    · rw [List.takeWhile_cons_of_neg hc] at h; cases h
theorem hd_all (cs l : List UInt8) : ∀ x ∈ hd cs l, cs.contains x = false := fun x hx => by
  have := tw_mem _ _ _ hx
  simpa using this
theorem tl_head (cs l : List UInt8) : tl cs l = [] ∨ ∃ c t, tl cs l = c :: t ∧ cs.contains c = true := by
  induction l with
  | nil => exact Or.inl rfl
  | cons c t ih =>
    unfold tl
    by_cases hc : cs.contains c = true
    · exact Or.inr ⟨c, t, List.dropWhile_cons_of_neg (by rw [hc]; decide), hc⟩
    · rw [List.dropWhile_cons_of_pos (by rw [Bool.not_eq_true] at hc; rw [hc]; rfl)]
      exact ih
theorem sec_split {u p q : List UInt8} (hu : Flat u) (hp : Way p) (hq : Rest q) : secL (u ++ (p ++ q)) = (secV u && (madeOf [47] p && madeOf [47, 63] q.tail)) := by
  unfold secL secV
  cases hb : ([91] : List UInt8).isPrefixOf u with
  | true =>
    obtain ⟨i, rfl⟩ : ∃ i, u = 91 :: i := ⟨u.drop 1, pre_app hb⟩
    rw [if_pos (by rfl), if_pos rfl]
    show secI (i ++ (p ++ q)) = (i.contains 93 && (!(before 93 i).isEmpty && ((before 93 i).all numB && behV (behind 93 i))) && _)
    unfold secI
    rcases cut_cases 93 i with ⟨hn, _, _, e3⟩ | ⟨m, r, e, hm, e1, e2, e3⟩
    · rw [e3, Bool.false_and, Bool.false_and]
      rcases cut_cases 93 (i ++ (p ++ q)) with ⟨_, _, _, f3⟩ | ⟨m, r, f, hm, f1, f2, f3⟩
      · rw [f3, Bool.false_and]
      · rw [f1]
        have hall : m.all numB = false := by
          rw [Bool.eq_false_iff]
          intro hall
          -- the first of what stands behind i is in m
          have h93 : (93 : UInt8) ∈ i ++ (p ++ q) := List.contains_iff_mem.1 f3
          rcases List.mem_append.1 h93 with h | h
          · exact hn _ h rfl
          · rcases way_rest hp hq with e | ⟨c, t, e, hc⟩
            · rw [e] at h; cases h
            · rw [e] at f
              have hpre : ∃ z, m = i ++ c :: z := by
                rcases List.append_eq_append_iff.1 f with ⟨z, h1, h2⟩ | ⟨z, h1, h2⟩
                · cases z with
                  | nil =>
                    rw [List.nil_append] at h2
                    have := (List.cons.inj h2).1
                    rcases hc with rfl | rfl
                    · exact absurd this (by decide)
                    · exact absurd this (by decide)
                  | cons y z =>
                    have := (List.cons.inj h2).1
                    exact ⟨z, by rw [h1, this]⟩
                · exfalso
                  cases z with
                  | nil =>
                    rw [List.nil_append] at h2
                    have := (List.cons.inj h2).1
                    rcases hc with rfl | rfl
                    · exact absurd this (by decide)
                    · exact absurd this (by decide)
                  | cons y z =>
                    have := (List.cons.inj h2).1
                    exact hn 93 (by rw [h1, this]; simp) rfl
              obtain ⟨z, rfl⟩ := hpre
              have := num_flat (List.all_eq_true.1 hall c (by simp))
              rcases hc with rfl | rfl
              · exact this.1 rfl
              · exact this.2.1 rfl
        rw [hall, Bool.false_and, Bool.and_false, Bool.and_false]
    · subst e
      rw [e1, e2, e3, List.append_assoc, List.cons_append, (cut_at hm).1, (cut_at hm).2.1, (cut_at hm).2.2]
      have hr : Flat r := fun x hx => hu x (by simp [hx])
      rw [beh_split hr hp hq]
      cases m.isEmpty <;> cases m.all numB <;> simp
  | false =>
    have h2 : ([91] : List UInt8).isPrefixOf (u ++ (p ++ q)) = false := by
      rw [Bool.eq_false_iff]
      intro h
      have := pre_app h
      cases u with
      | nil =>
        rcases way_rest hp hq with e | ⟨c, t, e, hc⟩
        · rw [List.nil_append, e] at h; cases h
        · rw [List.nil_append, e] at this
          have := (List.cons.inj this).1
          rcases hc with rfl | rfl
          · exact absurd this (by decide)
          · exact absurd this (by decide)
      | cons c t =>
        have := (List.cons.inj this).1
        have e91 : ([91] : List UInt8).isPrefixOf (91 :: t) = true := by cases t <;> rfl
        rw [this, e91] at hb
        cases hb
    rw [if_neg (by rw [h2]; decide), if_neg (by decide)]
    obtain ⟨a, v, ha, hv⟩ : ∃ a v, hd [58] u = a ∧ tl [58] u = v := ⟨_, _, rfl, rfl⟩
    have hav := hd_tl [58] u
    have h58 := hd_all [58] u
    have hv2 := tl_head [58] u
    rw [ha, hv] at hav
    rw [ha] at h58
    rw [hv] at hv2
    rw [ha, hv]
    have f : ∀ x ∈ a, ([58, 47, 63] : List UInt8).contains x = false := fun x hx => by
      have h1 := h58 x hx
      have h2 := not23 (hu x (by rw [← hav]; exact List.mem_append_left _ hx))
      simp only [List.contains_cons, List.contains_nil, Bool.or_false, Bool.or_eq_false_iff] at h1 h2 ⊢
      exact ⟨h1, h2⟩
    have g : v ++ (p ++ q) = [] ∨ ∃ c t, v ++ (p ++ q) = c :: t ∧ ([58, 47, 63] : List UInt8).contains c = true := by
      rcases hv2 with rfl | ⟨c, t, rfl, hc⟩
      · rw [List.nil_append]
        exact way_hd (cs := [58, 47, 63]) rfl rfl hp hq
      · refine Or.inr ⟨c, t ++ (p ++ q), rfl, ?_⟩
        have : c = 58 := by simpa using hc
        rw [this]; rfl
    rw [← hav, List.append_assoc, (hd_app f g).1, (hd_app f g).2]
    have hvf : Flat v := fun x hx => hu x (by rw [← hav]; exact List.mem_append_right _ hx)
    rw [beh_split hvf hp hq, Bool.and_assoc]

theorem dig_no {t : List UInt8} (h : portL t = true) : (∀ x ∈ t, x ≠ 58) ∧ (∀ x ∈ t, x ≠ 93) := by
  have hd := port_digits h
  have f : ∀ x ∈ t, x ≠ 58 ∧ x ≠ 93 := fun x hx => of_decide_eq_true (byte_imp (Tm.btw 48 57) (fun b => decide (b ≠ 58 ∧ b ≠ 93)) (by decide +kernel) (List.all_eq_true.1 hd x hx))
  exact ⟨fun x hx => (f x hx).1, fun x hx => (f x hx).2⟩
theorem behV_cases {v : List UInt8} (h : behV v = true) : v = [] ∨ ∃ t, v = 58 :: t ∧ portL t = true := by
  cases v with
  | nil => exact Or.inl rfl
  | cons c t =>
    unfold behV at h
    rw [Bool.and_eq_true] at h
    exact Or.inr ⟨t, by rw [of_decide_eq_true h.1], h.2⟩
theorem brk_cases {u : List UInt8} (h : brk u = true) : ∃ m, u = 91 :: (m ++ [93]) ∧ m ≠ [] ∧ (u.drop 1).take (u.length - 2) = m := by
  unfold brk at h
  rw [Bool.and_eq_true, Bool.and_eq_true] at h
  have h1 := of_decide_eq_true h.1.1
  have h2 := of_decide_eq_true h.1.2
  have h3 := of_decide_eq_true h.2
  cases u with
  | nil => cases h1
  | cons c r =>
    have hc : c = 91 := h2
    subst hc
    have hr : r ≠ [] := fun e => by rw [e] at h1; exact absurd h1 (by decide)
    have hl : r.getLast hr = 93 := by
      have : (91 :: r).getLastD 0 = r.getLast hr := by
        rw [List.getLastD_eq_getLast?, List.getLast?_cons_of_ne_nil hr, List.getLast?_eq_some_getLast hr]; rfl
      rw [← this]; exact h3
    have e := List.dropLast_concat_getLast hr
    rw [hl] at e
    refine ⟨r.dropLast, by rw [e], fun e2 => ?_, ?_⟩
    · rw [e2] at e
      rw [← e] at h1
      exact absurd h1 (by decide)
    · show r.take (r.length + 1 - 2) = r.dropLast
      rw [List.dropLast_eq_take]
      congr 1
theorem brk_of (m : List UInt8) (h : m ≠ []) : brk (91 :: (m ++ [93])) = true ∧ ((91 :: (m ++ [93])).drop 1).take ((91 :: (m ++ [93])).length - 2) = m := by
  constructor
  · unfold brk
    have : 0 < m.length := List.length_pos_iff.2 h
    rw [decide_eq_true (by rw [List.length_cons, List.length_append, List.length_singleton]; omega), decide_eq_true (by rfl), decide_eq_true (by rw [← List.cons_append, List.getLastD_eq_getLast?, List.getLast?_append]; rfl)]
    rfl
  · show (m ++ [93]).take ((m ++ [93]).length + 1 - 2) = m
    rw [List.length_append, List.length_singleton, show m.length + 1 + 1 - 2 = m.length by omega, List.take_left]
theorem host_head {u : List UInt8} (h : hostN ⟨u.toArray⟩ = true) : (∀ x ∈ u, x ≠ 58) ∧ (∀ x ∈ u, x ≠ 91) := by
  have f : ∀ x ∈ u, x ≠ 58 ∧ x ≠ 91 := fun x hx => by
    rcases host_bytes h x hx with rfl | h
    · decide
    · exact of_decide_eq_true (byte_imp labB (fun b => decide (b ≠ 58 ∧ b ≠ 91)) (by decide +kernel) h)
  exact ⟨fun x hx => (f x hx).1, fun x hx => (f x hx).2⟩
theorem hostR_flat {u : List UInt8} (h : u.headD 0 ≠ 91) : hostR u = hostN ⟨u.toArray⟩ := by
  unfold hostR
  rw [if_neg]
  intro hb
  obtain ⟨m, e, _⟩ := brk_cases hb
  rw [e] at h
  exact h rfl
theorem hostR_open {i : List UInt8} (h : hostR (91 :: i) = true) : ∃ m, i = m ++ [93] ∧ m ≠ [] ∧ m.all numB = true := by
  unfold hostR at h
  cases hb : brk (91 :: i) with
  | true =>
    rw [hb, if_pos rfl] at h
    obtain ⟨m, e, hm, e2⟩ := brk_cases hb
    rw [e2] at h
    exact ⟨m, (List.cons.inj e).2, hm, h⟩
  | false =>
    rw [hb, if_neg (by decide)] at h
    exact absurd rfl ((host_head h).2 91 (List.mem_cons_self ..))
theorem num_no {m : List UInt8} (h : m.all numB = true) : ∀ x ∈ m, x ≠ 93 := fun x hx => (num_flat (List.all_eq_true.1 h x hx)).2.2
theorem hostR_brk {m : List UInt8} (hm : m ≠ []) (h : m.all numB = true) : hostR (91 :: (m ++ [93])) = true := by
  unfold hostR
  rw [(brk_of m hm).1, if_pos rfl, (brk_of m hm).2]
  exact h
theorem cut_brk (m : List UInt8) : cutLast (91 :: (m ++ [93])) = none := by
  refine cutLast_none _ fun a b e => ?_
  have hne : b ≠ [] := fun e2 => by
    rw [e2] at e
    have := congrArg List.getLast? e
    rw [← List.cons_append, List.getLast?_append, List.getLast?_append] at this
    exact absurd (Option.some.inj this) (by decide)
  have := congrArg List.getLast? e
  rw [← List.cons_append, List.getLast?_append, List.getLast?_append, List.getLast?_cons_of_ne_nil hne, List.getLast?_eq_some_getLast hne] at this
  have h2 : (93 : UInt8) = b.getLast hne := Option.some.inj this
  rw [h2]
  exact List.getLast_mem hne
theorem nem {m : List UInt8} (h : m ≠ []) : (!m.isEmpty) = true := by
  cases m with
  | nil => exact absurd rfl h
  | cons _ _ => rfl
theorem sec_site (u : List UInt8) : secV u = siteR hostR u := by
  rw [Bool.eq_iff_iff]
  cases hb : ([91] : List UInt8).isPrefixOf u with
  | true =>
    obtain ⟨i, rfl⟩ : ∃ i, u = 91 :: i := ⟨u.drop 1, pre_app hb⟩
    unfold secV
    rw [hb, if_pos rfl]
    show (i.contains 93 && (!(before 93 i).isEmpty && ((before 93 i).all numB && behV (behind 93 i)))) = true ↔ _
    have go : ∀ m r : List UInt8, i = m ++ 93 :: r → m ≠ [] → m.all numB = true → behV r = true → (i.contains 93 && (!(before 93 i).isEmpty && ((before 93 i).all numB && behV (behind 93 i)))) = true := by
      intro m r e hm h1 h2
      rw [e, (cut_at (num_no h1)).1, (cut_at (num_no h1)).2.1, (cut_at (num_no h1)).2.2, nem hm, h1, h2]; rfl
    constructor
    · intro h
      rw [Bool.and_eq_true, Bool.and_eq_true, Bool.and_eq_true] at h
      rcases cut_cases 93 i with ⟨_, _, _, e3⟩ | ⟨m, r, e, hm, e1, e2, e3⟩
      · rw [e3] at h; cases h.1
      · rw [e1, e2] at h
        have hne : m ≠ [] := fun e => by rw [e] at h; cases h.2.1
        subst e
        unfold siteR
        rcases behV_cases h.2.2.2 with rfl | ⟨t, rfl, ht⟩
        · rw [cut_brk m]
          exact hostR_brk hne h.2.2.1
        · rw [show (91 :: (m ++ 93 :: 58 :: t)) = (91 :: (m ++ [93])) ++ 58 :: t by simp, cutLast_some _ _ (dig_no ht).1 (dig_no ht).2]
          show (portL t && hostR (91 :: (m ++ [93]))) = true
          rw [ht, hostR_brk hne h.2.2.1]; rfl
    · intro h
      unfold siteR at h
      cases hc : cutLast (91 :: i) with
      | none =>
        rw [hc] at h
        obtain ⟨m, e, hm, h1⟩ := hostR_open h
        exact go m [] e hm h1 rfl
      | some ab =>
        obtain ⟨a, b⟩ := ab
        rw [hc] at h
        simp only [Bool.and_eq_true] at h
        have e := cutLast_inv _ _ _ hc
        cases a with
        | nil => exact absurd (List.cons.inj e).1 (by decide)
        | cons c a =>
          obtain rfl : (91 : UInt8) = c := (List.cons.inj e).1
          obtain ⟨m, e2, hm, h1⟩ := hostR_open h.2
          refine go m (58 :: b) ?_ hm h1 ?_
          · rw [(List.cons.inj e).2, e2]; simp
          · rw [behV_port]; exact h.1
  | false =>
    unfold secV
    rw [hb, if_neg (by decide), Bool.and_eq_true]
    have h91 : u.headD 0 ≠ 91 := by
      intro e
      cases u with
      | nil => exact absurd e (by decide)
      | cons c t =>
        have : c = 91 := e
        have e91 : ([91] : List UInt8).isPrefixOf (91 :: t) = true := by cases t <;> rfl
        rw [this, e91] at hb
        cases hb
    have headA : ∀ a r : List UInt8, u = a ++ r → a.headD 0 ≠ 91 := fun a r e => by
      cases a with
      | nil => decide
      | cons c a => rw [e] at h91; exact h91
    constructor
    · rintro ⟨h1, h2⟩
      have hav := hd_tl [58] u
      unfold siteR
      rcases behV_cases h2 with e | ⟨t, e, ht⟩
      · rw [e, List.append_nil] at hav
        rw [hav] at h1
        rw [cutLast_no u (host_head h1).1]
        show hostR u = true
        rw [hostR_flat h91]; exact h1
      · rw [e] at hav
        have := cutLast_some (hd [58] u) t (dig_no ht).1 (dig_no ht).2
        rw [hav] at this
        rw [this]
        show (portL t && hostR (hd [58] u)) = true
        rw [hostR_flat (headA _ _ hav.symm), ht, h1]; rfl
    · intro h
      unfold siteR at h
      have key : ∀ a v : List UInt8, u = a ++ v → hostN ⟨a.toArray⟩ = true → (v = [] ∨ ∃ t, v = 58 :: t) → hd [58] u = a ∧ tl [58] u = v := fun a v e ha hv => by
        rw [e]
        refine hd_app (fun x hx => ?_) ?_
        · rw [Bool.eq_false_iff]
          intro hc
          exact (host_head ha).1 x hx (by simpa using hc)
        · rcases hv with rfl | ⟨t, rfl⟩
          · exact Or.inl rfl
          · exact Or.inr ⟨58, t, rfl, rfl⟩
      cases hc : cutLast u with
      | none =>
        rw [hc] at h
        have h2 : hostN ⟨u.toArray⟩ = true := by rw [← hostR_flat h91]; exact h
        obtain ⟨k1, k2⟩ := key u [] (List.append_nil _).symm h2 (Or.inl rfl)
        rw [k1, k2]
        exact ⟨h2, rfl⟩
      | some ab =>
        obtain ⟨a, b⟩ := ab
        rw [hc] at h
        simp only [Bool.and_eq_true] at h
        have e := cutLast_inv _ _ _ hc
        have h2 : hostN ⟨a.toArray⟩ = true := by rw [← hostR_flat (headA _ _ e)]; exact h.2
        obtain ⟨k1, k2⟩ := key a _ e h2 (Or.inr ⟨b, rfl⟩)
        rw [k1, k2]
        refine ⟨h2, ?_⟩
        rw [behV_port]; exact h.1

def locV (u : List UInt8) : Bool := if (tH 0).isPrefixOf u then behV (u.drop 9) else if (tH 1).isPrefixOf u then behV (u.drop 9) else if (tH 2).isPrefixOf u then behV (u.drop 5) else false
theorem pre_of (p r : List UInt8) : p.isPrefixOf (p ++ r) = true := List.isPrefixOf_iff_prefix.2 ⟨r, rfl⟩
theorem pre_flat : ∀ (h u e : List UInt8), Flat h → (e = [] ∨ ∃ c t, e = c :: t ∧ (c = 47 ∨ c = 63)) → h.isPrefixOf (u ++ e) = h.isPrefixOf u
  | [], u, e, _, _ => by rw [pre_empty, pre_empty]
  | x :: h, [], e, hf, he => by
    rw [List.nil_append]
    rcases he with rfl | ⟨c, t, rfl, hc⟩
    · rfl
    · have hx := hf x (List.mem_cons_self ..)
      have : (x == c) = false := by
        rw [beq_eq_false_iff_ne]
        rintro rfl
        rcases hc with h | h
        · exact hx.1 h
        · exact hx.2 h
      show (x == c && h.isPrefixOf t) = false
      rw [this]; rfl
  | x :: h, y :: u, e, hf, he => by
    show (x == y && h.isPrefixOf (u ++ e)) = (x == y && h.isPrefixOf u)
    rw [pre_flat h u e (fun z hz => hf z (List.mem_cons_of_mem _ hz)) he]
theorem flat_of {h : List UInt8} (e : h.all (fun x => decide (x ≠ 47 ∧ x ≠ 63)) = true) : Flat h := fun x hx => of_decide_eq_true (List.all_eq_true.1 e x hx)
theorem flatH (k : Nat) (hk : k < 3) : Flat (tH k) := by
  match k, hk with
  | 0, _ => exact flat_of (by decide)
  | 1, _ => exact flat_of (by decide)
  | 2, _ => exact flat_of (by decide)
theorem drop_pre {h u : List UInt8} (hp : h.isPrefixOf u = true) (e : List UInt8) : (u ++ e).drop h.length = u.drop h.length ++ e := by
  have := pre_app hp
  have hl : h.length ≤ u.length := by
    have := congrArg List.length this
    rw [List.length_append] at this
    omega
  rw [List.drop_append_of_le_length hl]
theorem loc_split {u p q : List UInt8} (hu : Flat u) (hp : Way p) (hq : Rest q) : locL (u ++ (p ++ q)) = (locV u && (madeOf [47] p && madeOf [47, 63] q.tail)) := by
  unfold locL locV
  have h0 := loc_step 0 (by decide) (u ++ (p ++ q))
  have h1 := loc_step 1 (by decide) (u ++ (p ++ q))
  have h2 := loc_step 2 (by decide) (u ++ (p ++ q))
  rw [pre_flat _ _ _ (flatH 0 (by decide)) (way_rest hp hq)] at h0
  rw [pre_flat _ _ _ (flatH 1 (by decide)) (way_rest hp hq)] at h1
  rw [pre_flat _ _ _ (flatH 2 (by decide)) (way_rest hp hq)] at h2
  rw [List.drop_zero] at h0
  have hfd : ∀ n, Flat (u.drop n) := fun n x hx => hu x (List.mem_of_mem_drop hx)
  rw [h0]
  cases e0 : (tH 0).isPrefixOf u with
  | true =>
    rw [if_pos rfl, if_pos rfl, drop_pre e0, beh_split (hfd _) hp hq]; rfl
  | false =>
    rw [if_neg (by decide), if_neg (by decide), h1]
    cases e1 : (tH 1).isPrefixOf u with
    | true => rw [if_pos rfl, if_pos rfl, drop_pre e1, beh_split (hfd _) hp hq]; rfl
    | false =>
      rw [if_neg (by decide), if_neg (by decide), h2]
      cases e2 : (tH 2).isPrefixOf u with
      | true => rw [if_pos rfl, if_pos rfl, drop_pre e2, beh_split (hfd _) hp hq]; rfl
      | false => rw [if_neg (by decide), if_neg (by decide)]; rfl
theorem isLoc_cases {a : List UInt8} (h : isLoc a = true) : a = tH 0 ∨ a = tH 1 ∨ a = tH 2 := by
  unfold isLoc at h
  rw [Bool.or_eq_true, Bool.or_eq_true] at h
  rcases h with (h | h) | h
  · exact Or.inl (of_decide_eq_true h)
  · exact Or.inr (Or.inl (of_decide_eq_true h))
  · exact Or.inr (Or.inr (of_decide_eq_true h))
theorem locV_of {a v : List UInt8} (h : isLoc a = true) : locV (a ++ v) = behV v := by
  rcases isLoc_cases h with rfl | rfl | rfl <;> rfl
theorem site_of (a v : List UInt8) (ha : isLoc a = true) (hv : behV v = true) : siteR isLoc (a ++ v) = true := by
  unfold siteR
  rcases behV_cases hv with rfl | ⟨t, rfl, ht⟩
  · rw [List.append_nil]
    have : cutLast a = none := by rcases isLoc_cases ha with rfl | rfl | rfl <;> decide
    rw [this]; exact ha
  · rw [cutLast_some _ _ (dig_no ht).1 (dig_no ht).2]
    show (portL t && isLoc a) = true
    rw [ht, ha]; rfl
theorem loc_site (u : List UInt8) : locV u = siteR isLoc u := by
  rw [Bool.eq_iff_iff]
  constructor
  · intro h
    have key : ∀ k, k < 3 → (tH k).isPrefixOf u = true → behV (u.drop (tH k).length) = true → siteR isLoc u = true := fun k hk hp hb => by
      have e := pre_app hp
      rw [e]
      refine site_of _ _ ?_ hb
      match k, hk with
      | 0, _ => decide
      | 1, _ => decide
      | 2, _ => decide
    unfold locV at h
    split at h
    · next hp => exact key 0 (by decide) hp h
    · split at h
      · next hp => exact key 1 (by decide) hp h
      · split at h
        · next hp => exact key 2 (by decide) hp h
        · cases h
  · intro h
    unfold siteR at h
    cases hc : cutLast u with
    | none =>
      rw [hc] at h
      have := locV_of (a := u) (v := []) h
      rw [List.append_nil] at this
      rw [this]; rfl
    | some ab =>
      obtain ⟨a, b⟩ := ab
      rw [hc] at h
      simp only [Bool.and_eq_true] at h
      rw [cutLast_inv _ _ _ hc, locV_of h.2]
      rw [behV_port]; exact h.1

theorem sch_flat {x : UInt8} (h : schB x = true) : x ≠ 63 ∧ x ≠ 58 := of_decide_eq_true (byte_imp schB (fun b => decide (b ≠ 63 ∧ b ≠ 58)) (by decide +kernel) h)
theorem priv_eq {b q : List UInt8} (hb : ∀ x ∈ b, x ≠ 63) (hq : Rest q) : privA (b ++ q) = (privR b && madeOf [47, 63] q.tail) := by
  unfold privA privR
  rcases cut_cases 58 b with ⟨hn, e1, e2, e3⟩ | ⟨m, r, rfl, hm, e1, e2, e3⟩
  · rw [e3, Bool.false_and, Bool.false_and]
    rcases hq with rfl | ⟨t, rfl⟩
    · rw [List.append_nil, e2]
      simp [List.isPrefixOf]
    · have hs : privS (before 58 (b ++ 63 :: t)) = false := by
        unfold before
        rw [List.takeWhile_append_of_pos (fun x hx => decide_eq_true (hn x hx)), List.takeWhile_cons_of_pos (by decide)]
        unfold privS
        have : (b ++ 63 :: List.takeWhile (fun x => decide (x ≠ 58)) t).all schB = false := by
          rw [Bool.eq_false_iff]
          intro h
          exact (sch_flat (List.all_eq_true.1 h 63 (by simp))).1 rfl
        rw [this, Bool.and_false, Bool.false_and]
      rw [hs]; rfl
  · rw [e1, e2, e3, List.append_assoc, List.cons_append, (cut_at hm).1, (cut_at hm).2.1, Bool.true_and]
    have hr : ∀ x ∈ r, x ≠ 63 := fun x hx => hb x (by simp [hx])
    rw [pathQ_split hr hq]
    have p1 : ([47] : List UInt8).isPrefixOf (r ++ q) = [47].isPrefixOf r := by
      cases r with
      | nil => rcases hq with rfl | ⟨t, rfl⟩ <;> rfl
      | cons c r => rfl
    have p2 : ([47, 47] : List UInt8).isPrefixOf (r ++ q) = [47, 47].isPrefixOf r := by
      match r with
      | [] => rcases hq with rfl | ⟨t, rfl⟩ <;> rfl
      | [c] => rcases hq with rfl | ⟨t, rfl⟩ <;> simp [List.isPrefixOf]
      | c :: d :: r => simp [List.isPrefixOf]
    rw [p1, p2]
    cases h1 : ([47] : List UInt8).isPrefixOf r with
    | false => simp
    | true =>
      rw [isPth_made (Or.inr ⟨r.drop 1, pre_app h1⟩)]
      simp only [Bool.and_assoc]

theorem before_flat (l : List UInt8) : ∀ x ∈ before 63 l, x ≠ 63 := fun x hx => by
  exact of_decide_eq_true (tw_mem _ _ _ hx)
theorem base_rest (l : List UInt8) : ∃ q, l = before 63 l ++ q ∧ Rest q ∧ behind 63 l = q.tail := by
  rcases cut_cases 63 l with ⟨_, e1, e2, _⟩ | ⟨m, r, e, _, e1, e2, _⟩
  · exact ⟨[], by rw [e1, List.append_nil], Or.inl rfl, e2⟩
  · exact ⟨63 :: r, by rw [e1]; exact e, Or.inr ⟨r, rfl⟩, e2⟩
theorem web_parts (t : List UInt8) (h : ∀ x ∈ t, x ≠ 63) : Flat (hd [47] t) ∧ Way (tl [47] t) := by
  have e := hd_tl [47] t
  refine ⟨fun x hx => ⟨?_, h x (by rw [← e]; exact List.mem_append_left _ hx)⟩, ?_, fun x hx => h x (by rw [← e]; exact List.mem_append_right _ hx)⟩
  · rintro rfl
    exact absurd (hd_all [47] t _ hx) (by decide)
  · rcases tl_head [47] t with h | ⟨c, r, h, hc⟩
    · exact Or.inl h
    · have : c = 47 := by simpa using hc
      exact Or.inr ⟨r, by rw [h, this]⟩
theorem pre_base {h b q : List UInt8} (hh : h.all (fun x => decide (x ≠ 63)) = true) (hq : Rest q) : h.isPrefixOf (b ++ q) = h.isPrefixOf b := by
  induction h generalizing b with
  | nil => rw [pre_empty, pre_empty]
  | cons x h ih =>
    rw [List.all_cons, Bool.and_eq_true] at hh
    cases b with
    | nil =>
      rw [List.nil_append]
      rcases hq with rfl | ⟨t, rfl⟩
      · rfl
      · show (x == 63 && h.isPrefixOf t) = false
        rw [beq_eq_false_iff_ne.2 (of_decide_eq_true hh.1)]; rfl
    | cons y b =>
      show (x == y && h.isPrefixOf (b ++ q)) = (x == y && h.isPrefixOf b)
      rw [ih hh.2]
/-- the document's answer is the program's -/
theorem ref_red (l : List UInt8) : refL l = redL l := by
  unfold refL redL
  congr 1
  obtain ⟨q, e, hq, e2⟩ := base_rest l
  have hb := before_flat l
  rw [e2]
  generalize before 63 l = b at *
  subst e
  rw [pre_base (h := mHttps) (by decide) hq, pre_base (h := mHttp) (by decide) hq]
  cases h1 : mHttps.isPrefixOf b with
  | true =>
    rw [if_pos rfl, if_pos rfl]
    have hd8 := drop_pre h1 q
    have hbd : ∀ x ∈ b.drop 8, x ≠ 63 := fun x hx => hb x (List.mem_of_mem_drop hx)
    obtain ⟨w1, w2⟩ := web_parts _ hbd
    rw [show (b ++ q).drop 8 = hd [47] (b.drop 8) ++ (tl [47] (b.drop 8) ++ q) by rw [← List.append_assoc, hd_tl]; exact hd8, sec_split w1 w2 hq, sec_site]
    unfold webR
    rw [Bool.and_comm, Bool.and_assoc]
  | false =>
    rw [if_neg (show ¬ (false = true) by decide), if_neg (show ¬ (false = true) by decide)]
    cases h2 : mHttp.isPrefixOf b with
    | true =>
      rw [if_pos rfl, if_pos rfl]
      have hd7 := drop_pre h2 q
      have hbd : ∀ x ∈ b.drop 7, x ≠ 63 := fun x hx => hb x (List.mem_of_mem_drop hx)
      obtain ⟨w1, w2⟩ := web_parts _ hbd
      rw [show (b ++ q).drop 7 = hd [47] (b.drop 7) ++ (tl [47] (b.drop 7) ++ q) by rw [← List.append_assoc, hd_tl]; exact hd7, loc_split w1 w2 hq, loc_site]
      unfold webR
      rw [Bool.and_comm, Bool.and_assoc]
    | false =>
      rw [if_neg (show ¬ (false = true) by decide), if_neg (show ¬ (false = true) by decide), priv_eq hb hq, Bool.and_comm]

end Go.Proofs.YtilhfmhjgfmejaaGreatDoor.tm
