import Derived.Test.YtkkgngmhdlmgnaaDoorJsonSpelt
namespace Go.Proofs.YtkkgngmhdlmgnaaDoor.Json
open Go.Lib

/-! ### numbers -/
theorem parse_append : ∀ (l m : By) (acc a : Nat), parseUint10 acc l = .ok a → parseUint10 acc (l ++ m) = parseUint10 a m
  | [], m, acc, a, h => by
    simp only [parseUint10] at h
    injection h with h; subst h; rfl
  | c :: r, m, acc, a, h => by
    simp only [List.cons_append, parseUint10] at h ⊢
    split at h
    · rename_i h1
      rw [if_pos h1]
      split at h
      · cases h
      · rename_i h2
        rw [if_neg h2]
        split at h
        · cases h
        · rename_i h3
          rw [if_neg h3]
          exact parse_append r m _ a h
    · cases h

theorem digit_nat (k : Nat) (h : k < 10) : (UInt8.ofNat (48 + k)).toNat = 48 + k := by simp; omega

theorem parse_digits : ∀ (n u : Nat), u ≤ n → u < 18446744073709551616 → parseUint10 0 (decDigits u) = .ok u
  | 0, u, h, _ => by
    have : u = 0 := by omega
    subst this
    rw [decDigits_one (by omega)]
    simp [parseUint10]
  | n + 1, u, h, hu => by
    by_cases h10 : u < 10
    · rw [decDigits_one h10]
      have hd := digit_nat u h10
      simp only [parseUint10, hd]
      rw [if_pos (by omega), if_neg (by omega), if_neg (by omega)]
      congr 1; omega
    · rw [decDigits, dif_neg h10, parse_append _ _ _ _ (parse_digits n (u / 10) (by omega) (by omega))]
      have hd := digit_nat (u % 10) (by omega)
      simp only [parseUint10, hd]
      rw [if_pos (by omega), if_neg (by omega), if_neg (by omega)]
      congr 1; omega

theorem digits_are : ∀ (n u : Nat), u ≤ n → ∀ c ∈ decDigits u, isDig c = true
  | 0, u, h => by
    have : u = 0 := by omega
    subst this
    rw [decDigits_one (by omega)]
    intro c hc; simp at hc; subst hc; decide
  | n + 1, u, h => by
    intro c hc
    by_cases h10 : u < 10
    · rw [decDigits_one h10] at hc
      simp only [List.mem_singleton] at hc
      subst hc
      simp only [isDig, digit_nat u h10, Bool.and_eq_true, decide_eq_true_eq]; omega
    · rw [decDigits, dif_neg h10, List.mem_append] at hc
      rcases hc with hc | hc
      · exact digits_are n (u / 10) (by omega) c hc
      · simp only [List.mem_singleton] at hc
        subst hc
        simp only [isDig, digit_nat (u % 10) (by omega), Bool.and_eq_true, decide_eq_true_eq]; omega

theorem digits_head : ∀ (n u : Nat), u ≤ n → 1 ≤ u → ∃ c r, decDigits u = c :: r ∧ c ≠ 48 ∧ isDig c = true
  | 0, u, h, h1 => by omega
  | n + 1, u, h, h1 => by
    by_cases h10 : u < 10
    · refine ⟨_, _, decDigits_one h10, ?_, ?_⟩
      · intro e; have := congrArg UInt8.toNat e; rw [digit_nat u h10] at this; simp at this; omega
      · simp only [isDig, digit_nat u h10, Bool.and_eq_true, decide_eq_true_eq]; omega
    · obtain ⟨c, r, e, hc, hd⟩ := digits_head n (u / 10) (by omega) (by omega)
      exact ⟨c, r ++ [UInt8.ofNat (48 + u % 10)], by rw [decDigits, dif_neg h10, e]; rfl, hc, hd⟩

theorem takeWhile_all (p : UInt8 → Bool) : ∀ (l : By) (c : UInt8) (r : By), (∀ x ∈ l, p x = true) → p c = false → (l ++ c :: r).takeWhile p = l ∧ (l ++ c :: r).dropWhile p = c :: r
  | [], c, r, _, hc => by simp [hc]
  | x :: l, c, r, h, hc => by
    have hx := h x (by simp)
    have ih := takeWhile_all p l c r (fun y hy => h y (List.mem_cons_of_mem _ hy)) hc
    simp only [List.cons_append, List.takeWhile_cons, List.dropWhile_cons, hx, if_true, ih.1, ih.2]
    exact ⟨trivial, trivial⟩

theorem digitsOf_dec (u : Nat) (c : UInt8) (r : By) (hc : isDig c = false) : digitsOf (decDigits u ++ c :: r) = some (decDigits u).length := by
  by_cases h0 : u = 0
  · subst h0
    rw [decDigits_one (by omega)]
    simp only [List.cons_append, List.nil_append, digitsOf]
    rw [if_pos (by decide)]; rfl
  · obtain ⟨x, t, e, hx, hd⟩ := digits_head u u (Nat.le_refl _) (by omega)
    have hall := digits_are u u (Nat.le_refl _)
    have hw := takeWhile_all isDig (decDigits u) c r hall hc
    rw [e] at hw ⊢
    simp only [List.cons_append] at hw ⊢
    rw [digitsOf, if_neg hx, hw.1, hw.2, if_neg (by simp)]

def inRange (n : Int) : Prop := -9223372036854775808 ≤ n ∧ n ≤ 9223372036854775807

theorem atoi_itoa (n : Int) (hn : inRange n) : atoiAll (itoa n) = .ok n := by
  unfold inRange at hn
  unfold itoa
  split
  · rename_i h
    obtain ⟨u, rfl⟩ : ∃ u : Nat, n = -(u : Int) := ⟨n.natAbs, by omega⟩
    have e : (-(u : Int)).natAbs = u := by omega
    rw [e]
    have hne : decDigits u ≠ [] := by obtain ⟨c, r, h, _⟩ := digits_head u u (Nat.le_refl _) (by omega); rw [h]; simp
    unfold atoiAll
    simp only
    rw [if_pos (by decide), parseMag, if_neg hne, parse_digits u u (Nat.le_refl _) (by omega)]
    simp only
    rw [if_neg (by simp), if_neg (by simp; omega), if_pos (by decide)]
  · rename_i h
    obtain ⟨u, rfl⟩ : ∃ u : Nat, n = (u : Int) := ⟨n.toNat, by omega⟩
    simp only [Int.toNat_natCast]
    have hp := parse_digits u u (Nat.le_refl _) (by omega)
    have hall := digits_are u u (Nat.le_refl _)
    cases hd : decDigits u with
    | nil =>
      exfalso
      by_cases h0 : u = 0
      · subst h0; rw [decDigits_one (by omega)] at hd; cases hd
      · obtain ⟨c, r, h, _⟩ := digits_head u u (Nat.le_refl _) (by omega); rw [h] at hd; cases hd
    | cons c r =>
      rw [hd] at hp hall
      have hc := hall c (by simp)
      simp only [isDig, Bool.and_eq_true, decide_eq_true_eq] at hc
      unfold atoiAll
      simp only
      rw [if_neg (by omega), parseMag, if_neg (by simp), hp]
      simp only
      rw [if_neg (by omega), if_neg (by omega), if_neg (by omega)]

theorem number_itoa (n : Int) (hn : inRange n) (c : UInt8) (r : By) (hc : isDig c = false) : number (itoa n ++ c :: r) = some (n, c :: r) := by
  have ha := atoi_itoa n hn
  unfold itoa at ha ⊢
  split
  · rename_i h
    rw [if_pos h] at ha
    simp only [List.cons_append, number]
    rw [if_pos trivial, digitsOf_dec _ c r hc]
    simp only
    rw [if_pos trivial, List.take_succ_cons, List.take_left, ha]
    simp only
    rw [List.drop_succ_cons, List.drop_left]
  · rename_i h
    rw [if_neg h] at ha
    have hall := digits_are n.toNat n.toNat (Nat.le_refl _)
    have hdo := digitsOf_dec n.toNat c r hc
    have htk : (decDigits n.toNat ++ c :: r).take (decDigits n.toNat).length = decDigits n.toNat := List.take_left
    have hdr : (decDigits n.toNat ++ c :: r).drop (decDigits n.toNat).length = c :: r := List.drop_left
    generalize decDigits n.toNat = D at *
    cases D with
    | nil => cases ha
    | cons x t =>
      have hx := hall x (by simp)
      have h45 : x ≠ 45 := by rintro rfl; revert hx; decide
      simp only [List.cons_append] at hdo htk hdr ⊢
      rw [number, if_neg h45, hdo]
      simp only
      rw [if_neg h45, htk, hdr, ha]

/-! ### objects -/
/-- the fields that the kind doesn't name at zero -/
def bareMem (m : Mem) : Mem :=
  if m.kind = 1 then ⟨m.name, 1, m.text, 0, false⟩ else if m.kind = 2 then ⟨m.name, 2, [], m.num, false⟩
  else if m.kind = 3 then ⟨m.name, 3, [], 0, m.flag⟩ else ⟨m.name, m.kind, [], 0, false⟩

def allBl (g : By) : Prop := ∀ c ∈ g, bl c = true

theorem blanks_all (g : By) (c : UInt8) (r : By) (hg : allBl g) (hc : bl c = false) : blanks (g ++ c :: r) = c :: r :=
  (takeWhile_all bl g c r hg hc).2
theorem blanks_only : ∀ (g : By), allBl g → blanks g = []
  | [], _ => rfl
  | c :: r, h => by
    have ih := blanks_only r (fun x hx => h x (List.mem_cons_of_mem _ hx))
    unfold blanks at ih ⊢
    rw [List.dropWhile_cons, h c (by simp), if_pos rfl]; exact ih
theorem allBl_nil : allBl [] := by intro c hc; cases hc
theorem allBl_append {a b : By} (ha : allBl a) (hb : allBl b) : allBl (a ++ b) := by
  intro c hc
  rcases List.mem_append.1 hc with h | h
  · exact ha c h
  · exact hb c h

def SpeltVal (m : Mem) (u : By) : Prop :=
  (m.kind = 1 ∧ ∃ e, Spelt m.text e ∧ u = 34 :: (e ++ [34])) ∨ (m.kind = 2 ∧ inRange m.num ∧ u = itoa m.num) ∨
  (m.kind = 3 ∧ m.flag = true ∧ u = [116, 114, 117, 101]) ∨ (m.kind = 3 ∧ m.flag = false ∧ u = [102, 97, 108, 115, 101])

theorem itoa_head (n : Int) : ∃ c r, itoa n = c :: r ∧ (c = 45 ∨ isDig c = true) := by
  unfold itoa
  split
  · exact ⟨_, _, rfl, Or.inl rfl⟩
  · have hall := digits_are n.toNat n.toNat (Nat.le_refl _)
    cases hd : decDigits n.toNat with
    | nil =>
      exfalso
      have := nDigits_pos n.toNat
      rw [← decDigits_length, hd] at this
      simp at this
    | cons c r => rw [hd] at hall; exact ⟨c, r, rfl, Or.inr (hall c (by simp))⟩

theorem SpeltVal.head {m : Mem} {u : By} (h : SpeltVal m u) : ∃ c r, u = c :: r ∧ bl c = false := by
  rcases h with ⟨_, e, _, rfl⟩ | ⟨_, _, rfl⟩ | ⟨_, _, rfl⟩ | ⟨_, _, rfl⟩
  · exact ⟨34, _, rfl, by decide⟩
  · obtain ⟨c, r, e, hc⟩ := itoa_head m.num
    refine ⟨c, r, e, ?_⟩
    rcases hc with rfl | hc
    · decide
    · simp only [isDig, Bool.and_eq_true, decide_eq_true_eq] at hc
      simp only [bl, Bool.or_eq_false_iff, beq_eq_false_iff_ne, ne_eq]
      refine ⟨⟨⟨?_, ?_⟩, ?_⟩, ?_⟩ <;> rintro rfl <;> revert hc <;> decide
  · exact ⟨116, _, rfl, by decide⟩
  · exact ⟨102, _, rfl, by decide⟩

theorem word_append (p r : By) : word p (p ++ r) = some r := by
  unfold word
  rw [if_pos (List.isPrefixOf_iff_prefix.2 ⟨r, rfl⟩), List.drop_left]

theorem SpeltVal.value {m : Mem} {u : By} (h : SpeltVal m u) (c : UInt8) (r : By) (hc : isDig c = false) :
    ∃ k, value (u ++ c :: r) = some (k, c :: r) ∧ { k with name := m.name } = bareMem m := by
  rcases h with ⟨hk, e, hs, rfl⟩ | ⟨hk, hn, rfl⟩ | ⟨hk, hf, rfl⟩ | ⟨hk, hf, rfl⟩
  · refine ⟨textMem m.text, ?_, by simp [bareMem, hk, textMem]⟩
    have hq := hs.quoted (c :: r)
    simp only [List.cons_append, List.append_assoc, List.nil_append, Json.value]
    rw [if_pos trivial, hq]
  · refine ⟨numMem m.num, ?_, by simp [bareMem, hk, numMem]⟩
    have hq := number_itoa m.num hn c r hc
    obtain ⟨x, t, e, hx⟩ := itoa_head m.num
    rw [e] at hq ⊢
    have h34 : x ≠ 34 := by rintro rfl; rcases hx with h | h <;> revert h <;> decide
    have h116 : x ≠ 116 := by rintro rfl; rcases hx with h | h <;> revert h <;> decide
    have h102 : x ≠ 102 := by rintro rfl; rcases hx with h | h <;> revert h <;> decide
    simp only [List.cons_append] at hq ⊢
    rw [Json.value, if_neg h34, if_neg h116, if_neg h102, hq]
  · refine ⟨flagMem true, ?_, by simp [bareMem, hk, flagMem, hf]⟩
    have hw := word_append [116, 114, 117, 101] (c :: r)
    simp only [List.cons_append, List.nil_append] at hw ⊢
    rw [Json.value, if_neg (by decide), if_pos rfl, hw]
  · refine ⟨flagMem false, ?_, by simp [bareMem, hk, flagMem, hf]⟩
    have hw := word_append [102, 97, 108, 115, 101] (c :: r)
    simp only [List.cons_append, List.nil_append] at hw ⊢
    rw [Json.value, if_neg (by decide), if_neg (by decide), if_pos rfl, hw]

/-- a member, with blanks round its colon -/
def SpeltMem (m : Mem) (u : By) : Prop := ∃ e g1 g2 v, Spelt m.name e ∧ allBl g1 ∧ allBl g2 ∧ SpeltVal m v ∧ u = 34 :: (e ++ 34 :: (g1 ++ 58 :: (g2 ++ v)))

theorem bl_dig {c : UInt8} (h : bl c = true) : isDig c = false := by
  simp only [bl, Bool.or_eq_true, beq_iff_eq] at h
  rcases h with ((rfl | rfl) | rfl) | rfl <;> decide

theorem SpeltMem.member {m : Mem} {u : By} (h : SpeltMem m u) (g : By) (hg : allBl g) (c : UInt8) (r : By) (hb : bl c = false) (hc : isDig c = false) :
    member (u ++ g ++ c :: r) = some (bareMem m, c :: r) := by
  obtain ⟨e, g1, g2, v, hs, h1, h2, hv, rfl⟩ := h
  have hq := hs.quoted (g1 ++ 58 :: (g2 ++ (v ++ (g ++ c :: r))))
  have he : 34 :: (e ++ 34 :: (g1 ++ 58 :: (g2 ++ v))) ++ g ++ c :: r = 34 :: (e ++ 34 :: (g1 ++ 58 :: (g2 ++ (v ++ (g ++ c :: r))))) := by simp
  rw [he, Json.member, hq]
  simp only
  rw [blanks_all g1 58 _ h1 (by decide)]
  obtain ⟨x, t, ev, hx⟩ := hv.head
  have hp : part 58 (58 :: (g2 ++ (v ++ (g ++ c :: r)))) = some (v ++ (g ++ c :: r)) := by
    simp only [part]
    rw [if_pos trivial, ev, List.cons_append, blanks_all g2 x _ h2 hx]
  rw [hp]
  simp only
  have hval : ∃ k, Json.value (v ++ (g ++ c :: r)) = some (k, g ++ c :: r) ∧ { k with name := m.name } = bareMem m := by
    cases g with
    | nil => exact hv.value c r hc
    | cons y s => exact hv.value y (s ++ c :: r) (bl_dig (hg y (by simp)))
  obtain ⟨k, hk, hkm⟩ := hval
  rw [hk]
  simp only
  rw [blanks_all g c r hg hb, hkm]

def SpeltRow : List Mem → By → Prop
  | [], _ => False
  | m :: ms, w => if ms = [] then ∃ u g, SpeltMem m u ∧ allBl g ∧ w = u ++ g
    else ∃ u g1 g2 v, SpeltMem m u ∧ allBl g1 ∧ allBl g2 ∧ SpeltRow ms v ∧ w = u ++ g1 ++ 44 :: (g2 ++ v)
theorem SpeltRow.one {m : Mem} {u g : By} (hm : SpeltMem m u) (hg : allBl g) : SpeltRow [m] (u ++ g) := by
  rw [SpeltRow, if_pos rfl]; exact ⟨u, g, hm, hg, rfl⟩
theorem SpeltRow.more {m : Mem} {ms : List Mem} {u g1 g2 v : By} (hm : SpeltMem m u) (h1 : allBl g1) (h2 : allBl g2) (hv : SpeltRow ms v) : SpeltRow (m :: ms) (u ++ g1 ++ 44 :: (g2 ++ v)) := by
  have hne : ms ≠ [] := by rintro rfl; exact hv
  rw [SpeltRow, if_neg hne]; exact ⟨u, g1, g2, v, hm, h1, h2, hv, rfl⟩
/-- one member, or one and more -/
theorem SpeltRow.cases {m : Mem} {ms : List Mem} {w : By} (h : SpeltRow (m :: ms) w) : (ms = [] ∧ ∃ u g, SpeltMem m u ∧ allBl g ∧ w = u ++ g) ∨ ∃ u g1 g2 v, SpeltMem m u ∧ allBl g1 ∧ allBl g2 ∧ SpeltRow ms v ∧ w = u ++ g1 ++ 44 :: (g2 ++ v) := by
  rw [SpeltRow] at h
  split at h
  · rename_i he; exact Or.inl ⟨he, h⟩
  · exact Or.inr h

theorem SpeltMem.head {m : Mem} {u : By} (h : SpeltMem m u) : ∃ t, u = 34 :: t := by
  obtain ⟨e, g1, g2, v, _, _, _, _, rfl⟩ := h; exact ⟨_, rfl⟩
theorem SpeltRow.head {ms : List Mem} {u : By} (h : SpeltRow ms u) : ∃ t, u = 34 :: t := by
  cases ms with
  | nil => exact h.elim
  | cons m ms =>
    rcases h.cases with ⟨_, u, g, hm, _, rfl⟩ | ⟨u, g1, g2, v, hm, _, _, _, rfl⟩
    · obtain ⟨t, rfl⟩ := hm.head; exact ⟨_, rfl⟩
    · obtain ⟨t, rfl⟩ := hm.head; exact ⟨_, rfl⟩

theorem SpeltRow.members : ∀ (ms : List Mem) {u : By}, SpeltRow ms u → ∀ (n : Nat) (acc : List Mem) (r : By), u.length < n →
    members n acc (u ++ 125 :: r) = some (acc ++ ms.map bareMem, 125 :: r)
  | [], _, h, _, _, _, _ => h.elim
  | m :: ms, _, h, n, acc, r, hn => by
    rcases h.cases with ⟨rfl, u, g, hm, hg, rfl⟩ | ⟨u, g1, g2, v, hm, h1, h2, hv, rfl⟩
    · cases n with
      | zero => omega
      | succ n =>
        rw [Json.members, hm.member g hg 125 r (by decide) (by decide)]
        simp only [part]
        rw [if_neg (by decide)]
        rfl
    · have ih := fun k a r hk => SpeltRow.members ms hv k a r hk
      cases n with
      | zero => omega
      | succ n =>
        have he : u ++ g1 ++ 44 :: (g2 ++ v) ++ 125 :: r = u ++ g1 ++ 44 :: (g2 ++ (v ++ 125 :: r)) := by simp
        rw [he, Json.members, hm.member g1 h1 44 _ (by decide) (by decide)]
        obtain ⟨t, ev⟩ := hv.head
        have hp : part 44 (44 :: (g2 ++ (v ++ 125 :: r))) = some (v ++ 125 :: r) := by
          simp only [part]
          rw [if_pos trivial, ev, List.cons_append, blanks_all g2 34 _ h2 (by decide)]
        simp only
        rw [hp]
        simp only
        rw [ih n _ r (by simp only [List.length_append, List.length_cons] at hn; omega)]
        simp

/-- an object, with blanks wherever they may stand -/
def SpeltObj (ms : List Mem) (w : By) : Prop := ∃ g1 g2 g3, allBl g1 ∧ allBl g2 ∧ allBl g3 ∧
  ((ms = [] ∧ w = g1 ++ 123 :: (g2 ++ 125 :: g3)) ∨ ∃ u, SpeltRow ms u ∧ w = g1 ++ 123 :: (g2 ++ (u ++ 125 :: g3)))
theorem SpeltObj.bare {g1 g2 g3 : By} (h1 : allBl g1) (h2 : allBl g2) (h3 : allBl g3) : SpeltObj [] (g1 ++ 123 :: (g2 ++ 125 :: g3)) := ⟨g1, g2, g3, h1, h2, h3, Or.inl ⟨rfl, rfl⟩⟩
theorem SpeltObj.full {ms : List Mem} {g1 g2 u g3 : By} (h1 : allBl g1) (h2 : allBl g2) (h3 : allBl g3) (hu : SpeltRow ms u) : SpeltObj ms (g1 ++ 123 :: (g2 ++ (u ++ 125 :: g3))) := ⟨g1, g2, g3, h1, h2, h3, Or.inr ⟨u, hu, rfl⟩⟩

theorem SpeltObj.object {ms : List Mem} {l : By} (h : SpeltObj ms l) : object l = some (ms.map bareMem) := by
  obtain ⟨g1, g2, g3, h1, h2, h3, h⟩ := h
  rcases h with ⟨rfl, rfl⟩ | ⟨u, hu, rfl⟩
  · have hp : part 123 (123 :: (g2 ++ 125 :: g3)) = .some (125 :: g3) := by
      simp only [part]; rw [if_pos trivial, blanks_all g2 125 _ h2 (by decide)]
    have hq : part 125 (125 :: g3) = .some [] := by simp only [part]; rw [if_pos trivial, blanks_only g3 h3]
    rw [Json.object, blanks_all g1 123 _ h1 (by decide), hp]
    simp only
    rw [hq]
    rfl
  · obtain ⟨t, eu⟩ := hu.head
    have hp : part 123 (123 :: (g2 ++ (u ++ 125 :: g3))) = .some (u ++ 125 :: g3) := by
      simp only [part]; rw [if_pos trivial, eu, List.cons_append, blanks_all g2 34 _ h2 (by decide)]
    have hq : part 125 (125 :: g3) = .some [] := by simp only [part]; rw [if_pos trivial, blanks_only g3 h3]
    have hn : part 125 (u ++ 125 :: g3) = .none := by rw [eu, List.cons_append]; simp only [part]; rw [if_neg (by decide)]
    rw [Json.object, blanks_all g1 123 _ h1 (by decide), hp]
    simp only
    rw [hn]
    simp only
    rw [SpeltRow.members ms hu _ _ _ (by simp; omega)]
    simp only
    rw [hq]
    simp

theorem bare_name (m : Mem) : (bareMem m).name = m.name := by unfold bareMem; repeat' split
                                                              all_goals rfl
theorem twice_bare : ∀ ms : List Mem, twice (ms.map bareMem) = twice ms
  | [] => rfl
  | m :: r => by
    simp only [List.map_cons, twice, twice_bare r, List.any_map, bare_name]
    congr 1
    congr 1
    funext k
    simp [bare_name]

theorem SpeltObj.read {ms : List Mem} {l : By} (h : SpeltObj ms l) (h32 : ms.length ≤ 32) (ht : twice ms = false) : read l = (0, ms.map bareMem) := by
  rw [Json.read, h.object]
  simp only [List.length_map]
  rw [if_neg (by omega), twice_bare, ht]
  rfl

/-! ### what Object writes -/
def memOk (m : Mem) : Prop := known m.kind = true ∧ plainMem m = true ∧ inRange m.num

theorem spelt_member (m : Mem) (h : memOk m) : SpeltMem m (memberOf m) := by
  obtain ⟨hk, hp, hn⟩ := h
  simp only [plainMem, Bool.and_eq_true, Bool.or_eq_true, Bool.not_eq_true', decide_eq_false_iff_not] at hp
  refine ⟨inner m.name, [], [], valueOf m, spelt_quote _ _ (Nat.le_refl _) hp.1, allBl_nil, allBl_nil, ?_, ?_⟩
  · unfold valueOf
    split
    · rename_i h1
      exact Or.inl ⟨h1, _, spelt_quote _ _ (Nat.le_refl _) (hp.2.resolve_left (fun h => h h1)), rfl⟩
    · rename_i h1
      split
      · rename_i h2; exact Or.inr (Or.inl ⟨h2, hn, rfl⟩)
      · rename_i h2
        have h3 : m.kind = 3 := by
          simp only [known, Bool.or_eq_true, decide_eq_true_eq] at hk
          omega
        split
        · rename_i hf; exact Or.inr (Or.inr (Or.inl ⟨h3, hf, rfl⟩))
        · rename_i hf; exact Or.inr (Or.inr (Or.inr ⟨h3, by simpa using hf, rfl⟩))
  · simp [memberOf, quote]

theorem spelt_row : ∀ ms : List Mem, ms ≠ [] → (∀ m ∈ ms, memOk m) → SpeltRow ms (rowOf ms)
  | [], h, _ => absurd rfl h
  | [m], _, h => by
    have := SpeltRow.one (g := []) (spelt_member m (h m (by simp))) allBl_nil
    simpa [rowOf] using this
  | m :: n :: r, _, h => by
    have := SpeltRow.more (g1 := []) (g2 := []) (spelt_member m (h m (by simp))) allBl_nil allBl_nil (spelt_row (n :: r) (by simp) (fun x hx => h x (List.mem_cons_of_mem _ hx)))
    simpa [rowOf] using this

theorem spelt_obj (ms : List Mem) (h : ∀ m ∈ ms, memOk m) : SpeltObj ms (objOf ms) := by
  by_cases he : ms = []
  · subst he
    have := SpeltObj.bare (g1 := []) (g2 := []) (g3 := []) allBl_nil allBl_nil allBl_nil
    simpa [objOf, rowOf] using this
  · have := SpeltObj.full (g1 := []) (g2 := []) (g3 := []) allBl_nil allBl_nil allBl_nil (spelt_row ms he h)
    simpa [objOf] using this

theorem check_ok {ms : List Mem} (h : check ms = 0) : ms.length ≤ 32 ∧ (∀ m ∈ ms, known m.kind = true ∧ plainMem m = true) ∧ twice ms = false := by
  unfold check at h
  split at h
  · cases h
  · split at h
    · cases h
    · rename_i hk
      split at h
      · cases h
      · rename_i hp
        split at h
        · cases h
        · rename_i ht
          simp only [Bool.not_eq_false, List.all_eq_true] at hk hp
          exact ⟨by omega, fun m hm => ⟨hk m hm, hp m hm⟩, by simpa using ht⟩

/-- parse of print -/
theorem read_back (ms : List Mem) (h : check ms = 0) (hn : ∀ m ∈ ms, inRange m.num) : read (objOf ms) = (0, ms.map bareMem) := by
  obtain ⟨h1, h2, h3⟩ := check_ok h
  exact (spelt_obj ms (fun m hm => ⟨(h2 m hm).1, (h2 m hm).2, hn m hm⟩)).read h1 h3

/-! ### what is read can be written -/
theorem number_range {l r : By} {v : Int} (h : number l = some (v, r)) : inRange v := by
  cases l with
  | nil => cases h
  | cons c t =>
    simp only [number] at h
    split at h
    · cases h
    · split at h
      · rename_i v' e
        injection h with h; injection h with h _; subst h
        exact atoiAll_bounds e
      · cases h

def good (m : Mem) : Prop := memOk m ∧ bareMem m = m

theorem value_good {l r : By} {m : Mem} (h : value l = some (m, r)) (t : By) (ht : validD t = true) : good { m with name := t } := by
  cases l with
  | nil => cases h
  | cons c s =>
    simp only [value] at h
    split at h
    · split at h
      · cases h
      · rename_i x r1 e
        injection h with h; injection h with h _; subst h
        refine ⟨⟨by simp [known, textMem], by simp [plainMem, textMem, ht, quoted_valid e], by simp [inRange, textMem]⟩, by simp [bareMem, textMem]⟩
    · split at h
      · split at h
        · cases h
        · injection h with h; injection h with h _; subst h
          refine ⟨⟨by simp [known, flagMem], by simp [plainMem, flagMem, ht], by simp [inRange, flagMem]⟩, by simp [bareMem, flagMem]⟩
      · split at h
        · split at h
          · cases h
          · injection h with h; injection h with h _; subst h
            refine ⟨⟨by simp [known, flagMem], by simp [plainMem, flagMem, ht], by simp [inRange, flagMem]⟩, by simp [bareMem, flagMem]⟩
        · split at h
          · cases h
          · rename_i n r1 e
            injection h with h; injection h with h _; subst h
            refine ⟨⟨by simp [known, numMem], by simp [plainMem, numMem, ht], by simpa [numMem] using number_range e⟩, by simp [bareMem, numMem]⟩

theorem member_good {l r : By} {m : Mem} (h : member l = some (m, r)) : good m := by
  unfold member at h
  split at h
  · cases h
  · rename_i name r0 e0
    split at h
    · cases h
    · split at h
      · cases h
      · rename_i k r2 e2
        injection h with h; injection h with h _; subst h
        exact value_good e2 name (quoted_valid e0)

theorem members_good : ∀ (n : Nat) (acc : List Mem) (l : By) {ms : List Mem} {r : By}, (∀ m ∈ acc, good m) → members n acc l = some (ms, r) → ∀ m ∈ ms, good m
  | 0, _, _, _, _, _, h => by simp [members] at h
  | n + 1, acc, l, ms, r, ha, h => by
    simp only [members] at h
    split at h
    · cases h
    · rename_i m r0 e
      have hm : ∀ k ∈ acc ++ [m], good k := by
        intro k hk
        rcases List.mem_append.1 hk with hk | hk
        · exact ha k hk
        · simp only [List.mem_singleton] at hk; subst hk; exact member_good e
      split at h
      · exact members_good n _ _ hm h
      · injection h with h; injection h with h _; subst h; exact hm

theorem object_good {l : By} {ms : List Mem} (h : object l = some ms) : ∀ m ∈ ms, good m := by
  unfold object at h
  split at h
  · cases h
  · split at h
    · split at h
      · injection h with h; subst h; intro m hm; cases hm
      · cases h
    · split at h
      · cases h
      · rename_i ms' r1 e
        split at h
        · cases h
        · split at h
          · injection h with h; subst h
            exact members_good _ _ _ (fun m hm => by cases hm) e
          · cases h

theorem read_ok {l : By} {ms : List Mem} (h : read l = (0, ms)) : check ms = 0 ∧ (∀ m ∈ ms, inRange m.num) ∧ ms.map bareMem = ms := by
  unfold read at h
  split at h
  · cases h
  · rename_i ms' e
    have hg := object_good e
    split at h
    · cases h
    · rename_i h32
      split at h
      · cases h
      · rename_i ht
        injection h with _ h; subst h
        refine ⟨?_, fun m hm => (hg m hm).1.2.2, ?_⟩
        · unfold check
          rw [if_neg h32, if_neg (by simp only [Bool.not_eq_false, List.all_eq_true]; exact fun m hm => (hg m hm).1.1),
            if_neg (by simp only [Bool.not_eq_false, List.all_eq_true]; exact fun m hm => (hg m hm).1.2.1), if_neg ht]
        · have := List.map_congr_left (f := bareMem) (g := id) (l := ms') (fun m hm => (hg m hm).2)
          rw [this, List.map_id]
end Go.Proofs.YtkkgngmhdlmgnaaDoor.Json
