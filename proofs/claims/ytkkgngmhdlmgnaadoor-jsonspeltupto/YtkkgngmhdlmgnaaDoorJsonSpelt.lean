import Derived.Test.YtkkgngmhdlmgnaaDoorJsonMath
namespace Go.Proofs.YtkkgngmhdlmgnaaDoor.Json
open Go.Lib

/-- a number that a character may have -/
def okRune (d : Nat) : Prop := d < 55296 ∨ (57343 < d ∧ d ≤ 1114111)

theorem toU8 {z : Int} {n : Nat} (h : z = (n : Int)) (hn : n < 256) : (z.toNat.toUInt8).toNat = n := by
  subst h; simp [Nat.mod_eq_of_lt hn]

/-- a character's own bytes are decoded to it, whatever stands behind -/
theorem decode_encode (d : Nat) (hd : okRune d) (t : By) : decodeL (encodeRune (d : Int) ++ t) = (d, (encodeRune (d : Int)).length) ∧ ¬ bad (encodeRune (d : Int) ++ t) := by
  have key : decodeL (encodeRune (d : Int) ++ t) = (d, (encodeRune (d : Int)).length) := by
    rw [decodeL_N]
    unfold encodeRune
    by_cases h1 : d ≤ 127
    · rw [encodeRuneZ_one (by omega) (by omega)]
      simp only [List.map_cons, List.map_nil, List.cons_append, List.nil_append, List.length_cons, List.length_nil]
      have e0 : (((d : Int).toNat.toUInt8 :: t).getD 0 0).toNat = d := by simpa using toU8 (z := (d : Int)) rfl (by omega)
      rw [e0]
      unfold decodeN
      rw [if_pos (by omega)]
    · by_cases h2 : d ≤ 2047
      · rw [encodeRuneZ_two (by omega) (by omega)]
        simp only [List.map_cons, List.map_nil, List.cons_append, List.nil_append, List.length_cons, List.length_nil]
        have a0 := toU8 (z := 192 + (d : Int) / 64) (n := 192 + d / 64) (by omega) (by omega)
        have a1 := toU8 (z := 128 + (d : Int) % 64) (n := 128 + d % 64) (by omega) (by omega)
        simp only [List.getD_cons_zero, List.getD_cons_succ, a0, a1]
        unfold decodeN
        rw [if_neg (by omega), if_pos (by refine ⟨by omega, by omega, by omega⟩), if_pos (by omega)]
        exact Prod.ext (by simp only; omega) rfl
      · by_cases h3 : d ≤ 65535
        · rw [encodeRuneZ_three (by unfold okRune at hd; omega)]
          simp only [List.map_cons, List.map_nil, List.cons_append, List.nil_append, List.length_cons, List.length_nil]
          have a0 := toU8 (z := 224 + (d : Int) / 4096) (n := 224 + d / 4096) (by omega) (by omega)
          have a1 := toU8 (z := 128 + (d : Int) / 64 % 64) (n := 128 + d / 64 % 64) (by omega) (by omega)
          have a2 := toU8 (z := 128 + (d : Int) % 64) (n := 128 + d % 64) (by omega) (by omega)
          simp only [List.getD_cons_zero, List.getD_cons_succ, a0, a1, a2]
          have q : (224 + d / 4096) % 16 * 4096 + (128 + d / 64 % 64) % 64 * 64 + (128 + d % 64) % 64 = d := by omega
          unfold decodeN
          rw [if_neg (by omega), if_neg (by omega), if_pos (by refine ⟨by omega, ⟨by omega, by omega⟩, by omega, by omega⟩)]
          unfold okRune at hd
          rw [q, if_pos (by omega)]
        · rw [encodeRuneZ_four (by omega) (by unfold okRune at hd; omega)]
          unfold okRune at hd
          simp only [List.map_cons, List.map_nil, List.cons_append, List.nil_append, List.length_cons, List.length_nil]
          have a0 := toU8 (z := 240 + (d : Int) / 262144) (n := 240 + d / 262144) (by omega) (by omega)
          have a1 := toU8 (z := 128 + (d : Int) / 4096 % 64) (n := 128 + d / 4096 % 64) (by omega) (by omega)
          have a2 := toU8 (z := 128 + (d : Int) / 64 % 64) (n := 128 + d / 64 % 64) (by omega) (by omega)
          have a3 := toU8 (z := 128 + (d : Int) % 64) (n := 128 + d % 64) (by omega) (by omega)
          simp only [List.getD_cons_zero, List.getD_cons_succ, a0, a1, a2, a3]
          have q : (240 + d / 262144) % 8 * 262144 + (128 + d / 4096 % 64) % 64 * 4096 + (128 + d / 64 % 64) % 64 * 64 + (128 + d % 64) % 64 = d := by omega
          unfold decodeN
          rw [if_neg (by omega), if_neg (by omega), if_neg (by omega), if_pos (by refine ⟨by omega, ⟨by omega, by omega⟩, ⟨by omega, by omega⟩, by omega, by omega⟩)]
          rw [q, if_pos (by omega)]
  refine ⟨key, ?_⟩
  unfold bad
  rw [key]
  rintro ⟨h1, h2⟩
  dsimp only at h1 h2
  subst h1
  revert h2
  decide

theorem decode_ok (l : By) : okRune (decodeL l).1 := by
  unfold okRune
  rw [decodeL_N]
  have k0 := (l.getD 0 0).toNat_lt
  unfold decodeN
  repeat' split
  all_goals simp only
  all_goals omega

/-- a plain text falls into a character and the rest -/
theorem valid_cases (l : By) (hv : validD l = true) : l = [] ∨ ∃ d r, okRune d ∧ l = encodeRune (d : Int) ++ r ∧ validD r = true ∧ decodeL l = (d, (encodeRune (d : Int)).length) := by
  by_cases hne : l = []
  · exact Or.inl hne
  · refine Or.inr ⟨(decodeL l).1, l.drop (decodeL l).2, decode_ok l, ?_, ?_, ?_⟩
    · have hb : ¬ ((decodeL l).1 = 65533 ∧ (decodeL l).2 = 1) := by
        intro hb; rw [validD_step l hne, if_pos hb] at hv; cases hv
      rw [encode_decode l hne hb, List.take_append_drop]
    · rw [validD_step l hne] at hv
      split at hv
      · cases hv
      · exact hv
    · have hb : ¬ ((decodeL l).1 = 65533 ∧ (decodeL l).2 = 1) := by
        intro hb; rw [validD_step l hne, if_pos hb] at hv; cases hv
      have := decodeL_le l hne
      rw [encode_decode l hne hb, List.length_take, Nat.min_eq_left this]

theorem encode_ne (d : Int) : encodeRune d ≠ [] := by
  have := (encodeRuneZ_length d).1
  intro h
  have : (encodeRune d).length = 0 := by rw [h]; rfl
  unfold encodeRune at this
  simp only [List.length_map] at this
  omega

theorem valid_encode (d : Nat) (hd : okRune d) (t : By) : validD (encodeRune (d : Int) ++ t) = validD t := by
  obtain ⟨h1, h2⟩ := decode_encode d hd t
  have hne : encodeRune (d : Int) ++ t ≠ [] := by simp [encode_ne]
  unfold bad at h2
  rw [validD_step _ hne, if_neg h2, h1]
  simp

theorem valid_append : ∀ (n : Nat) (a b : By), a.length ≤ n → validD a = true → validD (a ++ b) = validD b
  | 0, a, b, h, _ => by
    have : a = [] := List.eq_nil_of_length_eq_zero (by omega)
    subst this; rfl
  | n + 1, a, b, h, hv => by
    rcases valid_cases a hv with rfl | ⟨d, r, hd, rfl, hr, _⟩
    · rfl
    · rw [List.append_assoc, valid_encode d hd]
      have : 0 < (encodeRune (d : Int)).length := List.length_pos_iff.2 (encode_ne _)
      simp only [List.length_append] at h
      exact valid_append n r b (by omega) hr

/-! ### spellings of a text -/
/-- e is a spelling of the character d, whatever stands behind it -/
def SpeltChar (d : Nat) (e : By) : Prop := okRune d ∧ (∃ c u, e = c :: u ∧ c ≠ 34) ∧ ∀ rest, char (e ++ rest) = some (d, rest)

/-- the text that a row of spelt characters stands for, and what is written -/
def stands (L : List (Nat × By)) : By := L.flatMap fun p => encodeRune (p.1 : Int)
def written (L : List (Nat × By)) : By := L.flatMap fun p => p.2
def Spelt (t u : By) : Prop := ∃ L : List (Nat × By), (∀ p ∈ L, SpeltChar p.1 p.2) ∧ t = stands L ∧ u = written L

theorem Spelt.nil : Spelt [] [] := ⟨[], by simp, rfl, rfl⟩
theorem Spelt.cons {d : Nat} {e t u : By} (h : SpeltChar d e) (k : Spelt t u) : Spelt (encodeRune (d : Int) ++ t) (e ++ u) := by
  obtain ⟨L, hL, rfl, rfl⟩ := k
  refine ⟨(d, e) :: L, ?_, by simp [stands], by simp [written]⟩
  intro p hp
  rcases List.mem_cons.1 hp with rfl | hp
  · exact h
  · exact hL p hp

theorem spelt_chars : ∀ (L : List (Nat × By)), (∀ p ∈ L, SpeltChar p.1 p.2) → ∀ (n : Nat) (acc rest : By), (written L).length < n → chars n acc (written L ++ 34 :: rest) = some (acc ++ stands L, rest)
  | [], _, n, acc, rest, hn => by
    cases n with
    | zero => omega
    | succ n => simp [written, stands, Json.chars]
  | (d, e) :: L, h, n, acc, rest, hn => by
    obtain ⟨_, ⟨c, v, he, hne⟩, hch⟩ := h (d, e) (by simp)
    simp only at he hch
    subst he
    have ih := spelt_chars L (fun p hp => h p (List.mem_cons_of_mem _ hp))
    cases n with
    | zero => omega
    | succ n =>
      have e1 : written ((d, c :: v) :: L) = c :: (v ++ written L) := by simp [written]
      have e2 : stands ((d, c :: v) :: L) = encodeRune (d : Int) ++ stands L := by simp [stands]
      rw [e1] at hn ⊢
      rw [e2]
      have h1 := hch (written L ++ 34 :: rest)
      simp only [List.cons_append, List.append_assoc] at h1 hn ⊢
      rw [Json.chars, if_neg hne, h1]
      simp only
      rw [ih n _ rest (by simp only [List.length_cons, List.length_append] at hn; omega), List.append_assoc]

theorem Spelt.chars {t u : By} (h : Spelt t u) (n : Nat) (acc rest : By) (hn : u.length < n) : chars n acc (u ++ 34 :: rest) = some (acc ++ t, rest) := by
  obtain ⟨L, hL, rfl, rfl⟩ := h
  exact spelt_chars L hL n acc rest hn

theorem Spelt.quoted {t u : By} (h : Spelt t u) (rest : By) : quoted (34 :: (u ++ 34 :: rest)) = some (t, rest) := by
  unfold Json.quoted
  have : word [34] (34 :: (u ++ 34 :: rest)) = some (u ++ 34 :: rest) := by simp [word, List.isPrefixOf]
  rw [this]
  simp only
  rw [h.chars _ _ _ (by simp; omega)]
  rfl

theorem stands_valid : ∀ (L : List (Nat × By)), (∀ p ∈ L, SpeltChar p.1 p.2) → validD (stands L) = true
  | [], _ => rfl
  | (d, e) :: L, h => by
    have e2 : stands ((d, e) :: L) = encodeRune (d : Int) ++ stands L := by simp [stands]
    rw [e2, valid_encode _ (h (d, e) (by simp)).1]
    exact stands_valid L (fun p hp => h p (List.mem_cons_of_mem _ hp))
theorem Spelt.valid {t u : By} (h : Spelt t u) : validD t = true := by
  obtain ⟨L, hL, rfl, _⟩ := h
  exact stands_valid L hL

/-! ### a character as itself, and by what 'esc' gives -/
theorem encode_ascii (d : Nat) (h : d < 128) : encodeRune (d : Int) = [UInt8.ofNat d] := by
  unfold encodeRune
  rw [encodeRuneZ_one (by omega) (by omega)]
  simp

theorem encode_high (d : Nat) (_hd : okRune d) (h : 128 ≤ d) : ∀ c ∈ encodeRune (d : Int), 128 ≤ c.toNat := by
  intro c hc
  unfold encodeRune at hc
  simp only [List.mem_map] at hc
  obtain ⟨z, hz, rfl⟩ := hc
  have hb := encodeRuneZ_byte (d : Int) z hz
  have : 128 ≤ z := by
    unfold encodeRuneZ at hz
    split at hz
    · omega
    · split at hz
      · simp at hz; omega
      · split at hz
        · simp at hz; omega
        · split at hz
          · simp at hz; omega
          · simp at hz; omega
  have e := toU8 (z := z) (n := z.toNat) (by omega) (by omega)
  rw [e]; omega

/-- a character from 20 on other than the quote and the backslash stands for itself -/
theorem spelt_self (d : Nat) (hd : okRune d) (h32 : 32 ≤ d) (h34 : d ≠ 34) (h92 : d ≠ 92) : SpeltChar d (encodeRune (d : Int)) := by
  have hhead : ∃ c u, encodeRune (d : Int) = c :: u ∧ c ≠ 34 ∧ c ≠ 92 := by
    by_cases h : d < 128
    · rw [encode_ascii d h]
      refine ⟨_, _, rfl, ?_, ?_⟩
      · intro e; have := congrArg UInt8.toNat e; simp at this; omega
      · intro e; have := congrArg UInt8.toNat e; simp at this; omega
    · cases he : encodeRune (d : Int) with
      | nil => exact absurd he (encode_ne _)
      | cons c u =>
        have := encode_high d hd (by omega) c (by rw [he]; simp)
        refine ⟨c, u, rfl, ?_, ?_⟩
        · rintro rfl; revert this; decide
        · rintro rfl; revert this; decide
  obtain ⟨c, u, he, hc, hc2⟩ := hhead
  refine ⟨hd, ⟨c, u, he, hc⟩, fun rest => ?_⟩
  obtain ⟨h1, h2⟩ := decode_encode d hd rest
  rw [he] at h1 h2 ⊢
  simp only [List.cons_append] at h1 h2 ⊢
  have hn : ¬ ((decodeL (c :: (u ++ rest))).1 < 32 ∨ bad (c :: (u ++ rest))) := by
    rintro (h | h)
    · rw [h1] at h; simp only at h; omega
    · exact h2 h
  rw [char, if_neg hc2, if_neg hn, h1]
  simp

theorem spelt_short (c : UInt8) (n : Nat) (h : short c = some n) (h117 : c ≠ 117) : SpeltChar n [92, c] := by
  refine ⟨?_, ⟨92, [c], rfl, by decide⟩, fun rest => ?_⟩
  · unfold short at h
    unfold okRune
    repeat' split at h
    all_goals first | (injection h with h; omega) | cases h
  · simp only [List.cons_append, List.nil_append, char, escaped]
    rw [if_pos trivial, if_neg h117, h]

theorem unit_four (a b c d : UInt8) (x y z v : Nat) (ha : hexa a = some x) (hb : hexa b = some y) (hc : hexa c = some z) (hd : hexa d = some v) (rest : By) :
    unit (a :: b :: c :: d :: rest) = some (16 * (16 * (16 * x + y) + z) + v, rest) := by
  simp only [unit, hexs, ha, hb, hc, hd]
  simp

/-- a character by one unit -/
theorem spelt_unit (e : By) (n : Nat) (hn : n < 55296 ∨ 57344 ≤ n) (hn2 : n < 65536) (he : ∀ rest, unit (e ++ rest) = some (n, rest)) : SpeltChar n (92 :: 117 :: e) := by
  refine ⟨by unfold okRune; omega, ⟨92, 117 :: e, rfl, by decide⟩, fun rest => ?_⟩
  simp only [List.cons_append, char, escaped]
  rw [if_pos trivial, if_pos trivial, numbered, he]
  simp only
  rw [if_pos hn]

/-- a character by two units -/
theorem spelt_units (e f : By) (h k : Nat) (hh : 55296 ≤ h ∧ h < 56320) (hk : 56320 ≤ k ∧ k < 57344) (he : ∀ rest, unit (e ++ rest) = some (h, rest)) (hf : ∀ rest, unit (f ++ rest) = some (k, rest)) :
    SpeltChar (65536 + (h - 55296) * 1024 + (k - 56320)) (92 :: 117 :: (e ++ 92 :: 117 :: f)) := by
  refine ⟨by unfold okRune; omega, ⟨92, _, rfl, by decide⟩, fun rest => ?_⟩
  simp only [List.cons_append, List.append_assoc, char, escaped]
  rw [if_pos trivial, if_pos trivial, numbered, he]
  simp only
  rw [if_neg (by omega)]
  have hw : word [92, 117] (92 :: 117 :: (f ++ rest)) = some (f ++ rest) := by simp [word, List.isPrefixOf]
  rw [hw]
  simp only
  rw [hf]
  simp only
  rw [if_pos (by omega)]

theorem hexa_dig (n : Nat) (h : n < 16) : hexa (dig n) = some n := by
  have : ∀ m : Fin 16, hexa (dig m.val) = some m.val := by decide
  exact this ⟨n, h⟩

set_option maxRecDepth 100000 in
theorem esc_cases : ∀ c : UInt8, c.toNat < 128 → (∃ d, esc c = [92, d] ∧ short d = some c.toNat ∧ d ≠ 117) ∨ (c.toNat < 32 ∧ esc c = [92, 117, 48, 48, dig (c.toNat / 16), dig (c.toNat % 16)]) ∨ (esc c = [c] ∧ 32 ≤ c.toNat ∧ c.toNat ≠ 34 ∧ c.toNat ≠ 92) := by
  intro c hc
  by_cases h34 : c = 34
  · subst h34; exact Or.inl ⟨34, by decide⟩
  by_cases h92 : c = 92
  · subst h92; exact Or.inl ⟨92, by decide⟩
  by_cases h8 : c = 8
  · subst h8; exact Or.inl ⟨98, by decide⟩
  by_cases h9 : c = 9
  · subst h9; exact Or.inl ⟨116, by decide⟩
  by_cases h10 : c = 10
  · subst h10; exact Or.inl ⟨110, by decide⟩
  by_cases h12 : c = 12
  · subst h12; exact Or.inl ⟨102, by decide⟩
  by_cases h13 : c = 13
  · subst h13; exact Or.inl ⟨114, by decide⟩
  unfold esc
  rw [if_neg h34, if_neg h92, if_neg h8, if_neg h9, if_neg h10, if_neg h12, if_neg h13]
  by_cases hl : c.toNat < 32
  · rw [if_pos hl]; exact Or.inr (Or.inl ⟨hl, rfl⟩)
  · rw [if_neg hl]
    refine Or.inr (Or.inr ⟨rfl, by omega, ?_, ?_⟩)
    · intro e; exact h34 (UInt8.toNat.inj e)
    · intro e; exact h92 (UInt8.toNat.inj e)

theorem esc_high (c : UInt8) (h : 128 ≤ c.toNat) : esc c = [c] := by
  unfold esc
  rw [if_neg (by rintro rfl; revert h; decide), if_neg (by rintro rfl; revert h; decide), if_neg (by rintro rfl; revert h; decide), if_neg (by rintro rfl; revert h; decide), if_neg (by rintro rfl; revert h; decide), if_neg (by rintro rfl; revert h; decide), if_neg (by rintro rfl; revert h; decide), if_neg (by omega)]

theorem inner_high : ∀ (l : By), (∀ c ∈ l, 128 ≤ c.toNat) → inner l = l
  | [], _ => rfl
  | c :: r, h => by
    have ih := inner_high r (fun x hx => h x (List.mem_cons_of_mem _ hx))
    unfold inner at ih ⊢
    rw [List.flatMap_cons, esc_high c (h c (by simp)), ih]; rfl

theorem inner_append (a b : By) : inner (a ++ b) = inner a ++ inner b := by simp [inner, List.flatMap_append]

/-- a character's bytes, written as a quoted text has them, spell it -/
theorem spelt_inner (d : Nat) (hd : okRune d) : SpeltChar d (inner (encodeRune (d : Int))) := by
  by_cases h : d < 128
  · have hc : (UInt8.ofNat d).toNat = d := by simp; omega
    rw [encode_ascii d h]
    have e1 : inner [UInt8.ofNat d] = esc (UInt8.ofNat d) := by simp [inner]
    rw [e1]
    rcases esc_cases (UInt8.ofNat d) (by omega) with ⟨x, he, hs, hx⟩ | ⟨hl, he⟩ | ⟨he, a1, a2, a3⟩
    · rw [he]; rw [hc] at hs; exact spelt_short x d hs hx
    · rw [he]
      refine spelt_unit [48, 48, dig ((UInt8.ofNat d).toNat / 16), dig ((UInt8.ofNat d).toNat % 16)] d (by omega) (by omega) ?_
      intro rest
      rw [hc]
      simp only [List.cons_append, List.nil_append]
      rw [unit_four _ _ _ _ 0 0 (d / 16) (d % 16) (by decide) (by decide) (hexa_dig _ (by omega)) (hexa_dig _ (by omega))]
      simp only [Option.some.injEq, Prod.mk.injEq, and_true]
      omega
    · rw [he, ← encode_ascii d h]
      rw [hc] at a1 a2 a3
      exact spelt_self d hd a1 a2 a3
  · rw [inner_high _ (encode_high d hd (by omega))]
    exact spelt_self d hd (by omega) (by omega) (by omega)

/-- what Quote writes is a spelling -/
theorem spelt_quote : ∀ (n : Nat) (l : By), l.length ≤ n → validD l = true → Spelt l (inner l)
  | 0, l, h, _ => by
    have : l = [] := List.eq_nil_of_length_eq_zero (by omega)
    subst this; exact Spelt.nil
  | n + 1, l, h, hv => by
    rcases valid_cases l hv with rfl | ⟨d, r, hd, rfl, hr, _⟩
    · exact Spelt.nil
    · rw [inner_append]
      have : 0 < (encodeRune (d : Int)).length := List.length_pos_iff.2 (encode_ne _)
      simp only [List.length_append] at h
      exact Spelt.cons (spelt_inner d hd) (spelt_quote n r (by omega) hr)

/-- how the program writes a character -/
def charOf (d : Nat) : By := if 32 ≤ d ∧ d ≠ 34 ∧ d ≠ 92 then encodeRune (d : Int) else esc (UInt8.ofNat d)
set_option maxRecDepth 100000 in
theorem esc_self : ∀ d : Fin 128, (32 ≤ d.val ∧ d.val ≠ 34 ∧ d.val ≠ 92) → [UInt8.ofNat d.val] = esc (UInt8.ofNat d.val) := by decide
theorem charOf_inner (d : Nat) (hd : okRune d) : charOf d = inner (encodeRune (d : Int)) := by
  unfold charOf
  by_cases h : d < 128
  · have hc : (UInt8.ofNat d).toNat = d := by simp; omega
    rw [encode_ascii d h]
    have e1 : inner [UInt8.ofNat d] = esc (UInt8.ofNat d) := by simp [inner]
    rw [e1]
    split
    · rename_i hh
      exact esc_self ⟨d, h⟩ hh
    · rfl
  · rw [if_pos (by omega), inner_high _ (encode_high d hd (by omega))]

/-! ### what is read is plain -/
theorem hexa_lt {c : UInt8} {n : Nat} (h : hexa c = some n) : n < 16 := by
  unfold hexa at h
  repeat' split at h
  all_goals first | (injection h with h; omega) | cases h
theorem hexs_lt : ∀ (k n : Nat) (l : By) {m : Nat} {r : By}, hexs k n l = some (m, r) → m < (n + 1) * 16 ^ k
  | 0, n, l, m, r, h => by
    simp only [hexs, Option.some.injEq, Prod.mk.injEq] at h
    omega
  | k + 1, n, [], m, r, h => by simp [hexs] at h
  | k + 1, n, c :: t, m, r, h => by
    simp only [hexs] at h
    split at h
    · cases h
    · rename_i d hd
      have h1 := hexs_lt k _ t h
      have h2 := hexa_lt hd
      refine Nat.lt_of_lt_of_le h1 ?_
      rw [Nat.pow_succ, Nat.mul_comm (16 ^ k) 16, ← Nat.mul_assoc]
      exact Nat.mul_le_mul_right _ (by omega)
theorem unit_lt {l r : By} {n : Nat} (h : unit l = some (n, r)) : n < 65536 := by
  have := hexs_lt 4 0 l h; omega
theorem numbered_ok {l r : By} {n : Nat} (h : numbered l = some (n, r)) : okRune n := by
  unfold numbered at h
  unfold okRune
  split at h
  · cases h
  · rename_i a r0 e0
    have h0 := unit_lt e0
    split at h
    · injection h with h; injection h with h _; subst h; omega
    · split at h
      · cases h
      · split at h
        · cases h
        · rename_i k r2 e2
          have h2 := unit_lt e2
          split at h
          · injection h with h; injection h with h _; subst h; omega
          · cases h
theorem char_ok {l r : By} {n : Nat} (h : char l = some (n, r)) : okRune n := by
  cases l with
  | nil => cases h
  | cons c t =>
    simp only [char] at h
    split at h
    · cases t with
      | nil => cases h
      | cons x y =>
        simp only [escaped] at h
        split at h
        · exact numbered_ok h
        · split at h
          · cases h
          · rename_i m hm
            injection h with h; injection h with h _; subst h
            unfold short at hm
            unfold okRune
            repeat' split at hm
            all_goals first | (injection hm with hm; omega) | cases hm
    · split at h
      · cases h
      · injection h with h; injection h with h _; subst h
        exact decode_ok _
theorem chars_valid : ∀ (n : Nat) (acc l : By) {t r : By}, validD acc = true → chars n acc l = some (t, r) → validD t = true
  | 0, _, _, _, _, _, h => by simp [chars] at h
  | _ + 1, _, [], _, _, _, h => by simp [chars] at h
  | n + 1, acc, c :: r, t, r2, ha, h => by
    simp only [chars] at h
    split at h
    · injection h with h; injection h with h _; subst h; exact ha
    · split at h
      · cases h
      · rename_i d r1 e
        refine chars_valid n _ r1 ?_ h
        rw [valid_append _ acc _ (Nat.le_refl _) ha]
        have := valid_encode d (char_ok e) []
        simpa [validD_nil] using this
theorem quoted_valid {l t r : By} (h : quoted l = some (t, r)) : validD t = true := by
  unfold quoted at h
  split at h
  · cases h
  · exact chars_valid _ [] _ validD_nil h
end Go.Proofs.YtkkgngmhdlmgnaaDoor.Json
