import Derived.Test.YtkkgngmhdlmgnaaDoorJsonSpelt
namespace Go.Proofs.YtkkgngmhdlmgnaaDoor.Json
open Go.Lib

/-! ### the document's reader, as mathematics: texts -/
/-- what is read behind a quote, with enough fuel -/
def chs (acc l : By) : Option (By × By) := chars (l.length + 1) acc l
theorem chs_nil (acc : By) : chs acc [] = none := rfl
theorem chs_end (acc r : By) : chs acc (34 :: r) = some (acc, r) := by
  unfold chs
  rw [List.length_cons]
  simp [chars]
theorem chs_no {acc l : By} {c : UInt8} (hc : c ≠ 34) (h : char (c :: l) = none) : chs acc (c :: l) = none := by
  unfold chs
  rw [List.length_cons]
  simp only [chars, if_neg hc, h]
theorem chs_step {acc l r : By} {c : UInt8} {d : Nat} (hc : c ≠ 34) (h : char (c :: l) = some (d, r)) : chs acc (c :: l) = chs (acc ++ encodeRune (d : Int)) r := by
  unfold chs
  rw [List.length_cons]
  simp only [chars, if_neg hc, h]
  have := char_lt h
  rw [List.length_cons] at this
  exact chars_fuel _ _ _ _ (by omega) (by omega)
theorem quoted_nil : quoted [] = none := rfl
theorem quoted_chs (r : By) : quoted (34 :: r) = chs [] r := rfl
theorem quoted_no {c : UInt8} {r : By} (h : c ≠ 34) : quoted (c :: r) = none := by
  unfold quoted word
  have : List.isPrefixOf [34] (c :: r) = false := by
    simp only [List.isPrefixOf, Bool.and_true]
    exact beq_false_of_ne (fun e => h e.symm)
  rw [this]; rfl
theorem char_esc (r : By) : char (92 :: r) = escaped r := rfl
theorem char_low {c : UInt8} {r : By} (h : c.toNat < 32) : char (c :: r) = none := by
  have h92 : c ≠ 92 := by rintro rfl; exact absurd h (by decide)
  show (if c = 92 then _ else _) = _
  rw [if_neg h92]
  exact if_pos (Or.inl (by rw [decodeL_ascii c r (by omega)]; exact h))
theorem char_bad {c : UInt8} {r : By} (h92 : c ≠ 92) (h : bad (c :: r)) : char (c :: r) = none := by
  show (if c = 92 then _ else _) = _
  rw [if_neg h92]
  exact if_pos (Or.inr h)
theorem char_self {c : UInt8} {r : By} (h92 : c ≠ 92) (h32 : 32 ≤ c.toNat) (hb : ¬ bad (c :: r)) :
    char (c :: r) = some ((decodeL (c :: r)).1, (c :: r).drop (decodeL (c :: r)).2) ∧ encodeRune ((decodeL (c :: r)).1 : Int) = (c :: r).take (decodeL (c :: r)).2 ∧ (decodeL (c :: r)).2 ≤ (c :: r).length ∧ 1 ≤ (decodeL (c :: r)).2 := by
  have he := encode_decode (c :: r) (by simp) hb
  have hl := decodeL_le (c :: r) (by simp)
  have hw := decodeL_width (c :: r)
  refine ⟨?_, he, hl, hw⟩
  show (if c = 92 then _ else _) = _
  rw [if_neg h92]
  refine if_neg ?_
  rintro (h | h)
  · rw [encode_ascii _ (by omega)] at he
    obtain ⟨n, hn⟩ : ∃ n, (decodeL (c :: r)).2 = n + 1 := ⟨(decodeL (c :: r)).2 - 1, by omega⟩
    rw [hn, List.take_succ_cons] at he
    injection he with h1 _
    have := congrArg UInt8.toNat h1
    rw [UInt8.toNat_ofNat'] at this
    omega
  · exact hb h
theorem encode_len (d : Int) : (encodeRune d).length ≤ 4 := by
  have := (encodeRuneZ_length d).2
  unfold encodeRune
  rw [List.length_map]; exact this
/-- an escape is no shorter than what it stands for -/
theorem encode_small (d : Nat) (h : d < 128) : (encodeRune (d : Int)).length = 1 := by rw [encode_ascii d h]; rfl
theorem encode_mid (d : Nat) (h : d < 65536) : (encodeRune (d : Int)).length ≤ 3 := by
  unfold encodeRune
  rw [List.length_map]
  by_cases h1 : d < 128
  · rw [encodeRuneZ_one (by omega) (by omega)]; simp
  by_cases h2 : d < 2048
  · rw [encodeRuneZ_two (by omega) (by omega)]; simp
  by_cases h3 : (d < 55296) ∨ (57343 < d)
  · rw [encodeRuneZ_three (by omega)]; simp
  · rw [encodeRuneZ_bad (by omega)]; simp
theorem short_lt {c : UInt8} {n : Nat} (h : short c = some n) : n < 128 := by
  unfold short at h
  repeat (split at h; · injection h with h; omega)
  cases h
theorem numbered_len {l r : By} {n : Nat} (h : numbered l = some (n, r)) : (encodeRune (n : Int)).length + r.length ≤ l.length := by
  unfold numbered at h
  split at h
  · cases h
  · rename_i a r0 e0
    have h0 := (hexs_le 4 0 l e0).1
    have ha := unit_lt e0
    split at h
    · injection h with h; injection h with h1 h2; subst h1 h2
      have := encode_mid a ha; omega
    · split at h
      · cases h
      · rename_i r1 e1
        have h1 := (word_le e1).1
        split at h
        · cases h
        · rename_i k r2 e2
          have h2 := (hexs_le 4 0 r1 e2).1
          split at h
          · injection h with h; injection h with h3 h4; subst h3 h4
            have := encode_len ((65536 + (a - 55296) * 1024 + (k - 56320) : Nat) : Int)
            simp only [List.length_cons, List.length_nil] at h1
            omega
          · cases h
theorem escaped_len {l r : By} {n : Nat} (h : escaped l = some (n, r)) : (encodeRune (n : Int)).length + r.length ≤ l.length := by
  cases l with
  | nil => cases h
  | cons c t =>
    simp only [escaped] at h
    split at h
    · have := numbered_len h; rw [List.length_cons]; omega
    · split at h
      · cases h
      · rename_i m e
        injection h with h; injection h with h1 h2; subst h1 h2
        have := encode_small m (short_lt e); rw [List.length_cons]; omega

/-! ### numbers -/
/-- digits counted below 0, as far as they fit -/
def down : Int → By → Option Int
  | n, [] => some n
  | n, c :: r => if n < -922337203685477580 ∨ (n = -922337203685477580 ∧ 8 < (c.toNat : Int) - 48) then none else down (10 * n - ((c.toNat : Int) - 48)) r
def below (ds : By) (minus : Bool) : Option Int :=
  match down 0 ds with
  | none => none
  | some n => if minus then some n else if n = -9223372036854775808 then none else some (-n)
/-- the document's number: the digits from here -/
def digs (l : By) (minus : Bool) : Option (Int × By) :=
  if l.takeWhile isDig = [] ∨ (l.head? = some 48 ∧ 1 < (l.takeWhile isDig).length) then none
  else match below (l.takeWhile isDig) minus with
    | none => none
    | some v => some (v, l.dropWhile isDig)
def numberR (l : By) : Option (Int × By) := if l.head? = some 45 then digs l.tail true else digs l false

theorem parse_ge : ∀ (r : By) (acc u : Nat), parseUint10 acc r = .ok u → acc ≤ u
  | [], acc, u, h => by simp only [parseUint10] at h; injection h with h; omega
  | c :: r, acc, u, h => by
    simp only [parseUint10] at h
    split at h
    · split at h
      · cases h
      · split at h
        · cases h
        · have := parse_ge r _ u h; omega
    · cases h
theorem parse_down : ∀ (ds : By) (acc : Nat), (∀ c ∈ ds, isDig c = true) → acc ≤ 9223372036854775808 →
    down (-(acc : Int)) ds = match parseUint10 acc ds with | .ok u => if u ≤ 9223372036854775808 then some (-(u : Int)) else none | _ => none
  | [], acc, _, ha => by simp only [down, parseUint10, if_pos ha]
  | c :: r, acc, h, ha => by
    have hc : 48 ≤ c.toNat ∧ c.toNat ≤ 57 := by
      have := h c (by simp)
      simpa [isDig] using this
    simp only [down, parseUint10, if_pos hc]
    by_cases h1 : acc * 10 + (c.toNat - 48) ≤ 9223372036854775808
    · rw [if_neg (by omega), if_neg (by omega), if_neg (by omega)]
      have := parse_down r (acc * 10 + (c.toNat - 48)) (fun x hx => h x (by simp [hx])) h1
      rw [← this]
      congr 1
      omega
    · rw [if_pos (by omega)]
      split
      · rename_i u e
        split at e
        · cases e
        · split at e
          · cases e
          · rw [if_neg]
            have := parse_ge r (acc * 10 + (c.toNat - 48)) u e
            omega
      · rfl

/-- nothing that may stand behind a member -/
def stuck (r : By) : Prop := r = [] ∨ ∃ c t, r = c :: t ∧ isDig c = true
theorem stuck_bl {r : By} (h : stuck r) : blanks r = r := by
  rcases h with rfl | ⟨c, t, rfl, hc⟩
  · rfl
  · unfold blanks
    rw [List.dropWhile_cons_of_neg]
    have : 48 ≤ c.toNat ∧ c.toNat ≤ 57 := by simpa [isDig] using hc
    intro hb
    simp only [bl, Bool.or_eq_true, beq_iff_eq] at hb
    rcases hb with ((rfl | rfl) | rfl) | rfl <;> exact absurd this (by decide)
theorem stuck_part {r : By} (h : stuck r) (d : UInt8) (hd : isDig d = false) : part d r = none := by
  rcases h with rfl | ⟨c, t, rfl, hc⟩
  · rfl
  · refine if_neg ?_
    rintro rfl
    rw [hd] at hc; cases hc
def stuckO {α : Type} (o : Option (α × By)) : Prop := ∀ v r, o = some (v, r) → stuck r
def dead {α : Type} (o : Option (α × By)) : Prop := ∀ v r, o = some (v, r) → part 44 r = none ∧ part 125 r = none

theorem take_tw (p : UInt8 → Bool) (l : By) : l.take (l.takeWhile p).length = l.takeWhile p := by
  conv => lhs; arg 2; rw [← List.takeWhile_append_dropWhile (p := p) (l := l)]
  exact List.take_left
theorem drop_tw (p : UInt8 → Bool) (l : By) : l.drop (l.takeWhile p).length = l.dropWhile p := by
  conv => lhs; arg 2; rw [← List.takeWhile_append_dropWhile (p := p) (l := l)]
  exact List.drop_left
theorem tw_all (p : UInt8 → Bool) : ∀ (l : By), ∀ c ∈ l.takeWhile p, p c = true
  | [], c, h => by simp at h
  | a :: l, c, h => by
    by_cases ha : p a = true
    · rw [List.takeWhile_cons_of_pos ha] at h
      rcases List.mem_cons.1 h with rfl | h
      · exact ha
      · exact tw_all p l c h
    · rw [List.takeWhile_cons_of_neg ha] at h
      simp at h

/-- the program's number, from the digits on -/
def num (q : By) (b : Bool) : Option (Int × By) :=
  match digitsOf q with
  | none => none
  | some k => match (if b then signed (parseMag (q.take k)) else signless (parseMag (q.take k))) with
    | .ok v => some (v, q.drop k)
    | _ => none
theorem below_parse (ds : By) (b : Bool) (h : ∀ c ∈ ds, isDig c = true) (hne : ds ≠ []) :
    below ds b = match (if b then signed (parseMag ds) else signless (parseMag ds)) with | .ok v => some v | _ => none := by
  have hd := parse_down ds 0 h (by decide)
  have hp : parseMag ds = parseUint10 0 ds := by unfold parseMag; rw [if_neg hne]
  unfold below
  rw [hp]
  have h0 : (-((0 : Nat) : Int)) = 0 := by decide
  rw [h0] at hd
  rw [hd]
  cases hq : parseUint10 0 ds with
  | ok u =>
    by_cases h1 : u ≤ 9223372036854775808
    · simp only [if_pos h1]
      cases b with
      | true => simp only [if_true, signed]; rw [if_neg (by omega)]
      | false =>
        simp only [Bool.false_eq_true, if_false, signless]
        by_cases h2 : u = 9223372036854775808
        · rw [if_pos (by omega), if_pos (by omega)]
        · rw [if_neg (by omega), if_neg (by omega)]
          simp
    · simp only [if_neg h1]
      cases b with
      | true => simp only [if_true, signed]; rw [if_pos (by omega)]
      | false => simp only [Bool.false_eq_true, if_false, signless]; rw [if_pos (by omega)]
  | _ => cases b <;> rfl
theorem num_digs (q : By) (b : Bool) : num q b = digs q b ∨ (stuckO (num q b) ∧ stuckO (digs q b)) := by
  cases q with
  | nil => exact Or.inl rfl
  | cons c t =>
    by_cases h48 : c = 48
    · subst h48
      have hn : num (48 :: t) b = some (0, t) := by cases b <;> rfl
      have htw : (48 :: t).takeWhile isDig = 48 :: t.takeWhile isDig := List.takeWhile_cons_of_pos (by decide)
      cases t with
      | nil => exact Or.inl (by rw [hn]; cases b <;> rfl)
      | cons d t' =>
        by_cases hd : isDig d = true
        · have hx : digs (48 :: d :: t') b = none := by
            unfold digs
            rw [htw, List.takeWhile_cons_of_pos hd]
            exact if_pos (Or.inr ⟨rfl, by simp⟩)
          refine Or.inr ⟨fun v r h => ?_, fun v r h => ?_⟩
          · rw [hn] at h; injection h with h; injection h with _ h; subst h
            exact Or.inr ⟨d, t', rfl, hd⟩
          · rw [hx] at h; cases h
        · refine Or.inl ?_
          rw [hn]
          unfold digs
          rw [htw, List.takeWhile_cons_of_neg hd, if_neg (by simp)]
          have hdw : (48 :: d :: t').dropWhile isDig = d :: t' := by
            rw [List.dropWhile_cons_of_pos (by decide), List.dropWhile_cons_of_neg hd]
          rw [hdw]
          cases b <;> rfl
    · by_cases hc : isDig c = true
      · have htw : (c :: t).takeWhile isDig = c :: t.takeWhile isDig := List.takeWhile_cons_of_pos hc
        have hhead : ¬ ((c :: t).takeWhile isDig = [] ∨ ((c :: t).head? = some 48 ∧ 1 < ((c :: t).takeWhile isDig).length)) := by
          rw [htw]
          rintro (h | ⟨h, _⟩)
          · cases h
          · injection h with h; exact h48 h
        by_cases hdw : (c :: t).dropWhile isDig = []
        · refine Or.inr ⟨fun v r h => ?_, fun v r h => ?_⟩
          · have : num (c :: t) b = none := by
              unfold num
              simp only [digitsOf, if_neg h48, if_pos hdw]
            rw [this] at h; cases h
          · unfold digs at h
            rw [if_neg hhead, hdw] at h
            split at h
            · cases h
            · injection h with h; injection h with _ h; exact Or.inl h.symm
        · refine Or.inl ?_
          unfold num digs
          rw [if_neg hhead]
          simp only [digitsOf, if_neg h48, if_neg hdw]
          rw [take_tw, drop_tw, below_parse _ b (tw_all isDig _) (by rw [htw]; simp)]
          generalize (if b = true then signed (parseMag (List.takeWhile isDig (c :: t))) else signless (parseMag (List.takeWhile isDig (c :: t)))) = z
          cases z <;> rfl
      · have htw : (c :: t).takeWhile isDig = [] := List.takeWhile_cons_of_neg hc
        have hdw : (c :: t).dropWhile isDig = c :: t := List.dropWhile_cons_of_neg hc
        refine Or.inl ?_
        unfold num digs
        rw [htw, if_pos (Or.inl rfl)]
        simp only [digitsOf, if_neg h48, hdw]
        rw [htw, if_neg (by simp)]
        cases b <;> rfl
theorem number_num (l : By) : number l = match l with | [] => none | c :: r => if c = 45 then num r true else num (c :: r) false := by
  cases l with
  | nil => rfl
  | cons c r =>
    show number (c :: r) = if c = 45 then num r true else num (c :: r) false
    by_cases h : c = 45
    · subst h
      rw [if_pos rfl]
      simp only [number, num, if_true]
      cases digitsOf r with
      | none => rfl
      | some k =>
        simp only [List.take_succ_cons, List.drop_succ_cons, atoiAll_minus]
        cases signed (parseMag (List.take k r)) <;> rfl
    · rw [if_neg h]
      simp only [number, num, if_neg h]
      cases hk : digitsOf (c :: r) with
      | none => rfl
      | some k =>
        simp only [Bool.false_eq_true, if_false]
        have : atoiAll ((c :: r).take k) = signless (parseMag ((c :: r).take k)) := by
          cases k with
          | zero => rfl
          | succ k =>
            rw [List.take_succ_cons]
            have h45 : c.toNat ≠ 45 := fun e => h (UInt8.toNat_inj.1 e)
            by_cases h43 : c.toNat = 43
            · exfalso
              have h48 : c ≠ 48 := by rintro rfl; exact absurd h43 (by decide)
              have hc : ¬ isDig c = true := by simp [isDig, h43]
              have htw : (c :: r).takeWhile isDig = [] := List.takeWhile_cons_of_neg hc
              have hdw : (c :: r).dropWhile isDig = c :: r := List.dropWhile_cons_of_neg hc
              simp only [digitsOf, if_neg h48, hdw, htw] at hk
              simp at hk
            · exact atoiAll_plain c _ h43 h45
        rw [this]
        cases signless (parseMag (List.take k (c :: r))) <;> rfl
theorem number_R (l : By) : number l = numberR l ∨ (stuckO (number l) ∧ stuckO (numberR l)) := by
  rw [number_num]
  cases l with
  | nil => exact Or.inl rfl
  | cons c r =>
    unfold numberR
    by_cases h : c = 45
    · subst h
      exact num_digs r true
    · have hh : ¬ (c :: r).head? = some 45 := by intro e; injection e with e; exact h e
      rw [if_neg hh]
      show (if c = 45 then num r true else num (c :: r) false) = _ ∨ (stuckO (if c = 45 then num r true else num (c :: r) false) ∧ _)
      rw [if_neg h]
      exact num_digs (c :: r) false
theorem numberR_no {c : UInt8} {r : By} (h45 : c ≠ 45) (h : isDig c = false) : numberR (c :: r) = none := by
  unfold numberR
  rw [if_neg (by intro e; injection e with e; exact h45 e)]
  unfold digs
  rw [List.takeWhile_cons_of_neg (by rw [h]; simp)]
  exact if_pos (Or.inl rfl)

/-! ### values, members, objects -/
def valueR (l : By) : Option (Mem × By) :=
  match word [116, 114, 117, 101] l with
  | some r => some (flagMem true, r)
  | none => match word [102, 97, 108, 115, 101] l with
    | some r => some (flagMem false, r)
    | none => if l.head? = some 34 then (match quoted l with | none => none | some (t, r) => some (textMem t, r))
      else match numberR l with | none => none | some (n, r) => some (numMem n, r)
theorem word_head {p : By} {a c : UInt8} {r : By} (h : a ≠ c) : word (a :: p) (c :: r) = none := by
  unfold word
  have : List.isPrefixOf (a :: p) (c :: r) = false := by
    simp only [List.isPrefixOf, Bool.and_eq_false_iff]
    exact Or.inl (beq_false_of_ne h)
  rw [this]; rfl
theorem value_R (l : By) : value l = valueR l ∨ (stuckO (value l) ∧ stuckO (valueR l)) := by
  cases l with
  | nil => exact Or.inl rfl
  | cons c r =>
    by_cases h34 : c = 34
    · subst h34
      refine Or.inl ?_
      unfold valueR
      rw [word_head (by decide), word_head (by decide)]
      rfl
    · have hh : ¬ (c :: r).head? = some 34 := by intro e; injection e with e; exact h34 e
      by_cases h116 : c = 116
      · subst h116
        refine Or.inl ?_
        unfold valueR
        rw [word_head (p := [97, 108, 115, 101]) (by decide), if_neg hh, numberR_no (by decide) (by decide)]
        simp only [value, if_neg h34, if_true]
        cases word [116, 114, 117, 101] (116 :: r) <;> rfl
      · by_cases h102 : c = 102
        · subst h102
          refine Or.inl ?_
          unfold valueR
          rw [word_head (p := [114, 117, 101]) (by decide), if_neg hh, numberR_no (by decide) (by decide)]
          simp only [value, if_neg h34, if_neg h116, if_true]
          cases word [102, 97, 108, 115, 101] (102 :: r) <;> rfl
        · have hv : value (c :: r) = match number (c :: r) with | none => none | some (n, r1) => some (numMem n, r1) := by
            simp only [value, if_neg h34, if_neg h116, if_neg h102]
            cases number (c :: r) <;> rfl
          have hr : valueR (c :: r) = match numberR (c :: r) with | none => none | some (n, r1) => some (numMem n, r1) := by
            unfold valueR
            rw [word_head (p := [114, 117, 101]) (fun e => h116 e.symm), word_head (p := [97, 108, 115, 101]) (fun e => h102 e.symm)]
            exact if_neg hh
          rw [hv, hr]
          rcases number_R (c :: r) with h | ⟨h1, h2⟩
          · rw [h]; exact Or.inl rfl
          · refine Or.inr ⟨fun v q h => ?_, fun v q h => ?_⟩
            · split at h
              · cases h
              · rename_i n r1 e
                injection h with h; injection h with _ h; subst h
                exact h1 _ _ e
            · split at h
              · cases h
              · rename_i n r1 e
                injection h with h; injection h with _ h; subst h
                exact h2 _ _ e
def memberR (l : By) : Option (Mem × By) :=
  match quoted l with
  | none => none
  | some (name, r) => match part 58 (blanks r) with
    | none => none
    | some r1 => match valueR r1 with
      | none => none
      | some (m, r2) => some ({ m with name := name }, blanks r2)
theorem dead_none {α : Type} : dead (none : Option (α × By)) := fun _ _ h => by cases h
theorem dead_val {name : By} {o : Option (Mem × By)} (h : stuckO o) : dead (match o with | none => none | some (m, r2) => some (({ m with name := name } : Mem), blanks r2)) := by
  intro v r e
  split at e
  · cases e
  · rename_i m r2
    injection e with e; injection e with _ e; subst e
    have := h m r2 rfl
    rw [stuck_bl this]
    exact ⟨stuck_part this 44 (by decide), stuck_part this 125 (by decide)⟩
theorem member_R (l : By) : member l = memberR l ∨ (dead (member l) ∧ dead (memberR l)) := by
  unfold member memberR
  cases quoted l with
  | none => exact Or.inl rfl
  | some x =>
    obtain ⟨name, r⟩ := x
    simp only
    cases part 58 (blanks r) with
    | none => exact Or.inl rfl
    | some r1 =>
      simp only
      rcases value_R r1 with h | ⟨h1, h2⟩
      · rw [h]; exact Or.inl rfl
      · exact Or.inr ⟨dead_val h1, dead_val h2⟩
def membersR : Nat → List Mem → By → Option (List Mem × By)
  | 0, _, _ => none
  | n + 1, acc, l => match memberR l with
    | none => none
    | some (m, r) => match part 44 r with
      | some r1 => membersR n (acc ++ [m]) r1
      | none => some (acc ++ [m], r)
def dead1 (o : Option (List Mem × By)) : Prop := ∀ v r, o = some (v, r) → part 125 r = none
theorem members_R : ∀ (n : Nat) (acc : List Mem) (l : By), members n acc l = membersR n acc l ∨ (dead1 (members n acc l) ∧ dead1 (membersR n acc l))
  | 0, _, _ => Or.inl rfl
  | n + 1, acc, l => by
    simp only [members, membersR]
    rcases member_R l with h | ⟨h1, h2⟩
    · rw [h]
      cases memberR l with
      | none => exact Or.inl rfl
      | some x =>
        obtain ⟨m, r⟩ := x
        simp only
        cases part 44 r with
        | none => exact Or.inl rfl
        | some r1 => exact members_R n _ r1
    · refine Or.inr ⟨?_, ?_⟩
      · cases hm : member l with
        | none => intro v r e; cases e
        | some x =>
          obtain ⟨m, r⟩ := x
          obtain ⟨p1, p2⟩ := h1 m r hm
          simp only [p1]
          intro v q e
          injection e with e; injection e with _ e; subst e
          exact p2
      · cases hm : memberR l with
        | none => intro v r e; cases e
        | some x =>
          obtain ⟨m, r⟩ := x
          obtain ⟨p1, p2⟩ := h2 m r hm
          simp only [p1]
          intro v q e
          injection e with e; injection e with _ e; subst e
          exact p2
def objectR (l : By) : Option (List Mem) :=
  match part 123 (blanks l) with
  | none => none
  | some r => match part 125 r with
    | some r1 => if r1 = [] then some [] else none
    | none => match membersR (r.length + 1) [] r with
      | none => none
      | some (ms, r1) => match part 125 r1 with
        | none => none
        | some r2 => if r2 = [] then some ms else none
def shut : Option (List Mem × By) → Option (List Mem)
  | none => none
  | some (ms, r1) => match part 125 r1 with
    | none => none
    | some r2 => if r2 = [] then some ms else none
theorem dead_shut {o : Option (List Mem × By)} (h : dead1 o) : shut o = none := by
  cases o with
  | none => rfl
  | some x =>
    obtain ⟨ms, r⟩ := x
    simp only [shut, h ms r rfl]
theorem object_shut (l : By) : object l = match part 123 (blanks l) with | none => none | some r => match part 125 r with | some r1 => if r1 = [] then some [] else none | none => shut (members (r.length + 1) [] r) := by
  unfold object
  cases part 123 (blanks l) with
  | none => rfl
  | some r =>
    simp only
    cases part 125 r with
    | some r1 => rfl
    | none =>
      simp only
      cases members (r.length + 1) [] r <;> rfl
theorem objectR_shut (l : By) : objectR l = match part 123 (blanks l) with | none => none | some r => match part 125 r with | some r1 => if r1 = [] then some [] else none | none => shut (membersR (r.length + 1) [] r) := by
  unfold objectR
  cases part 123 (blanks l) with
  | none => rfl
  | some r =>
    simp only
    cases part 125 r with
    | some r1 => rfl
    | none =>
      simp only
      cases membersR (r.length + 1) [] r <;> rfl
/-- the document's reader reads what the program reads -/
theorem object_R (l : By) : object l = objectR l := by
  rw [object_shut, objectR_shut]
  cases part 123 (blanks l) with
  | none => rfl
  | some r =>
    simp only
    cases part 125 r with
    | some r1 => rfl
    | none =>
      simp only
      rcases members_R (r.length + 1) [] r with h | ⟨h1, h2⟩
      · rw [h]
      · rw [dead_shut h1, dead_shut h2]

/-! ### with enough fuel -/
theorem digs_le {l r : By} {b : Bool} {v : Int} (h : digs l b = some (v, r)) : r.length ≤ l.length := by
  unfold digs at h
  split at h
  · cases h
  · split at h
    · cases h
    · injection h with h; injection h with _ h; subst h
      exact (List.dropWhile_sublist _).length_le
theorem numberR_le {l r : By} {v : Int} (h : numberR l = some (v, r)) : r.length ≤ l.length := by
  unfold numberR at h
  split at h
  · have := digs_le h; rw [List.length_tail] at this; omega
  · exact digs_le h
theorem valueR_le {l r : By} {m : Mem} (h : valueR l = some (m, r)) : r.length ≤ l.length := by
  unfold valueR at h
  split at h
  · rename_i r1 e
    injection h with h; injection h with _ h; subst h
    have := (word_le e).1; omega
  · split at h
    · rename_i r1 e
      injection h with h; injection h with _ h; subst h
      have := (word_le e).1; omega
    · split at h
      · split at h
        · cases h
        · rename_i t r1 e
          injection h with h; injection h with _ h; subst h
          have := quoted_lt e; omega
      · split at h
        · cases h
        · rename_i n r1 e
          injection h with h; injection h with _ h; subst h
          exact numberR_le e
theorem memberR_lt {l r : By} {m : Mem} (h : memberR l = some (m, r)) : r.length < l.length := by
  unfold memberR at h
  split at h
  · cases h
  · rename_i name r0 e0
    have h0 := quoted_lt e0
    split at h
    · cases h
    · rename_i r1 e1
      have h1 := part_lt e1
      have := blanks_le r0
      split at h
      · cases h
      · rename_i m2 r2 e2
        injection h with h; injection h with _ h; subst h
        have := valueR_le e2
        have := blanks_le r2
        omega
theorem membersR_fuel : ∀ (n m : Nat) (acc : List Mem) (l : By), l.length < n → l.length < m → membersR n acc l = membersR m acc l
  | 0, _, _, _, h, _ => by omega
  | _ + 1, 0, _, _, _, h => by omega
  | n + 1, m + 1, acc, l, h1, h2 => by
    simp only [membersR]
    split
    · rfl
    · rename_i k r e
      have := memberR_lt e
      split
      · rename_i r1 e1
        have := part_lt e1
        exact membersR_fuel n m _ r1 (by omega) (by omega)
      · rfl
def mems (acc : List Mem) (l : By) : Option (List Mem × By) := membersR (l.length + 1) acc l
theorem mems_nil (acc : List Mem) : mems acc [] = none := rfl
theorem mems_no {acc : List Mem} {l : By} (h : memberR l = none) : mems acc l = none := by
  unfold mems; simp only [membersR, h]
theorem mems_end {acc : List Mem} {l r : By} {m : Mem} (h : memberR l = some (m, r)) (h2 : part 44 r = none) : mems acc l = some (acc ++ [m], r) := by
  unfold mems; simp only [membersR, h, h2]
theorem mems_step {acc : List Mem} {l r r1 : By} {m : Mem} (h : memberR l = some (m, r)) (h2 : part 44 r = some r1) : mems acc l = mems (acc ++ [m]) r1 := by
  unfold mems
  rw [show membersR (l.length + 1) acc l = membersR l.length (acc ++ [m]) r1 by simp only [membersR, h, h2]]
  have := memberR_lt h
  have := part_lt h2
  exact membersR_fuel _ _ _ _ (by omega) (by omega)
end Go.Proofs.YtkkgngmhdlmgnaaDoor.Json

namespace Go.Proofs.YtkkgngmhdlmgnaaDoor.Json
open Go.Lib

theorem blanks_idem (l : By) : blanks (blanks l) = blanks l := by
  unfold blanks
  induction l with
  | nil => rfl
  | cons c r ih =>
    by_cases h : bl c = true
    · rw [List.dropWhile_cons_of_pos h]; exact ih
    · rw [List.dropWhile_cons_of_neg h, List.dropWhile_cons_of_neg h]
theorem part_bl {c : UInt8} {l r : By} (h : part c l = some r) : blanks r = r := by
  cases l with
  | nil => cases h
  | cons d t =>
    simp only [part] at h
    split at h
    · injection h with h; subst h; exact blanks_idem t
    · cases h
theorem memberR_bl {l r : By} {m : Mem} (h : memberR l = some (m, r)) : blanks r = r := by
  unfold memberR at h
  split at h
  · cases h
  · split at h
    · cases h
    · split at h
      · cases h
      · injection h with h; injection h with _ h; subst h; exact blanks_idem _
theorem membersR_bl : ∀ (n : Nat) (acc : List Mem) (l : By) {ms : List Mem} {r : By}, membersR n acc l = some (ms, r) → blanks r = r
  | 0, _, _, _, _, h => by cases h
  | n + 1, acc, l, ms, r, h => by
    simp only [membersR] at h
    split at h
    · cases h
    · rename_i m q e
      split at h
      · exact membersR_bl n _ _ h
      · injection h with h; injection h with _ h; subst h; exact memberR_bl e
/-- what stands ahead of the closing brace -/
def inside (r : By) : Option (List Mem × By) := if r = [] ∨ r.head? = some 125 then some ([], r) else mems [] r
theorem inside_bl {r q : By} {ms : List Mem} (hr : blanks r = r) (h : inside r = some (ms, q)) : blanks q = q := by
  unfold inside at h
  split at h
  · injection h with h; injection h with _ h; subst h; exact hr
  · exact membersR_bl _ _ _ h
theorem object_parts (l : By) : object l = match part 123 (blanks l) with
    | none => none
    | some r => match inside r with
      | none => none
      | some (ms, q) => match part 125 (blanks q) with
        | none => none
        | some r2 => if r2 = [] then some ms else none := by
  rw [object_R, objectR_shut]
  cases hp : part 123 (blanks l) with
  | none => rfl
  | some r =>
    have hb := part_bl hp
    simp only
    have hi : (match inside r with | none => none | some (ms, q) => match part 125 (blanks q) with | none => none | some r2 => if r2 = [] then some ms else none) = shut (inside r) := by
      cases hx : inside r with
      | none => rfl
      | some x =>
        obtain ⟨ms, q⟩ := x
        simp only [shut]
        rw [inside_bl hb hx]
        all_goals (cases part 125 q <;> rfl)
    rw [hi]
    unfold inside
    cases r with
    | nil => rfl
    | cons c t =>
      by_cases hc : c = 125
      · subst hc
        rw [if_pos (show (125 :: t = [] ∨ (125 :: t).head? = some 125) from Or.inr rfl)]
        have : part 125 (125 :: t) = some (blanks t) := by simp [part]
        simp only [shut, this]
      · have : part 125 (c :: t) = none := if_neg hc
        rw [this, if_neg]
        · rfl
        · rintro (h | h)
          · cases h
          · injection h with h; exact hc h
/-- the document's reader as a whole -/
theorem read_no {l : By} (h : object l = none) : read l = (2, []) := by unfold read; rw [h]
theorem read_many {l : By} {ms : List Mem} (h : object l = some ms) (h2 : 32 < ms.length) : read l = (3, []) := by unfold read; rw [h]; exact if_pos h2
theorem read_twice {l : By} {ms : List Mem} (h : object l = some ms) (h2 : ¬ 32 < ms.length) (h3 : twice ms = true) : read l = (4, []) := by
  unfold read; rw [h]; simp only [if_neg h2, if_pos h3]
theorem read_yes {l : By} {ms : List Mem} (h : object l = some ms) (h2 : ¬ 32 < ms.length) (h3 : twice ms = false) : read l = (0, ms) := by
  unfold read; rw [h]; simp only [if_neg h2, h3, Bool.false_eq_true, if_false]
end Go.Proofs.YtkkgngmhdlmgnaaDoor.Json
