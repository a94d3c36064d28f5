namespace Go.Proofs.YtcpflfpgnbihiaaGreatDoor.Pct

/-- the bytes that stand as they are -/
def unres (c : UInt8) : Bool :=
  (65 ≤ c.toNat && c.toNat ≤ 90) || (97 ≤ c.toNat && c.toNat ≤ 122) || (48 ≤ c.toNat && c.toNat ≤ 57) || c.toNat == 45 || c.toNat == 46 || c.toNat == 95 || c.toNat == 126

/-- a digit with a large letter -/
def dig (n : Nat) : UInt8 := UInt8.ofNat (if n < 10 then 48 + n else 55 + n)

/-- what a digit counts; 16: none -/
def hexv (c : UInt8) : Nat :=
  if 48 ≤ c.toNat ∧ c.toNat ≤ 57 then c.toNat - 48 else if 65 ≤ c.toNat ∧ c.toNat ≤ 70 then c.toNat - 55 else if 97 ≤ c.toNat ∧ c.toNat ≤ 102 then c.toNat - 87 else 16

def esc1 (plus : Bool) (c : UInt8) : List UInt8 :=
  if unres c then [c] else if plus = true ∧ c = 32 then [43] else [37, dig (c.toNat / 16), dig (c.toNat % 16)]

def esc (plus : Bool) (l : List UInt8) : List UInt8 := l.flatMap (esc1 plus)

/-- what one byte that is no percent sign gives -/
def one (plus : Bool) (c : UInt8) : UInt8 := if plus = true ∧ c = 43 then 32 else c

def unesc (plus : Bool) : List UInt8 → Option (List UInt8)
  | [] => some []
  | c :: r =>
    if c = 37 then
      match r with
      | h :: l :: t => if hexv h < 16 ∧ hexv l < 16 then (unesc plus t).map (UInt8.ofNat (16 * hexv h + hexv l) :: ·) else none
      | _ => none
    else if c.toNat < 33 ∨ 126 < c.toNat then none else (unesc plus r).map (one plus c :: ·)

theorem unesc_nil (plus : Bool) : unesc plus [] = some [] := by rw [unesc.eq_def]

theorem unesc_pct (plus : Bool) (h l : UInt8) (t : List UInt8) (hh : hexv h < 16) (hl : hexv l < 16) :
    unesc plus (37 :: h :: l :: t) = (unesc plus t).map (UInt8.ofNat (16 * hexv h + hexv l) :: ·) := by
  rw [unesc.eq_def]; simp only; rw [if_pos trivial, if_pos ⟨hh, hl⟩]

theorem unesc_bad (plus : Bool) (h l : UInt8) (t : List UInt8) (hh : ¬ (hexv h < 16 ∧ hexv l < 16)) : unesc plus (37 :: h :: l :: t) = none := by
  rw [unesc.eq_def]; simp only; rw [if_pos trivial, if_neg hh]

theorem unesc_short (plus : Bool) (r : List UInt8) (hr : r.length < 2) : unesc plus (37 :: r) = none := by
  match r, hr with
  | [], _ => rw [unesc.eq_def]; simp only; rw [if_pos trivial]
  | [_], _ => rw [unesc.eq_def]; simp only; rw [if_pos trivial]

theorem unesc_out (plus : Bool) (c : UInt8) (r : List UInt8) (h : c.toNat < 33 ∨ 126 < c.toNat) : unesc plus (c :: r) = none := by
  have hc : c ≠ 37 := by rintro rfl; revert h; decide
  rw [unesc.eq_def]; simp only; rw [if_neg hc, if_pos h]

theorem unesc_one (plus : Bool) (c : UInt8) (r : List UInt8) (hc : c ≠ 37) (h : ¬ (c.toNat < 33 ∨ 126 < c.toNat)) : unesc plus (c :: r) = (unesc plus r).map (one plus c :: ·) := by
  rw [unesc.eq_def]; simp only; rw [if_neg hc, if_neg h]

/-- AN INVARIANT: what is read up to place k, the rest being left -/
def Read (plus : Bool) (l : List UInt8) (k : Nat) (R : List UInt8) : Prop := k ≤ l.length ∧ unesc plus l = (unesc plus (l.drop k)).map (R ++ ·)

theorem read_zero (plus : Bool) (l : List UInt8) : Read plus l 0 [] := ⟨Nat.zero_le _, by simp⟩

theorem map_snoc {R : List UInt8} {b : UInt8} (o : Option (List UInt8)) : (o.map (b :: ·)).map (R ++ ·) = o.map ((R ++ [b]) ++ ·) := by
  cases o <;> simp

theorem drop_at {l : List UInt8} {k : Nat} (h : k < l.length) : l.drop k = l.getD k 0 :: l.drop (k + 1) := by
  rw [List.drop_eq_getElem_cons h]; simp [List.getD, h]

theorem read_one {plus : Bool} {l : List UInt8} {k : Nat} {R : List UInt8} (h : Read plus l k R) (hk : k < l.length) (hc : l.getD k 0 ≠ 37) (hp : ¬ ((l.getD k 0).toNat < 33 ∨ 126 < (l.getD k 0).toNat)) :
    Read plus l (k + 1) (R ++ [one plus (l.getD k 0)]) := by
  refine ⟨hk, ?_⟩
  rw [h.2, drop_at hk, unesc_one plus _ _ hc hp, map_snoc]

theorem read_pct {plus : Bool} {l : List UInt8} {k : Nat} {R : List UInt8} (h : Read plus l k R) (hk : k + 2 < l.length) (hc : l.getD k 0 = 37) (h1 : hexv (l.getD (k + 1) 0) < 16) (h2 : hexv (l.getD (k + 2) 0) < 16) :
    Read plus l (k + 3) (R ++ [UInt8.ofNat (16 * hexv (l.getD (k + 1) 0) + hexv (l.getD (k + 2) 0))]) := by
  refine ⟨hk, ?_⟩
  rw [h.2, drop_at (by omega), drop_at (show k + 1 < l.length by omega), drop_at (show k + 1 + 1 < l.length by omega), hc, unesc_pct plus _ _ _ h1 h2, map_snoc]

theorem read_bad {plus : Bool} {l : List UInt8} {k : Nat} {R : List UInt8} (h : Read plus l k R) (hk : k + 2 < l.length) (hc : l.getD k 0 = 37) (h1 : ¬ (hexv (l.getD (k + 1) 0) < 16 ∧ hexv (l.getD (k + 2) 0) < 16)) : unesc plus l = none := by
  rw [h.2, drop_at (by omega), drop_at (show k + 1 < l.length by omega), drop_at (show k + 1 + 1 < l.length by omega), hc, unesc_bad plus _ _ _ h1]; rfl

theorem read_short {plus : Bool} {l : List UInt8} {k : Nat} {R : List UInt8} (h : Read plus l k R) (hk : k < l.length) (hc : l.getD k 0 = 37) (h1 : l.length ≤ k + 2) : unesc plus l = none := by
  rw [h.2, drop_at hk, hc, unesc_short plus _ (by rw [List.length_drop]; omega)]; rfl

theorem read_out {plus : Bool} {l : List UInt8} {k : Nat} {R : List UInt8} (h : Read plus l k R) (hk : k < l.length) (hp : (l.getD k 0).toNat < 33 ∨ 126 < (l.getD k 0).toNat) : unesc plus l = none := by
  rw [h.2, drop_at hk, unesc_out plus _ _ hp]; rfl

theorem read_end {plus : Bool} {l : List UInt8} {R : List UInt8} (h : Read plus l l.length R) : unesc plus l = some R := by
  rw [h.2, List.drop_length, unesc_nil]; simp

theorem read_len {plus : Bool} {l : List UInt8} {R : List UInt8} (h : unesc plus l = some R) : R.length ≤ l.length := by
  induction hn : l.length using Nat.strongRecOn generalizing l R with
  | _ n ih =>
    subst hn
    match l with
    | [] => rw [unesc_nil] at h; cases h; exact Nat.le_refl _
    | c :: r =>
      by_cases hc : c = 37
      · subst hc
        match r with
        | [] => rw [unesc_short _ _ (by simp)] at h; cases h
        | [_] => rw [unesc_short _ _ (by simp)] at h; cases h
        | a :: b :: t =>
          by_cases hh : hexv a < 16 ∧ hexv b < 16
          · rw [unesc_pct _ _ _ _ hh.1 hh.2] at h
            obtain ⟨R', h', rfl⟩ := Option.map_eq_some_iff.1 h
            have := ih _ (by simp; omega) h' rfl
            simp; omega
          · rw [unesc_bad _ _ _ _ hh] at h; cases h
      · by_cases hp : c.toNat < 33 ∨ 126 < c.toNat
        · rw [unesc_out _ _ _ hp] at h; cases h
        · rw [unesc_one _ _ _ hc hp] at h
          obtain ⟨R', h', rfl⟩ := Option.map_eq_some_iff.1 h
          have := ih _ (by simp) h' rfl
          simp; omega

theorem u8 (P : UInt8 → Prop) [DecidablePred P] (h : ∀ n : Fin 256, P (UInt8.ofNat n.val)) (c : UInt8) : P c := by
  have := h ⟨c.toNat, c.toNat_lt⟩
  simpa using this

set_option maxRecDepth 100000 in
theorem back_one (plus : Bool) (c : UInt8) (r : List UInt8) : unesc plus (esc1 plus c ++ r) = (unesc plus r).map (c :: ·) := by
  by_cases hu : unres c = true
  · have hf : ∀ c : UInt8, unres c = true → c ≠ 37 ∧ ¬ (c.toNat < 33 ∨ 126 < c.toNat) ∧ c ≠ 43 := u8 _ (by decide)
    obtain ⟨h1, h2, h3⟩ := hf c hu
    have e : esc1 plus c = [c] := by unfold esc1; rw [if_pos hu]
    rw [e, List.singleton_append, unesc_one plus _ _ h1 h2]
    have : one plus c = c := by unfold one; rw [if_neg (fun h => h3 h.2)]
    rw [this]
  · by_cases hp : plus = true ∧ c = 32
    · have e : esc1 plus c = [43] := by unfold esc1; rw [if_neg hu, if_pos hp]
      obtain ⟨rfl, rfl⟩ := hp
      rw [e, List.singleton_append, unesc_one true _ _ (by decide) (by decide)]
      rfl
    · have e : esc1 plus c = [37, dig (c.toNat / 16), dig (c.toNat % 16)] := by unfold esc1; rw [if_neg hu, if_neg hp]
      have hf : ∀ c : UInt8, hexv (dig (c.toNat / 16)) = c.toNat / 16 ∧ hexv (dig (c.toNat % 16)) = c.toNat % 16 := u8 _ (by decide)
      obtain ⟨h1, h2⟩ := hf c
      have hc := c.toNat_lt
      rw [e]
      show unesc plus (37 :: _ :: _ :: r) = _
      rw [unesc_pct plus _ _ _ (by omega) (by omega), h1, h2, Nat.div_add_mod]
      simp

/-- P3.3: what was escaped is read back -/
theorem back (plus : Bool) (l : List UInt8) : unesc plus (esc plus l) = some l := by
  induction l with
  | nil => exact unesc_nil plus
  | cons c r ih => show unesc plus (esc1 plus c ++ esc plus r) = _; rw [back_one, ih]; rfl

theorem esc_snoc (plus : Bool) (l : List UInt8) (c : UInt8) : esc plus (l ++ [c]) = esc plus l ++ esc1 plus c := by simp [esc]
theorem esc_app (plus : Bool) (l m : List UInt8) : esc plus (l ++ m) = esc plus l ++ esc plus m := by simp [esc]
theorem esc1_len (plus : Bool) (c : UInt8) : 1 ≤ (esc1 plus c).length ∧ (esc1 plus c).length ≤ 3 := by
  unfold esc1; split
  · simp
  · split <;> simp
theorem esc_len (plus : Bool) (l : List UInt8) : l.length ≤ (esc plus l).length ∧ (esc plus l).length ≤ 3 * l.length := by
  induction l with
  | nil => exact ⟨Nat.le_refl _, Nat.le_refl _⟩
  | cons c r ih =>
    have := esc1_len plus c
    have e : esc plus (c :: r) = esc1 plus c ++ esc plus r := rfl
    rw [e, List.length_append, List.length_cons]; omega

/-- a place that cannot be read -/
def badAt (l : List UInt8) (i : Nat) : Bool :=
  ((l.getD i 0).toNat < 33 || 126 < (l.getD i 0).toNat) || ((l.getD i 0) == 37 && (l.length ≤ i + 2 || 15 < hexv (l.getD (i + 1) 0) || 15 < hexv (l.getD (i + 2) 0)))

set_option maxRecDepth 100000 in
theorem hexv_in : ∀ c : UInt8, hexv c < 16 → c ≠ 37 ∧ ¬ (c.toNat < 33 ∨ 126 < c.toNat) := u8 _ (by decide)
set_option maxRecDepth 100000 in
theorem hexv_le : ∀ c : UInt8, hexv c ≤ 16 := u8 _ (by decide)

theorem badAt_succ (c : UInt8) (r : List UInt8) (i : Nat) : badAt (c :: r) (i + 1) = badAt r i := by
  unfold badAt
  have e : i + 1 + 1 = i + 2 := rfl
  have e1 : ∀ j, (c :: r).getD (j + 1) 0 = r.getD j 0 := fun j => by simp [List.getD]
  have e2 : i + 1 + 2 = (i + 2) + 1 := rfl
  have e3 : decide ((c :: r).length ≤ i + 1 + 2) = decide (r.length ≤ i + 2) := by rw [List.length_cons]; congr 1; exact propext ⟨fun h => by omega, fun h => by omega⟩
  rw [e1, e1, e3, e2, e1]

theorem badAt_plain (l : List UInt8) (i : Nat) (h1 : l.getD i 0 ≠ 37) (h2 : ¬ ((l.getD i 0).toNat < 33 ∨ 126 < (l.getD i 0).toNat)) : badAt l i = false := by
  unfold badAt
  generalize l.getD i 0 = c at *
  have a1 : ¬ c.toNat < 33 := fun h => h2 (Or.inl h)
  have a2 : ¬ 126 < c.toNat := fun h => h2 (Or.inr h)
  simp [h1, a1, a2]

/-- P3.2: what is refused, and how long the rest is -/
theorem refuses (plus : Bool) (l : List UInt8) : ((∃ i, i < l.length ∧ badAt l i = true) ∧ unesc plus l = none) ∨ ((∀ i, i < l.length → badAt l i = false) ∧ ∃ t, unesc plus l = some t ∧ t.length + 2 * l.count 37 = l.length) := by
  induction hn : l.length using Nat.strongRecOn generalizing l with
  | _ n ih =>
    subst hn
    match l with
    | [] => exact Or.inr ⟨fun i hi => absurd hi (Nat.not_lt_zero _), [], unesc_nil plus, rfl⟩
    | c :: r =>
      by_cases hc : c = 37
      · subst hc
        match r with
        | [] => exact Or.inl ⟨⟨0, by simp, by simp [badAt]⟩, unesc_short _ _ (by simp)⟩
        | [_] => exact Or.inl ⟨⟨0, by simp, by simp [badAt]⟩, unesc_short _ _ (by simp)⟩
        | a :: b :: t =>
          by_cases hh : hexv a < 16 ∧ hexv b < 16
          · have pa := hexv_in a hh.1
            have pb := hexv_in b hh.2
            have e1 : badAt (37 :: a :: b :: t) 1 = false := badAt_plain _ _ pa.1 pa.2
            have e2 : badAt (37 :: a :: b :: t) 2 = false := badAt_plain _ _ pb.1 pb.2
            have e0 : badAt (37 :: a :: b :: t) 0 = false := by
              unfold badAt
              simp [List.getD]
              omega
            rcases ih t.length (by simp; omega) t rfl with ⟨⟨i, hi, hb⟩, hu⟩ | ⟨hb, x, hu, hl⟩
            · refine Or.inl ⟨⟨i + 3, by simp; omega, ?_⟩, ?_⟩
              · rw [badAt_succ, badAt_succ, badAt_succ]; exact hb
              · rw [unesc_pct _ _ _ _ hh.1 hh.2, hu]; rfl
            · refine Or.inr ⟨?_, _ :: x, by rw [unesc_pct _ _ _ _ hh.1 hh.2, hu]; rfl, ?_⟩
              · intro i hi
                match i with
                | 0 => exact e0
                | 1 => exact e1
                | 2 => exact e2
                | i + 3 => rw [badAt_succ, badAt_succ, badAt_succ]; exact hb i (by simp at hi; omega)
              · rw [List.count_cons_self, List.count_cons_of_ne pa.1, List.count_cons_of_ne pb.1]
                simp; omega
          · refine Or.inl ⟨⟨0, by simp, ?_⟩, unesc_bad _ _ _ _ hh⟩
            unfold badAt
            simp [List.getD]
            omega
      · by_cases hp : c.toNat < 33 ∨ 126 < c.toNat
        · refine Or.inl ⟨⟨0, by simp, ?_⟩, unesc_out _ _ _ hp⟩
          unfold badAt
          simp [List.getD]
          exact Or.inl hp
        · rcases ih r.length (by simp) r rfl with ⟨⟨i, hi, hb⟩, hu⟩ | ⟨hb, x, hu, hl⟩
          · refine Or.inl ⟨⟨i + 1, by simp; omega, by rw [badAt_succ]; exact hb⟩, by rw [unesc_one _ _ _ hc hp, hu]; rfl⟩
          · refine Or.inr ⟨?_, _ :: x, by rw [unesc_one _ _ _ hc hp, hu]; rfl, ?_⟩
            · intro i hi
              match i with
              | 0 => exact badAt_plain _ _ hc hp
              | i + 1 => rw [badAt_succ]; exact hb i (by simp at hi; omega)
            · rw [List.count_cons_of_ne hc]; simp; omega

/-- a letter of a digit in the other case -/
def swap (c : UInt8) : UInt8 := if 97 ≤ c.toNat ∧ c.toNat ≤ 102 then UInt8.ofNat (c.toNat - 32) else if 65 ≤ c.toNat ∧ c.toNat ≤ 70 then UInt8.ofNat (c.toNat + 32) else c
def swapAt (near : Int) (c : UInt8) : UInt8 := if 0 < near then swap c else c
def nearAt (near : Int) (c : UInt8) : Int := if swapAt near c = 37 then 2 else near - 1
def turned : Int → List UInt8 → List UInt8
  | _, [] => []
  | n, c :: r => swapAt n c :: turned (nearAt n c) r

set_option maxRecDepth 100000 in
theorem hexv_swap : ∀ c : UInt8, hexv (swap c) = hexv c := u8 _ (by decide)
set_option maxRecDepth 100000 in
theorem swap_pct : ∀ c : UInt8, swap c = 37 ↔ c = 37 := u8 _ (by decide)
theorem turned_len (n : Int) (l : List UInt8) : (turned n l).length = l.length := by
  induction l generalizing n with
  | nil => rfl
  | cons c r ih => show (turned _ r).length + 1 = _; rw [ih]; rfl

/-- P3.2: the case of the digits says nothing -/
theorem unesc_turned (plus : Bool) (l : List UInt8) (n : Int) (hn0 : n ≤ 0) : unesc plus (turned n l) = unesc plus l := by
  induction hn : l.length using Nat.strongRecOn generalizing l n with
  | _ m ih =>
    subst hn
    match l with
    | [] => rfl
    | c :: r =>
      have es : swapAt n c = c := by unfold swapAt; rw [if_neg (by omega)]
      show unesc plus (swapAt n c :: turned (nearAt n c) r) = _
      by_cases hc : c = 37
      · have en : nearAt n c = 2 := by unfold nearAt; rw [es, if_pos hc]
        rw [es, en]
        subst hc
        match r with
        | [] => rfl
        | [_] => rw [unesc_short plus (turned 2 [_]) (by rw [turned_len]; simp), unesc_short plus [_] (by simp)]
        | a :: b :: t =>
          show unesc plus (37 :: swapAt 2 a :: swapAt (nearAt 2 a) b :: turned (nearAt (nearAt 2 a) b) t) = _
          have ea : swapAt 2 a = swap a := rfl
          by_cases ha : a = 37
          · subst ha
            have h37 : ¬ hexv 37 < 16 := by decide
            rw [unesc_bad plus _ _ _ (fun h => h37 h.1), unesc_bad plus _ _ _ (fun h => h37 (by have := h.1; rw [ea, hexv_swap] at this; exact this))]
          · have na : nearAt 2 a = 1 := by unfold nearAt; rw [ea, if_neg (fun h => ha ((swap_pct a).1 h))]; rfl
            have eb : swapAt 1 b = swap b := rfl
            rw [na, ea, eb]
            by_cases hh : hexv a < 16 ∧ hexv b < 16
            · have pb := hexv_in b hh.2
              have nb : nearAt 1 b = 0 := by unfold nearAt; rw [eb, if_neg (fun h => pb.1 ((swap_pct b).1 h))]; rfl
              rw [unesc_pct plus _ _ _ (by rw [hexv_swap]; exact hh.1) (by rw [hexv_swap]; exact hh.2), unesc_pct plus _ _ _ hh.1 hh.2, hexv_swap, hexv_swap, nb, ih t.length (by simp; omega) t 0 (by omega) rfl]
            · rw [unesc_bad plus _ _ _ hh, unesc_bad plus _ _ _ (by rw [hexv_swap, hexv_swap]; exact hh)]
      · have en : nearAt n c = n - 1 := by unfold nearAt; rw [es, if_neg hc]
        rw [es, en]
        by_cases hp : c.toNat < 33 ∨ 126 < c.toNat
        · rw [unesc_out _ _ _ hp, unesc_out _ _ _ hp]
        · rw [unesc_one _ _ _ hc hp, unesc_one _ _ _ hc hp, ih r.length (by simp) r (n - 1) (by omega) rfl]

end Go.Proofs.YtcpflfpgnbihiaaGreatDoor.Pct
