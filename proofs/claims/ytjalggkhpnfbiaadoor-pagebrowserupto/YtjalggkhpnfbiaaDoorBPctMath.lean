namespace Go.Proofs.YtjalggkhpnfbiaaDoor.Pct

/-- the bytes that stand as they are -/
def unres (c : UInt8) : Bool :=
  (65 ≤ c.toNat && c.toNat ≤ 90) || (97 ≤ c.toNat && c.toNat ≤ 122) || (48 ≤ c.toNat && c.toNat ≤ 57) || c.toNat == 45 || c.toNat == 46 || c.toNat == 95 || c.toNat == 126

/-- a digit with a large letter -/
def dig (n : Nat) : UInt8 := UInt8.ofNat (if n < 10 then 48 + n else 55 + n)

/-- what a digit counts; 16: none -/
def hexv (c : UInt8) : Nat :=
  if 48 ≤ c.toNat ∧ c.toNat ≤ 57 then c.toNat - 48 else if 65 ≤ c.toNat ∧ c.toNat ≤ 70 then c.toNat - 55 else if 97 ≤ c.toNat ∧ c.toNat ≤ 102 then c.toNat - 87 else 16

def esc1 (plus : Bool) (c : UInt8) : List UInt8 :=
  if unres c then [c] else if plus = true ∧ c = 32 then [43] else [37, dig (c.toNat / 16), dig (c.toNat % 16)]

def esc (plus : Bool) (l : List UInt8) : List UInt8 := l.flatMap (esc1 plus)

/-- what one byte that is no percent sign gives -/
def one (plus : Bool) (c : UInt8) : UInt8 := if plus = true ∧ c = 43 then 32 else c

def unesc (plus : Bool) : List UInt8 → Option (List UInt8)
  | [] => some []
  | c :: r =>
    if c = 37 then
      match r with
      | h :: l :: t => if hexv h < 16 ∧ hexv l < 16 then (unesc plus t).map (UInt8.ofNat (16 * hexv h + hexv l) :: ·) else none
      | _ => none
    else if c.toNat < 33 ∨ 126 < c.toNat then none else (unesc plus r).map (one plus c :: ·)

theorem unesc_nil (plus : Bool) : unesc plus [] = some [] := by rw [unesc.eq_def]

theorem unesc_pct (plus : Bool) (h l : UInt8) (t : List UInt8) (hh : hexv h < 16) (hl : hexv l < 16) :
    unesc plus (37 :: h :: l :: t) = (unesc plus t).map (UInt8.ofNat (16 * hexv h + hexv l) :: ·) := by
  rw [unesc.eq_def]; simp only; rw [if_pos trivial, if_pos ⟨hh, hl⟩]

theorem unesc_bad (plus : Bool) (h l : UInt8) (t : List UInt8) (hh : ¬ (hexv h < 16 ∧ hexv l < 16)) : unesc plus (37 :: h :: l :: t) = none := by
  rw [unesc.eq_def]; simp only; rw [if_pos trivial, if_neg hh]

theorem unesc_short (plus : Bool) (r : List UInt8) (hr : r.length < 2) : unesc plus (37 :: r) = none := by
  match r, hr with
  | [], _ => rw [unesc.eq_def]; simp only; rw [if_pos trivial]
  | [_], _ => rw [unesc.eq_def]; simp only; rw [if_pos trivial]

theorem unesc_out (plus : Bool) (c : UInt8) (r : List UInt8) (h : c.toNat < 33 ∨ 126 < c.toNat) : unesc plus (c :: r) = none := by
  have hc : c ≠ 37 := by rintro rfl; revert h; decide
  rw [unesc.eq_def]; simp only; rw [if_neg hc, if_pos h]

theorem unesc_one (plus : Bool) (c : UInt8) (r : List UInt8) (hc : c ≠ 37) (h : ¬ (c.toNat < 33 ∨ 126 < c.toNat)) : unesc plus (c :: r) = (unesc plus r).map (one plus c :: ·) := by
  rw [unesc.eq_def]; simp only; rw [if_neg hc, if_neg h]

/-- AN INVARIANT: what is read up to place k, the rest being left -/
def Read (plus : Bool) (l : List UInt8) (k : Nat) (R : List UInt8) : Prop := k ≤ l.length ∧ unesc plus l = (unesc plus (l.drop k)).map (R ++ ·)

theorem read_zero (plus : Bool) (l : List UInt8) : Read plus l 0 [] := ⟨Nat.zero_le _, by simp⟩

theorem map_snoc {R : List UInt8} {b : UInt8} (o : Option (List UInt8)) : (o.map (b :: ·)).map (R ++ ·) = o.map ((R ++ [b]) ++ ·) := by
  cases o <;> simp

theorem drop_at {l : List UInt8} {k : Nat} (h : k < l.length) : l.drop k = l.getD k 0 :: l.drop (k + 1) := by
  rw [List.drop_eq_getElem_cons h]; simp [List.getD, h]

theorem read_one {plus : Bool} {l : List UInt8} {k : Nat} {R : List UInt8} (h : Read plus l k R) (hk : k < l.length) (hc : l.getD k 0 ≠ 37) (hp : ¬ ((l.getD k 0).toNat < 33 ∨ 126 < (l.getD k 0).toNat)) :
    Read plus l (k + 1) (R ++ [one plus (l.getD k 0)]) := by
  refine ⟨hk, ?_⟩
  rw [h.2, drop_at hk, unesc_one plus _ _ hc hp, map_snoc]

theorem read_pct {plus : Bool} {l : List UInt8} {k : Nat} {R : List UInt8} (h : Read plus l k R) (hk : k + 2 < l.length) (hc : l.getD k 0 = 37) (h1 : hexv (l.getD (k + 1) 0) < 16) (h2 : hexv (l.getD (k + 2) 0) < 16) :
    Read plus l (k + 3) (R ++ [UInt8.ofNat (16 * hexv (l.getD (k + 1) 0) + hexv (l.getD (k + 2) 0))]) := by
  refine ⟨hk, ?_⟩
  rw [h.2, drop_at (by omega), drop_at (show k + 1 < l.length by omega), drop_at (show k + 1 + 1 < l.length by omega), hc, unesc_pct plus _ _ _ h1 h2, map_snoc]

theorem read_bad {plus : Bool} {l : List UInt8} {k : Nat} {R : List UInt8} (h : Read plus l k R) (hk : k + 2 < l.length) (hc : l.getD k 0 = 37) (h1 : ¬ (hexv (l.getD (k + 1) 0) < 16 ∧ hexv (l.getD (k + 2) 0) < 16)) : unesc plus l = none := by
  rw [h.2, drop_at (by omega), drop_at (show k + 1 < l.length by omega), drop_at (show k + 1 + 1 < l.length by omega), hc, unesc_bad plus _ _ _ h1]; rfl

theorem read_short {plus : Bool} {l : List UInt8} {k : Nat} {R : List UInt8} (h : Read plus l k R) (hk : k < l.length) (hc : l.getD k 0 = 37) (h1 : l.length ≤ k + 2) : unesc plus l = none := by
  rw [h.2, drop_at hk, hc, unesc_short plus _ (by rw [List.length_drop]; omega)]; rfl

theorem read_out {plus : Bool} {l : List UInt8} {k : Nat} {R : List UInt8} (h : Read plus l k R) (hk : k < l.length) (hp : (l.getD k 0).toNat < 33 ∨ 126 < (l.getD k 0).toNat) : unesc plus l = none := by
  rw [h.2, drop_at hk, unesc_out plus _ _ hp]; rfl

theorem read_end {plus : Bool} {l : List UInt8} {R : List UInt8} (h : Read plus l l.length R) : unesc plus l = some R := by
  rw [h.2, List.drop_length, unesc_nil]; simp

theorem u8 (P : UInt8 → Prop) [DecidablePred P] (h : ∀ n : Fin 256, P (UInt8.ofNat n.val)) (c : UInt8) : P c := by
  have := h ⟨c.toNat, c.toNat_lt⟩
  simpa using this

set_option maxRecDepth 100000 in
theorem back_one (plus : Bool) (c : UInt8) (r : List UInt8) : unesc plus (esc1 plus c ++ r) = (unesc plus r).map (c :: ·) := by
  by_cases hu : unres c = true
  · have hf : ∀ c : UInt8, unres c = true → c ≠ 37 ∧ ¬ (c.toNat < 33 ∨ 126 < c.toNat) ∧ c ≠ 43 := u8 _ (by decide)
    obtain ⟨h1, h2, h3⟩ := hf c hu
    have e : esc1 plus c = [c] := by unfold esc1; rw [if_pos hu]
    rw [e, List.singleton_append, unesc_one plus _ _ h1 h2]
    have : one plus c = c := by unfold one; rw [if_neg (fun h => h3 h.2)]
    rw [this]
  · by_cases hp : plus = true ∧ c = 32
    · have e : esc1 plus c = [43] := by unfold esc1; rw [if_neg hu, if_pos hp]
      obtain ⟨rfl, rfl⟩ := hp
      rw [e, List.singleton_append, unesc_one true _ _ (by decide) (by decide)]
      rfl
    · have e : esc1 plus c = [37, dig (c.toNat / 16), dig (c.toNat % 16)] := by unfold esc1; rw [if_neg hu, if_neg hp]
      have hf : ∀ c : UInt8, hexv (dig (c.toNat / 16)) = c.toNat / 16 ∧ hexv (dig (c.toNat % 16)) = c.toNat % 16 := u8 _ (by decide)
      obtain ⟨h1, h2⟩ := hf c
      have hc := c.toNat_lt
      rw [e]
      show unesc plus (37 :: _ :: _ :: r) = _
      rw [unesc_pct plus _ _ _ (by omega) (by omega), h1, h2, Nat.div_add_mod]
      simp

/-- P3.3: what was escaped is read back -/
theorem back (plus : Bool) (l : List UInt8) : unesc plus (esc plus l) = some l := by
  induction l with
  | nil => exact unesc_nil plus
  | cons c r ih => show unesc plus (esc1 plus c ++ esc plus r) = _; rw [back_one, ih]; rfl

theorem esc_snoc (plus : Bool) (l : List UInt8) (c : UInt8) : esc plus (l ++ [c]) = esc plus l ++ esc1 plus c := by simp [esc]
theorem esc1_len (plus : Bool) (c : UInt8) : 1 ≤ (esc1 plus c).length ∧ (esc1 plus c).length ≤ 3 := by
  unfold esc1; split
  · simp
  · split <;> simp
theorem esc_len (plus : Bool) (l : List UInt8) : l.length ≤ (esc plus l).length ∧ (esc plus l).length ≤ 3 * l.length := by
  induction l with
  | nil => exact ⟨Nat.le_refl _, Nat.le_refl _⟩
  | cons c r ih =>
    have := esc1_len plus c
    have e : esc plus (c :: r) = esc1 plus c ++ esc plus r := rfl
    rw [e, List.length_append, List.length_cons]; omega

end Go.Proofs.YtjalggkhpnfbiaaDoor.Pct
