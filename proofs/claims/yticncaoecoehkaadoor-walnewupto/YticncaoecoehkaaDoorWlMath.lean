import Derived.Test.YticncaoecoehkaaDoorCrcMath
namespace Go.Proofs.YticncaoecoehkaaDoor.Wl

/-- a number in four bytes, the highest first -/
def num4 (n : Nat) : List UInt8 := [UInt8.ofNat (n / 16777216), UInt8.ofNat (n / 65536), UInt8.ofNat (n / 256), UInt8.ofNat n]

/-- the number in the first four bytes -/
def val4 (l : List UInt8) : Nat := (l.getD 0 0).toNat * 16777216 + (l.getD 1 0).toNat * 65536 + (l.getD 2 0).toNat * 256 + (l.getD 3 0).toNat

/-- the sum of a payload, as its frame has it -/
def csum (p : List UInt8) : Nat := (Crc.more 0#32 (num4 p.length ++ p)).toNat

/-- a frame's head -/
def hd (p : List UInt8) : List UInt8 := num4 p.length ++ num4 (csum p)

/-- a frame -/
def fr (p : List UInt8) : List UInt8 := hd p ++ p

/-- may a payload have so many bytes? -/
def fit (n : Nat) : Bool := decide (1 ≤ n ∧ n ≤ 8192)

/-- the payload of the sound frame at the head -/
def first (l : List UInt8) : Option (List UInt8) :=
  if 8 ≤ l.length ∧ fit (val4 l) = true ∧ val4 l ≤ l.length - 8 ∧ l.take 8 = hd ((l.drop 8).take (val4 l)) then some ((l.drop 8).take (val4 l)) else none

theorem num4_len (n : Nat) : (num4 n).length = 4 := rfl
theorem hd_len (p : List UInt8) : (hd p).length = 8 := rfl
theorem fr_len (p : List UInt8) : (fr p).length = 8 + p.length := by simp [fr, hd_len]

theorem csum_lt (p : List UInt8) : csum p < 4294967296 := by
  have := (Crc.more 0#32 (num4 p.length ++ p)).isLt
  unfold csum; omega

theorem val4_num4 (n : Nat) (h : n < 4294967296) (t : List UInt8) : val4 (num4 n ++ t) = n := by
  simp [val4, num4]
  omega

theorem u8_eq (a : UInt8) (n : Nat) (h : n % 256 = a.toNat) : UInt8.ofNat n = a := by
  apply UInt8.toNat_inj.mp; simp; exact h

theorem num4_val4 (l : List UInt8) (h : 4 ≤ l.length) : num4 (val4 l) = l.take 4 := by
  match l, h with
  | a :: b :: c :: d :: t, _ =>
    have ha := a.toNat_lt; have hb := b.toNat_lt; have hc := c.toNat_lt; have hd := d.toNat_lt
    have e : val4 (a :: b :: c :: d :: t) = a.toNat * 16777216 + b.toNat * 65536 + c.toNat * 256 + d.toNat := rfl
    have e1 := u8_eq a ((a.toNat * 16777216 + b.toNat * 65536 + c.toNat * 256 + d.toNat) / 16777216) (by omega)
    have e2 := u8_eq b ((a.toNat * 16777216 + b.toNat * 65536 + c.toNat * 256 + d.toNat) / 65536) (by omega)
    have e3 := u8_eq c ((a.toNat * 16777216 + b.toNat * 65536 + c.toNat * 256 + d.toNat) / 256) (by omega)
    have e4 := u8_eq d (a.toNat * 16777216 + b.toNat * 65536 + c.toNat * 256 + d.toNat) (by omega)
    rw [e]; unfold num4; rw [e1, e2, e3, e4]; rfl

theorem val4_take (l : List UInt8) (k : Nat) (hk : 4 ≤ k) : val4 (l.take k) = val4 l := by
  unfold val4
  have h : ∀ i, i < 4 → (l.take k).getD i 0 = l.getD i 0 := by
    intro i hi
    simp [show i < k by omega]
  rw [h 0 (by omega), h 1 (by omega), h 2 (by omega), h 3 (by omega)]

theorem val4_app (l t : List UInt8) (h : 4 ≤ l.length) : val4 (l ++ t) = val4 l := by
  rw [← val4_take (l ++ t) 4 (Nat.le_refl _), ← val4_take l 4 (Nat.le_refl _)]
  rw [List.take_append_of_le_length h]

theorem val4_hd (p t : List UInt8) (h : p.length < 4294967296) : val4 (hd p ++ t) = p.length := by
  unfold hd; rw [List.append_assoc]; exact val4_num4 _ h _

theorem fit_iff (n : Nat) : fit n = true ↔ 1 ≤ n ∧ n ≤ 8192 := by simp [fit]

theorem first_fr (p t : List UInt8) (h : fit p.length = true) : first (fr p ++ t) = some p := by
  have hp := (fit_iff _).mp h
  have hv : val4 (fr p ++ t) = p.length := by
    unfold fr; rw [List.append_assoc]; exact val4_hd _ _ (by omega)
  have hdr : (fr p ++ t).drop 8 = p ++ t := by
    unfold fr; rw [List.append_assoc, List.drop_append_of_le_length (by simp [hd_len]), List.drop_of_length_le (by simp [hd_len])]; simp
  have htk : (fr p ++ t).take 8 = hd p := by
    unfold fr; rw [List.append_assoc, List.take_append_of_le_length (by simp [hd_len]), List.take_of_length_le (by simp [hd_len])]
  unfold first
  rw [hv, hdr, htk, List.take_left]
  rw [if_pos ⟨by simp [fr_len]; omega, h, by simp [fr_len]; omega, rfl⟩]

theorem first_some {l p : List UInt8} (h : first l = some p) : fit p.length = true ∧ l = fr p ++ l.drop (8 + p.length) := by
  unfold first at h
  split at h
  · rename_i hc
    obtain ⟨h1, h2, h3, h4⟩ := hc
    have hp := Option.some.inj h
    have hl : p.length = val4 l := by rw [← hp]; simp; omega
    refine ⟨by rw [hl]; exact h2, ?_⟩
    rw [hp] at h4
    have e : l = l.take 8 ++ l.drop 8 := (List.take_append_drop 8 l).symm
    have e2 : l.drop 8 = p ++ l.drop (8 + p.length) := by
      have := (List.take_append_drop p.length (l.drop 8)).symm
      rw [List.drop_drop] at this
      rw [← hl] at hp
      rw [hp] at this
      exact this
    unfold fr
    rw [← h4, List.append_assoc, ← e2]; exact e
  · cases h

/-- sound frames one behind the other -/
def flat (ps : List (List UInt8)) : List UInt8 := ps.flatMap fr

theorem flat_nil : flat [] = [] := rfl
theorem flat_cons (p : List UInt8) (ps : List (List UInt8)) : flat (p :: ps) = fr p ++ flat ps := by simp [flat]
theorem flat_append (a b : List (List UInt8)) : flat (a ++ b) = flat a ++ flat b := by simp [flat]
theorem flat_snoc (ps : List (List UInt8)) (p : List UInt8) : flat (ps ++ [p]) = flat ps ++ fr p := by simp [flat]

/-- bytes as sound frames and what stands behind them -/
structure Good (l : List UInt8) (ps : List (List UInt8)) (t : List UInt8) : Prop where
  eq : l = flat ps ++ t
  fits : ∀ p ∈ ps, fit p.length = true
  torn : first t = none

theorem Good.unique {l : List UInt8} {ps qs : List (List UInt8)} {t u : List UInt8} (h : Good l ps t) (g : Good l qs u) : ps = qs ∧ t = u := by
  induction ps generalizing l qs with
  | nil =>
    cases qs with
    | nil => exact ⟨rfl, by have := h.eq.symm.trans g.eq; simpa [flat] using this⟩
    | cons q qs =>
      exfalso
      have e := h.eq.symm.trans g.eq
      rw [flat_nil, List.nil_append, flat_cons, List.append_assoc] at e
      have := h.torn
      rw [e, first_fr q _ (g.fits q (by simp))] at this
      cases this
  | cons p ps ih =>
    cases qs with
    | nil =>
      exfalso
      have e := g.eq.symm.trans h.eq
      rw [flat_nil, List.nil_append, flat_cons, List.append_assoc] at e
      have := g.torn
      rw [e, first_fr p _ (h.fits p (by simp))] at this
      cases this
    | cons q qs =>
      have e := h.eq.symm.trans g.eq
      rw [flat_cons, flat_cons, List.append_assoc, List.append_assoc] at e
      have f1 := first_fr p (flat ps ++ t) (h.fits p (by simp))
      rw [e, first_fr q _ (g.fits q (by simp))] at f1
      have hpq := Option.some.inj f1
      subst hpq
      have e2 := List.append_cancel_left e
      obtain ⟨a, b⟩ := ih (l := flat ps ++ t) (qs := qs) ⟨rfl, fun x hx => h.fits x (by simp [hx]), h.torn⟩ ⟨e2, fun x hx => g.fits x (by simp [hx]), g.torn⟩
      exact ⟨by rw [a], b⟩

/-- what is found, with fuel -/
def scanN : Nat → List UInt8 → List (List UInt8)
  | 0, _ => []
  | n + 1, l => match first l with
    | none => []
    | some p => p :: scanN n (l.drop (8 + p.length))

def scan (l : List UInt8) : List (List UInt8) := scanN l.length l

theorem first_le {l p : List UInt8} (h : first l = some p) : 8 + p.length ≤ l.length := by
  have := congrArg List.length (first_some h).2
  simp [fr_len] at this; omega

theorem first_nil : first [] = none := by simp [first]

theorem scanN_good (n : Nat) : ∀ l : List UInt8, l.length ≤ n → ∃ t, Good l (scanN n l) t := by
  induction n with
  | zero =>
    intro l h
    have : l = [] := List.length_eq_zero_iff.mp (by omega)
    subst this
    exact ⟨[], rfl, by simp [scanN], first_nil⟩
  | succ n ih =>
    intro l h
    unfold scanN
    cases hf : first l with
    | none => exact ⟨l, rfl, by simp, hf⟩
    | some p =>
      obtain ⟨h1, h2⟩ := first_some hf
      have h3 := first_le hf
      obtain ⟨t, ht⟩ := ih (l.drop (8 + p.length)) (by simp; omega)
      refine ⟨t, ?_, ?_, ht.torn⟩
      · show l = flat (p :: scanN n (l.drop (8 + p.length))) ++ t
        rw [flat_cons, List.append_assoc, ← ht.eq]; exact h2
      · intro q hq
        rcases List.mem_cons.mp hq with rfl | hq
        · exact h1
        · exact ht.fits q hq

theorem scan_good (l : List UInt8) : ∃ t, Good l (scan l) t := scanN_good _ l (Nat.le_refl _)

theorem scan_eq {l : List UInt8} {ps : List (List UInt8)} {t : List UInt8} (h : Good l ps t) : scan l = ps := by
  obtain ⟨u, hu⟩ := scan_good l
  exact (hu.unique h).1

/-- how long the good head is -/
def good (l : List UInt8) : Nat := (flat (scan l)).length

theorem good_eq {l : List UInt8} {ps : List (List UInt8)} {t : List UInt8} (h : Good l ps t) : good l = (flat ps).length := by
  unfold good; rw [scan_eq h]

theorem good_le (l : List UInt8) : good l ≤ l.length := by
  obtain ⟨t, ht⟩ := scan_good l
  have := congrArg List.length ht.eq
  simp at this
  unfold good; omega

theorem good_take (l : List UInt8) : l.take (good l) = flat (scan l) := by
  obtain ⟨t, ht⟩ := scan_good l
  have e := ht.eq
  unfold good
  generalize scan l = ps at *
  rw [e, List.take_left]

theorem scan_fits (l : List UInt8) : ∀ p ∈ scan l, fit p.length = true := by
  obtain ⟨t, ht⟩ := scan_good l; exact ht.fits

/-- frames alone -/
theorem scan_flat (ps : List (List UInt8)) (h : ∀ p ∈ ps, fit p.length = true) : scan (flat ps) = ps := scan_eq ⟨by simp, h, first_nil⟩

theorem first_short (l p : List UInt8) (hp : fit p.length = true) (h : l.length < (fr p).length) (hl : l = (fr p).take l.length) : first l = none := by
  cases hf : first l with
  | none => rfl
  | some q =>
    exfalso
    have h1 := first_le hf
    obtain ⟨h2, h3⟩ := first_some hf
    have hq := (fit_iff _).mp h2
    have hv : val4 l = q.length := by
      rw [h3]; unfold fr; rw [List.append_assoc]; exact val4_hd _ _ (by omega)
    have hpp := (fit_iff _).mp hp
    have hv2 : val4 l = p.length := by
      rw [hl, val4_take _ _ (by omega)]
      have := val4_hd p p (by omega)
      exact this
    rw [fr_len] at h
    omega

end Go.Proofs.YticncaoecoehkaaDoor.Wl
