import Derived.Test.YtidccfflpcgkiaaGreatDoorRows
import Derived.Test.YtidccfflpcgkiaaGreatDoorMRdKit
import Derived.Deep.MidRow
import Derived.WalkKit
import Derived.WalkSpells
import Derived.WalkLawsBesides
import Derived.Outline
import Derived.Laws.BitsAllLaws
import Derived.Laws.IdiomStrings
import Derived.Deep.OwnRows
import Derived.Maps.AppendAt
import Derived.Below
import Derived.Test.YtidccfflpcgkiaaGreatDoorMRedEq
namespace Go.Proofs.YtidccfflpcgkiaaGreatDoor.Pct

/-- the bytes that stand as they are -/
def unres (c : UInt8) : Bool :=
  (65 ≤ c.toNat && c.toNat ≤ 90) || (97 ≤ c.toNat && c.toNat ≤ 122) || (48 ≤ c.toNat && c.toNat ≤ 57) || c.toNat == 45 || c.toNat == 46 || c.toNat == 95 || c.toNat == 126

/-- a digit with a large letter -/
def dig (n : Nat) : UInt8 := UInt8.ofNat (if n < 10 then 48 + n else 55 + n)

/-- what a digit counts; 16: none -/
def hexv (c : UInt8) : Nat :=
  if 48 ≤ c.toNat ∧ c.toNat ≤ 57 then c.toNat - 48 else if 65 ≤ c.toNat ∧ c.toNat ≤ 70 then c.toNat - 55 else if 97 ≤ c.toNat ∧ c.toNat ≤ 102 then c.toNat - 87 else 16

def esc1 (plus : Bool) (c : UInt8) : List UInt8 :=
  if unres c then [c] else if plus = true ∧ c = 32 then [43] else [37, dig (c.toNat / 16), dig (c.toNat % 16)]

def esc (plus : Bool) (l : List UInt8) : List UInt8 := l.flatMap (esc1 plus)

/-- what one byte that is no percent sign gives -/
def one (plus : Bool) (c : UInt8) : UInt8 := if plus = true ∧ c = 43 then 32 else c

def unesc (plus : Bool) : List UInt8 → Option (List UInt8)
  | [] => some []
  | c :: r =>
    if c = 37 then
      match r with
      | h :: l :: t => if hexv h < 16 ∧ hexv l < 16 then (unesc plus t).map (UInt8.ofNat (16 * hexv h + hexv l) :: ·) else none
      | _ => none
    else if c.toNat < 33 ∨ 126 < c.toNat then none else (unesc plus r).map (one plus c :: ·)

theorem unesc_nil (plus : Bool) : unesc plus [] = some [] := by rw [unesc.eq_def]

theorem unesc_pct (plus : Bool) (h l : UInt8) (t : List UInt8) (hh : hexv h < 16) (hl : hexv l < 16) :
    unesc plus (37 :: h :: l :: t) = (unesc plus t).map (UInt8.ofNat (16 * hexv h + hexv l) :: ·) := by
  rw [unesc.eq_def]; simp only; rw [if_pos trivial, if_pos ⟨hh, hl⟩]

theorem unesc_bad (plus : Bool) (h l : UInt8) (t : List UInt8) (hh : ¬ (hexv h < 16 ∧ hexv l < 16)) : unesc plus (37 :: h :: l :: t) = none := by
  rw [unesc.eq_def]; simp only; rw [if_pos trivial, if_neg hh]

theorem unesc_short (plus : Bool) (r : List UInt8) (hr : r.length < 2) : unesc plus (37 :: r) = none := by
  match r, hr with
  | [], _ => rw [unesc.eq_def]; simp only; rw [if_pos trivial]
  | [_], _ => rw [unesc.eq_def]; simp only; rw [if_pos trivial]

theorem unesc_out (plus : Bool) (c : UInt8) (r : List UInt8) (h : c.toNat < 33 ∨ 126 < c.toNat) : unesc plus (c :: r) = none := by
  have hc : c ≠ 37 := by rintro rfl; revert h; decide
  rw [unesc.eq_def]; simp only; rw [if_neg hc, if_pos h]

theorem unesc_one (plus : Bool) (c : UInt8) (r : List UInt8) (hc : c ≠ 37) (h : ¬ (c.toNat < 33 ∨ 126 < c.toNat)) : unesc plus (c :: r) = (unesc plus r).map (one plus c :: ·) := by
  rw [unesc.eq_def]; simp only; rw [if_neg hc, if_neg h]

/-- AN INVARIANT: what is read up to place k, the rest being left -/
def Read (plus : Bool) (l : List UInt8) (k : Nat) (R : List UInt8) : Prop := k ≤ l.length ∧ unesc plus l = (unesc plus (l.drop k)).map (R ++ ·)

theorem read_zero (plus : Bool) (l : List UInt8) : Read plus l 0 [] := ⟨Nat.zero_le _, by simp⟩

theorem map_snoc {R : List UInt8} {b : UInt8} (o : Option (List UInt8)) : (o.map (b :: ·)).map (R ++ ·) = o.map ((R ++ [b]) ++ ·) := by
  cases o <;> simp

theorem drop_at {l : List UInt8} {k : Nat} (h : k < l.length) : l.drop k = l.getD k 0 :: l.drop (k + 1) := by
  rw [List.drop_eq_getElem_cons h]; simp [List.getD, h]

theorem read_one {plus : Bool} {l : List UInt8} {k : Nat} {R : List UInt8} (h : Read plus l k R) (hk : k < l.length) (hc : l.getD k 0 ≠ 37) (hp : ¬ ((l.getD k 0).toNat < 33 ∨ 126 < (l.getD k 0).toNat)) :
    Read plus l (k + 1) (R ++ [one plus (l.getD k 0)]) := by
  refine ⟨hk, ?_⟩
  rw [h.2, drop_at hk, unesc_one plus _ _ hc hp, map_snoc]

theorem read_pct {plus : Bool} {l : List UInt8} {k : Nat} {R : List UInt8} (h : Read plus l k R) (hk : k + 2 < l.length) (hc : l.getD k 0 = 37) (h1 : hexv (l.getD (k + 1) 0) < 16) (h2 : hexv (l.getD (k + 2) 0) < 16) :
    Read plus l (k + 3) (R ++ [UInt8.ofNat (16 * hexv (l.getD (k + 1) 0) + hexv (l.getD (k + 2) 0))]) := by
  refine ⟨hk, ?_⟩
  rw [h.2, drop_at (by omega), drop_at (show k + 1 < l.length by omega), drop_at (show k + 1 + 1 < l.length by omega), hc, unesc_pct plus _ _ _ h1 h2, map_snoc]

theorem read_bad {plus : Bool} {l : List UInt8} {k : Nat} {R : List UInt8} (h : Read plus l k R) (hk : k + 2 < l.length) (hc : l.getD k 0 = 37) (h1 : ¬ (hexv (l.getD (k + 1) 0) < 16 ∧ hexv (l.getD (k + 2) 0) < 16)) : unesc plus l = none := by
  rw [h.2, drop_at (by omega), drop_at (show k + 1 < l.length by omega), drop_at (show k + 1 + 1 < l.length by omega), hc, unesc_bad plus _ _ _ h1]; rfl

theorem read_short {plus : Bool} {l : List UInt8} {k : Nat} {R : List UInt8} (h : Read plus l k R) (hk : k < l.length) (hc : l.getD k 0 = 37) (h1 : l.length ≤ k + 2) : unesc plus l = none := by
  rw [h.2, drop_at hk, hc, unesc_short plus _ (by rw [List.length_drop]; omega)]; rfl

theorem read_out {plus : Bool} {l : List UInt8} {k : Nat} {R : List UInt8} (h : Read plus l k R) (hk : k < l.length) (hp : (l.getD k 0).toNat < 33 ∨ 126 < (l.getD k 0).toNat) : unesc plus l = none := by
  rw [h.2, drop_at hk, unesc_out plus _ _ hp]; rfl

theorem read_end {plus : Bool} {l : List UInt8} {R : List UInt8} (h : Read plus l l.length R) : unesc plus l = some R := by
  rw [h.2, List.drop_length, unesc_nil]; simp

theorem read_len {plus : Bool} {l : List UInt8} {R : List UInt8} (h : unesc plus l = some R) : R.length ≤ l.length := by
  induction hn : l.length using Nat.strongRecOn generalizing l R with
  | _ n ih =>
    subst hn
    match l with
    | [] => rw [unesc_nil] at h; cases h; exact Nat.le_refl _
    | c :: r =>
      by_cases hc : c = 37
      · subst hc
        match r with
        | [] => rw [unesc_short _ _ (by simp)] at h; cases h
        | [_] => rw [unesc_short _ _ (by simp)] at h; cases h
        | a :: b :: t =>
          by_cases hh : hexv a < 16 ∧ hexv b < 16
          · rw [unesc_pct _ _ _ _ hh.1 hh.2] at h
            obtain ⟨R', h', rfl⟩ := Option.map_eq_some_iff.1 h
            have := ih _ (by simp; omega) h' rfl
            simp; omega
          · rw [unesc_bad _ _ _ _ hh] at h; cases h
      · by_cases hp : c.toNat < 33 ∨ 126 < c.toNat
        · rw [unesc_out _ _ _ hp] at h; cases h
        · rw [unesc_one _ _ _ hc hp] at h
          obtain ⟨R', h', rfl⟩ := Option.map_eq_some_iff.1 h
          have := ih _ (by simp) h' rfl
          simp; omega

theorem u8 (P : UInt8 → Prop) [DecidablePred P] (h : ∀ n : Fin 256, P (UInt8.ofNat n.val)) (c : UInt8) : P c := by
  have := h ⟨c.toNat, c.toNat_lt⟩
  simpa using this

set_option maxRecDepth 100000 in
theorem back_one (plus : Bool) (c : UInt8) (r : List UInt8) : unesc plus (esc1 plus c ++ r) = (unesc plus r).map (c :: ·) := by
  by_cases hu : unres c = true
  · have hf : ∀ c : UInt8, unres c = true → c ≠ 37 ∧ ¬ (c.toNat < 33 ∨ 126 < c.toNat) ∧ c ≠ 43 := u8 _ (by decide)
    obtain ⟨h1, h2, h3⟩ := hf c hu
    have e : esc1 plus c = [c] := by unfold esc1; rw [if_pos hu]
    rw [e, List.singleton_append, unesc_one plus _ _ h1 h2]
    have : one plus c = c := by unfold one; rw [if_neg (fun h => h3 h.2)]
    rw [this]
  · by_cases hp : plus = true ∧ c = 32
    · have e : esc1 plus c = [43] := by unfold esc1; rw [if_neg hu, if_pos hp]
      obtain ⟨rfl, rfl⟩ := hp
      rw [e, List.singleton_append, unesc_one true _ _ (by decide) (by decide)]
      rfl
    · have e : esc1 plus c = [37, dig (c.toNat / 16), dig (c.toNat % 16)] := by unfold esc1; rw [if_neg hu, if_neg hp]
      have hf : ∀ c : UInt8, hexv (dig (c.toNat / 16)) = c.toNat / 16 ∧ hexv (dig (c.toNat % 16)) = c.toNat % 16 := u8 _ (by decide)
      obtain ⟨h1, h2⟩ := hf c
      have hc := c.toNat_lt
      rw [e]
      show unesc plus (37 :: _ :: _ :: r) = _
      rw [unesc_pct plus _ _ _ (by omega) (by omega), h1, h2, Nat.div_add_mod]
      simp

/-- P3.3: what was escaped is read back -/
theorem back (plus : Bool) (l : List UInt8) : unesc plus (esc plus l) = some l := by
  induction l with
  | nil => exact unesc_nil plus
  | cons c r ih => show unesc plus (esc1 plus c ++ esc plus r) = _; rw [back_one, ih]; rfl

theorem esc_snoc (plus : Bool) (l : List UInt8) (c : UInt8) : esc plus (l ++ [c]) = esc plus l ++ esc1 plus c := by simp [esc]
theorem esc_app (plus : Bool) (l m : List UInt8) : esc plus (l ++ m) = esc plus l ++ esc plus m := by simp [esc]
theorem esc1_len (plus : Bool) (c : UInt8) : 1 ≤ (esc1 plus c).length ∧ (esc1 plus c).length ≤ 3 := by
  unfold esc1; split
  · simp
  · split <;> simp
theorem esc_len (plus : Bool) (l : List UInt8) : l.length ≤ (esc plus l).length ∧ (esc plus l).length ≤ 3 * l.length := by
  induction l with
  | nil => exact ⟨Nat.le_refl _, Nat.le_refl _⟩
  | cons c r ih =>
    have := esc1_len plus c
    have e : esc plus (c :: r) = esc1 plus c ++ esc plus r := rfl
    rw [e, List.length_append, List.length_cons]; omega

/-- a place that cannot be read -/
def badAt (l : List UInt8) (i : Nat) : Bool :=
  ((l.getD i 0).toNat < 33 || 126 < (l.getD i 0).toNat) || ((l.getD i 0) == 37 && (l.length ≤ i + 2 || 15 < hexv (l.getD (i + 1) 0) || 15 < hexv (l.getD (i + 2) 0)))

set_option maxRecDepth 100000 in
theorem hexv_in : ∀ c : UInt8, hexv c < 16 → c ≠ 37 ∧ ¬ (c.toNat < 33 ∨ 126 < c.toNat) := u8 _ (by decide)
set_option maxRecDepth 100000 in
theorem hexv_le : ∀ c : UInt8, hexv c ≤ 16 := u8 _ (by decide)

theorem badAt_succ (c : UInt8) (r : List UInt8) (i : Nat) : badAt (c :: r) (i + 1) = badAt r i := by
  unfold badAt
  have e : i + 1 + 1 = i + 2 := rfl
  have e1 : ∀ j, (c :: r).getD (j + 1) 0 = r.getD j 0 := fun j => by simp [List.getD]
  have e2 : i + 1 + 2 = (i + 2) + 1 := rfl
  have e3 : decide ((c :: r).length ≤ i + 1 + 2) = decide (r.length ≤ i + 2) := by rw [List.length_cons]; congr 1; exact propext ⟨fun h => by omega, fun h => by omega⟩
  rw [e1, e1, e3, e2, e1]

theorem badAt_plain (l : List UInt8) (i : Nat) (h1 : l.getD i 0 ≠ 37) (h2 : ¬ ((l.getD i 0).toNat < 33 ∨ 126 < (l.getD i 0).toNat)) : badAt l i = false := by
  unfold badAt
  generalize l.getD i 0 = c at *
  have a1 : ¬ c.toNat < 33 := fun h => h2 (Or.inl h)
  have a2 : ¬ 126 < c.toNat := fun h => h2 (Or.inr h)
  simp [h1, a1, a2]

/-- P3.2: what is refused, and how long the rest is -/
theorem refuses (plus : Bool) (l : List UInt8) : ((∃ i, i < l.length ∧ badAt l i = true) ∧ unesc plus l = none) ∨ ((∀ i, i < l.length → badAt l i = false) ∧ ∃ t, unesc plus l = some t ∧ t.length + 2 * l.count 37 = l.length) := by
  induction hn : l.length using Nat.strongRecOn generalizing l with
  | _ n ih =>
    subst hn
    match l with
    | [] => exact Or.inr ⟨fun i hi => absurd hi (Nat.not_lt_zero _), [], unesc_nil plus, rfl⟩
    | c :: r =>
      by_cases hc : c = 37
      · subst hc
        match r with
        | [] => exact Or.inl ⟨⟨0, by simp, by simp [badAt]⟩, unesc_short _ _ (by simp)⟩
        | [_] => exact Or.inl ⟨⟨0, by simp, by simp [badAt]⟩, unesc_short _ _ (by simp)⟩
        | a :: b :: t =>
          by_cases hh : hexv a < 16 ∧ hexv b < 16
          · have pa := hexv_in a hh.1
            have pb := hexv_in b hh.2
            have e1 : badAt (37 :: a :: b :: t) 1 = false := badAt_plain _ _ pa.1 pa.2
            have e2 : badAt (37 :: a :: b :: t) 2 = false := badAt_plain _ _ pb.1 pb.2
            have e0 : badAt (37 :: a :: b :: t) 0 = false := by
              unfold badAt
              simp [List.getD]
              omega
            rcases ih t.length (by simp; omega) t rfl with ⟨⟨i, hi, hb⟩, hu⟩ | ⟨hb, x, hu, hl⟩
            · refine Or.inl ⟨⟨i + 3, by simp; omega, ?_⟩, ?_⟩
              · rw [badAt_succ, badAt_succ, badAt_succ]; exact hb
              · rw [unesc_pct _ _ _ _ hh.1 hh.2, hu]; rfl
            · refine Or.inr ⟨?_, _ :: x, by rw [unesc_pct _ _ _ _ hh.1 hh.2, hu]; rfl, ?_⟩
              · intro i hi
                match i with
                | 0 => exact e0
                | 1 => exact e1
                | 2 => exact e2
                | i + 3 => rw [badAt_succ, badAt_succ, badAt_succ]; exact hb i (by simp at hi; omega)
              · rw [List.count_cons_self, List.count_cons_of_ne pa.1, List.count_cons_of_ne pb.1]
                simp; omega
          · refine Or.inl ⟨⟨0, by simp, ?_⟩, unesc_bad _ _ _ _ hh⟩
            unfold badAt
            simp [List.getD]
            omega
      · by_cases hp : c.toNat < 33 ∨ 126 < c.toNat
        · refine Or.inl ⟨⟨0, by simp, ?_⟩, unesc_out _ _ _ hp⟩
          unfold badAt
          simp [List.getD]
          exact Or.inl hp
        · rcases ih r.length (by simp) r rfl with ⟨⟨i, hi, hb⟩, hu⟩ | ⟨hb, x, hu, hl⟩
          · refine Or.inl ⟨⟨i + 1, by simp; omega, by rw [badAt_succ]; exact hb⟩, by rw [unesc_one _ _ _ hc hp, hu]; rfl⟩
          · refine Or.inr ⟨?_, _ :: x, by rw [unesc_one _ _ _ hc hp, hu]; rfl, ?_⟩
            · intro i hi
              match i with
              | 0 => exact badAt_plain _ _ hc hp
              | i + 1 => rw [badAt_succ]; exact hb i (by simp at hi; omega)
            · rw [List.count_cons_of_ne hc]; simp; omega

/-- a letter of a digit in the other case -/
def swap (c : UInt8) : UInt8 := if 97 ≤ c.toNat ∧ c.toNat ≤ 102 then UInt8.ofNat (c.toNat - 32) else if 65 ≤ c.toNat ∧ c.toNat ≤ 70 then UInt8.ofNat (c.toNat + 32) else c
def swapAt (near : Int) (c : UInt8) : UInt8 := if 0 < near then swap c else c
def nearAt (near : Int) (c : UInt8) : Int := if swapAt near c = 37 then 2 else near - 1
def turned : Int → List UInt8 → List UInt8
  | _, [] => []
  | n, c :: r => swapAt n c :: turned (nearAt n c) r

set_option maxRecDepth 100000 in
theorem hexv_swap : ∀ c : UInt8, hexv (swap c) = hexv c := u8 _ (by decide)
set_option maxRecDepth 100000 in
theorem swap_pct : ∀ c : UInt8, swap c = 37 ↔ c = 37 := u8 _ (by decide)
theorem turned_len (n : Int) (l : List UInt8) : (turned n l).length = l.length := by
  induction l generalizing n with
  | nil => rfl
  | cons c r ih => show (turned _ r).length + 1 = _; rw [ih]; rfl

/-- P3.2: the case of the digits says nothing -/
theorem unesc_turned (plus : Bool) (l : List UInt8) (n : Int) (hn0 : n ≤ 0) : unesc plus (turned n l) = unesc plus l := by
  induction hn : l.length using Nat.strongRecOn generalizing l n with
  | _ m ih =>
    subst hn
    match l with
    | [] => rfl
    | c :: r =>
      have es : swapAt n c = c := by unfold swapAt; rw [if_neg (by omega)]
      show unesc plus (swapAt n c :: turned (nearAt n c) r) = _
      by_cases hc : c = 37
      · have en : nearAt n c = 2 := by unfold nearAt; rw [es, if_pos hc]
        rw [es, en]
        subst hc
        match r with
        | [] => rfl
        | [_] => rw [unesc_short plus (turned 2 [_]) (by rw [turned_len]; simp), unesc_short plus [_] (by simp)]
        | a :: b :: t =>
          show unesc plus (37 :: swapAt 2 a :: swapAt (nearAt 2 a) b :: turned (nearAt (nearAt 2 a) b) t) = _
          have ea : swapAt 2 a = swap a := rfl
          by_cases ha : a = 37
          · subst ha
            have h37 : ¬ hexv 37 < 16 := by decide
            rw [unesc_bad plus _ _ _ (fun h => h37 h.1), unesc_bad plus _ _ _ (fun h => h37 (by have := h.1; rw [ea, hexv_swap] at this; exact this))]
          · have na : nearAt 2 a = 1 := by unfold nearAt; rw [ea, if_neg (fun h => ha ((swap_pct a).1 h))]; rfl
            have eb : swapAt 1 b = swap b := rfl
            rw [na, ea, eb]
            by_cases hh : hexv a < 16 ∧ hexv b < 16
            · have pb := hexv_in b hh.2
              have nb : nearAt 1 b = 0 := by unfold nearAt; rw [eb, if_neg (fun h => pb.1 ((swap_pct b).1 h))]; rfl
              rw [unesc_pct plus _ _ _ (by rw [hexv_swap]; exact hh.1) (by rw [hexv_swap]; exact hh.2), unesc_pct plus _ _ _ hh.1 hh.2, hexv_swap, hexv_swap, nb, ih t.length (by simp; omega) t 0 (by omega) rfl]
            · rw [unesc_bad plus _ _ _ hh, unesc_bad plus _ _ _ (by rw [hexv_swap, hexv_swap]; exact hh)]
      · have en : nearAt n c = n - 1 := by unfold nearAt; rw [es, if_neg hc]
        rw [es, en]
        by_cases hp : c.toNat < 33 ∨ 126 < c.toNat
        · rw [unesc_out _ _ _ hp, unesc_out _ _ _ hp]
        · rw [unesc_one _ _ _ hc hp, unesc_one _ _ _ hc hp, ih r.length (by simp) r (n - 1) (by omega) rfl]

end Go.Proofs.YtidccfflpcgkiaaGreatDoor.Pct

namespace Go.Proofs.YtidccfflpcgkiaaGreatDoor.pctw
open Go.ChangeShapes Go.WideShapes Go.ChangeAt Go.RowKit Go.Proofs.YtidccfflpcgkiaaGreatDoor.common

abbrev B (c : UInt8) : Value := .int .u8 (c.toNat : Int)
abbrev S (l : List UInt8) : Value := .string ⟨l.toArray⟩

theorem info8 : (Tryz.prog.info? 5).map (fun i => (i.zero, i.size, i.bytes)) = some (some (.int .u8 0), 1, 1) := by kernel_rfl

theorem own_ge {w : World} {base : Nat} {e : TypeId} {size : Nat} {v : Value} {n : Nat} {xs : List Value} (h : w.ownsRow base e size v n xs) : ∀ b, v.ownBlock = some b → base ≤ b := by
  intro b hb
  exact (h.lt b hb).1

theorem conv_own {w : World} {base : Nat} {e : TypeId} {v : Value} {l : List UInt8} {n : Nat} (h : w.ownsRow base e 1 v n (l.map B)) (hn : l.length = n) :
    (convert 29 9 v).run Tryz.prog w = .ok (S l) w := by
  subst hn
  rcases h.2 with ⟨rfl, h0⟩ | ⟨g, cap, cur, rfl, hg, hh, hn, _, hsz, htk⟩
  · rw [run_convert_bytes_nil (P := Tryz.prog) w 29 5 Tryz.underlying29 Tryz.underlying5 0 0 9 Tryz.underlying9]
    obtain rfl : l = [] := List.eq_nil_of_length_eq_zero h0
    rfl
  · refine run_convert_bytes_back (P := Tryz.prog) w 29 9 5 ⟨g, 0, none⟩ cap l Tryz.underlying29 Tryz.underlying5 Tryz.underlying9 ?_
    intro j hj
    rw [Addr.add_mid, Nat.zero_add]
    have : (cur.toList.take (l.length * 1))[j]? = (l.map B)[j]? := by rw [htk]
    rw [List.getElem?_take_of_lt (by omega)] at this
    simp only [World.cell?, hh]
    simp [hj] at this
    simpa using this

theorem toNat_of {n : Nat} (h : n < 256) : (UInt8.ofNat n).toNat = n := by simp [Nat.mod_eq_of_lt h]
theorem getD_list (s : ByteArray) (k : Nat) (h : k < s.size) : s.data.toList.getD k 0 = s[k] := by
  rw [List.getD_eq_getElem?_getD, List.getElem?_eq_getElem (by simpa using h)]; rfl
theorem len_list (s : ByteArray) : s.data.toList.length = s.size := by simp

theorem ba_ext {a b : ByteArray} (h : a.data.toList = b.data.toList) : a = b := by
  apply ByteArray.ext; apply Array.toList_inj.1; exact h
theorem ne_list {a b : ByteArray} (h : a ≠ b) : (a.toList == b.toList) = false := by
  rw [ByteArray.toList_eq, ByteArray.toList_eq]
  exact beq_false_of_ne fun e => h (ba_ext e)
theorem eq_list {a b : ByteArray} (h : a = b) : (a.toList == b.toList) = true := by subst h; simp
theorem str_eq (l : List UInt8) (s : ByteArray) (h : l = s.data.toList) : (⟨l.toArray⟩ : ByteArray) = s := by
  subst h; rfl
theorem str_size (l : List UInt8) : (⟨l.toArray⟩ : ByteArray).size = l.length := by
  show l.toArray.size = _; simp
theorem str_list (l : List UInt8) : (⟨l.toArray⟩ : ByteArray).data.toList = l := rfl

theorem cells_new (w : World) (l : List Value) (t : TypeId) : ∀ j u, l[j]? = some u → (w.alloc (.cells l.toArray t)).cell? ((⟨w.heap.size, 0, none⟩ : Addr).add j) = some u := by
  intro j u h
  rw [Addr.add_mid]
  exact range_new w l.toArray t j u h

end Go.Proofs.YtidccfflpcgkiaaGreatDoor.pctw

namespace Go.Proofs.YtidccfflpcgkiaaGreatDoor.pctw
open Go.ChangeShapes Go.WideShapes Go.ChangeAt Go.RowKit Go.Proofs.YtidccfflpcgkiaaGreatDoor.common
attribute [local go_sem ↓] Go.wp_at_zero Go.wp_at_succ

end Go.Proofs.YtidccfflpcgkiaaGreatDoor.pctw

namespace Go.Proofs.YtidccfflpcgkiaaGreatDoor.pctw
open Go.ChangeShapes Go.WideShapes Go.ChangeAt Go.RowKit Go.Proofs.YtidccfflpcgkiaaGreatDoor.common
attribute [local go_sem ↓] Go.wp_at_zero Go.wp_at_succ

theorem hexv_cases (c : UInt8) : (48 ≤ c.toNat ∧ c.toNat ≤ 57 ∧ Pct.hexv c = c.toNat - 48) ∨ (65 ≤ c.toNat ∧ c.toNat ≤ 70 ∧ Pct.hexv c = c.toNat - 55) ∨ (97 ≤ c.toNat ∧ c.toNat ≤ 102 ∧ Pct.hexv c = c.toNat - 87) ∨
    (Pct.hexv c = 16 ∧ ¬ (48 ≤ c.toNat ∧ c.toNat ≤ 57) ∧ ¬ (65 ≤ c.toNat ∧ c.toNat ≤ 70) ∧ ¬ (97 ≤ c.toNat ∧ c.toNat ≤ 102)) := by
  unfold Pct.hexv
  split
  · omega
  · split
    · omega
    · split <;> omega

end Go.Proofs.YtidccfflpcgkiaaGreatDoor.pctw

namespace Go.Proofs.YtidccfflpcgkiaaGreatDoor.pctw
open Go.ChangeShapes Go.WideShapes Go.ChangeAt Go.RowKit Go.Proofs.YtidccfflpcgkiaaGreatDoor.common
attribute [local go_sem ↓] Go.wp_at_zero Go.wp_at_succ

end Go.Proofs.YtidccfflpcgkiaaGreatDoor.pctw

namespace Go.Proofs.YtidccfflpcgkiaaGreatDoor.tm
open Go.ChangeShapes Go.WideShapes Go.ChangeAt Go.RowKit Go.Proofs.YtidccfflpcgkiaaGreatDoor.common Go.Proofs.YtidccfflpcgkiaaGreatDoor.bk
attribute [local go_sem ↓] Go.wp_at_zero Go.wp_at_succ

def mrkB (b : UInt8) : Bool := [33, 36, 38, 39, 40, 41, 42, 43, 44, 59, 61].contains b
theorem byte_eq (p q : UInt8 → Bool) (h : (List.range 256).all (fun n => p (UInt8.ofNat n) == q (UInt8.ofNat n)) = true) (b : UInt8) : p b = q b := by
  have := List.all_eq_true.1 h b.toNat (List.mem_range.2 b.toNat_lt)
  rw [UInt8.ofNat_toNat] at this
  exact beq_iff_eq.1 this
theorem mrk_cases (c : UInt8) : (mrkB c = true ∧ (c.toNat = 33 ∨ c.toNat = 36 ∨ c.toNat = 38 ∨ c.toNat = 39 ∨ c.toNat = 40 ∨ c.toNat = 41 ∨ c.toNat = 42 ∨ c.toNat = 43 ∨ c.toNat = 44 ∨ c.toNat = 59 ∨ c.toNat = 61)) ∨ (mrkB c = false ∧ c.toNat ≠ 33 ∧ c.toNat ≠ 36 ∧ c.toNat ≠ 38 ∧ c.toNat ≠ 39 ∧ c.toNat ≠ 40 ∧ c.toNat ≠ 41 ∧ c.toNat ≠ 42 ∧ c.toNat ≠ 43 ∧ c.toNat ≠ 44 ∧ c.toNat ≠ 59 ∧ c.toNat ≠ 61) := by
  have h : mrkB c = decide (c.toNat = 33 ∨ c.toNat = 36 ∨ c.toNat = 38 ∨ c.toNat = 39 ∨ c.toNat = 40 ∨ c.toNat = 41 ∨ c.toNat = 42 ∨ c.toNat = 43 ∨ c.toNat = 44 ∨ c.toNat = 59 ∨ c.toNat = 61) := byte_eq mrkB (fun c => decide (c.toNat = 33 ∨ c.toNat = 36 ∨ c.toNat = 38 ∨ c.toNat = 39 ∨ c.toNat = 40 ∨ c.toNat = 41 ∨ c.toNat = 42 ∨ c.toNat = 43 ∨ c.toNat = 44 ∨ c.toNat = 59 ∨ c.toNat = 61)) (by decide +kernel) c
  by_cases hd : c.toNat = 33 ∨ c.toNat = 36 ∨ c.toNat = 38 ∨ c.toNat = 39 ∨ c.toNat = 40 ∨ c.toNat = 41 ∨ c.toNat = 42 ∨ c.toNat = 43 ∨ c.toNat = 44 ∨ c.toNat = 59 ∨ c.toNat = 61
  · exact Or.inl ⟨by rw [h, decide_eq_true hd], hd⟩
  · refine Or.inr ⟨by rw [h, decide_eq_false hd], ?_⟩
    omega

theorem hexB_val (c : UInt8) : hexB c = decide (Pct.hexv c < 16) := byte_eq hexB (fun c => decide (Pct.hexv c < 16)) (by decide +kernel) c
/-- what a digit stands for, as a whole number -/
def hvI (c : UInt8) : Int := if Pct.hexv c < 16 then (Pct.hexv c : Int) else -1
theorem hv_cases (c : UInt8) : (hexB c = true ∧ ¬ hvI c < 0) ∨ (hexB c = false ∧ hvI c < 0) := by
  rw [hexB_val]
  unfold hvI
  by_cases h : Pct.hexv c < 16
  · rw [if_pos h]
    exact Or.inl ⟨decide_eq_true h, by omega⟩
  · rw [if_neg h]
    exact Or.inr ⟨decide_eq_false h, by decide⟩
theorem ok_val (c : UInt8) : okB [47] c = (Pct.unres c || (mrkB c || (decide (c.toNat = 58) || (decide (c.toNat = 64) || decide (c.toNat = 47))))) := byte_eq (okB [47]) (fun c => Pct.unres c || (mrkB c || (decide (c.toNat = 58) || (decide (c.toNat = 64) || decide (c.toNat = 47))))) (by decide +kernel) c
theorem ok_val2 (c : UInt8) : okB [47, 63] c = (Pct.unres c || (mrkB c || (decide (c.toNat = 58) || (decide (c.toNat = 64) || (decide (c.toNat = 47) || decide (c.toNat = 63)))))) := byte_eq (okB [47, 63]) (fun c => Pct.unres c || (mrkB c || (decide (c.toNat = 58) || (decide (c.toNat = 64) || (decide (c.toNat = 47) || decide (c.toNat = 63)))))) (by decide +kernel) c
def moreB (ask : Bool) : List UInt8 := if ask then [47, 63] else [47]
theorem ok_is (ask : Bool) (c : UInt8) : okB (moreB ask) c = (Pct.unres c || (mrkB c || (decide (c.toNat = 58) || (decide (c.toNat = 64) || (decide (c.toNat = 47) || (ask && decide (c.toNat = 63))))))) := by
  cases ask with
  | false =>
    rw [show moreB false = [47] from rfl, ok_val, Bool.false_and, Bool.or_false]
  | true =>
    rw [show moreB true = [47, 63] from rfl, ok_val2, Bool.true_and]
theorem pct_no (ask : Bool) : okB (moreB ask) 37 = false := by cases ask <;> decide
theorem hasD_at (s : ByteArray) (k : Nat) (h : k + 2 < s.size) : hasD (s.data.toList.drop k) = (hexB (s[k + 1]'(by omega)) && hexB (s[k + 2]'h)) := by
  unfold hasD
  rw [decide_eq_true (by rw [List.length_drop, len_list]; omega), Bool.true_and, List.drop_drop, drop_at2 s (k + 1) (by omega), drop_at2 s (k + 2) h]
  simp
theorem hasD_no (s : ByteArray) (k : Nat) (h : ¬ k + 2 < s.size) : hasD (s.data.toList.drop k) = false := by
  unfold hasD
  rw [decide_eq_false (by rw [List.length_drop, len_list]; omega), Bool.false_and]

end Go.Proofs.YtidccfflpcgkiaaGreatDoor.tm

namespace Go.Proofs.YtidccfflpcgkiaaGreatDoor.tm
open Go.ChangeShapes Go.WideShapes Go.ChangeAt Go.RowKit Go.Proofs.YtidccfflpcgkiaaGreatDoor.common Go.Proofs.YtidccfflpcgkiaaGreatDoor.bk
attribute [local go_sem ↓] Go.wp_at_zero Go.wp_at_succ

def ldB (b : UInt8) : Bool := letB b || Tm.btw 48 57 b
theorem ld_nat (c : UInt8) : ldB c = decide (65 ≤ c.toNat ∧ c.toNat ≤ 90 ∨ 97 ≤ c.toNat ∧ c.toNat ≤ 122 ∨ 48 ≤ c.toNat ∧ c.toNat ≤ 57) := byte_eq ldB (fun c => decide (65 ≤ c.toNat ∧ c.toNat ≤ 90 ∨ 97 ≤ c.toNat ∧ c.toNat ≤ 122 ∨ 48 ≤ c.toNat ∧ c.toNat ≤ 57)) (by decide +kernel) c
theorem lab_ld (c : UInt8) : labB c = (ldB c || decide (c.toNat = 45)) := rfl

end Go.Proofs.YtidccfflpcgkiaaGreatDoor.tm

namespace Go.Proofs.YtidccfflpcgkiaaGreatDoor.tm
open Go.ChangeShapes Go.WideShapes Go.ChangeAt Go.RowKit Go.Proofs.YtidccfflpcgkiaaGreatDoor.common Go.Proofs.YtidccfflpcgkiaaGreatDoor.bk
attribute [local go_sem ↓] Go.wp_at_zero Go.wp_at_succ

theorem host_one {l : List UInt8} (h : ∀ x ∈ l, x ≠ 46) : hostN ⟨l.toArray⟩ = isLab ⟨l.toArray⟩ := by
  unfold hostN tsq.parts
  rw [show (⟨l.toArray⟩ : ByteArray).data.toList = l by simp, Tm.split_one 46 l h]
  simp
theorem host_more {l r : List UInt8} (h : ∀ x ∈ l, x ≠ 46) : hostN ⟨(l ++ 46 :: r).toArray⟩ = (isLab ⟨l.toArray⟩ && hostN ⟨r.toArray⟩) := by
  unfold hostN tsq.parts
  rw [show (⟨(l ++ 46 :: r).toArray⟩ : ByteArray).data.toList = l ++ 46 :: r by simp, Tm.split_at 46 l r h, show (⟨r.toArray⟩ : ByteArray).data.toList = r by simp]
  simp
theorem num_val (c : UInt8) : numB c = (decide (Pct.hexv c < 16) || decide (c.toNat = 58) || decide (c.toNat = 46)) := by
  unfold numB
  rw [hexB_val]
theorem drop_split (s : ByteArray) (f k : Nat) (hf : f ≤ k) (hk : k < s.size) : s.data.toList.drop f = (s.extract f k).data.toList ++ s[k] :: s.data.toList.drop (k + 1) := by
  rw [ext_list, ← drop_at2 s k hk]
  have := List.take_append_drop (k - f) (s.data.toList.drop f)
  rw [List.drop_drop, show f + (k - f) = k by omega] at this
  exact this.symm
theorem ext_snoc (s : ByteArray) (f k : Nat) (hf : f ≤ k) (hk : k < s.size) : (s.extract f (k + 1)).data.toList = (s.extract f k).data.toList ++ [s[k]] := by
  rw [ext_list, ext_list, show k + 1 - f = (k - f) + 1 by omega, List.take_succ_eq_append_getElem (by rw [List.length_drop, len_list]; omega)]
  congr 2
  rw [List.getElem_drop]
  simp only [show f + (k - f) = k by omega]
  rfl
theorem str_back (s : ByteArray) : (⟨s.data.toList.toArray⟩ : ByteArray) = s := str_of s

/-- how the labels go on from a place -/
def labsF (s : ByteArray) (f : Nat) : Bool := if f ≤ s.size then hostN ⟨(s.data.toList.drop f).toArray⟩ else true

end Go.Proofs.YtidccfflpcgkiaaGreatDoor.tm
