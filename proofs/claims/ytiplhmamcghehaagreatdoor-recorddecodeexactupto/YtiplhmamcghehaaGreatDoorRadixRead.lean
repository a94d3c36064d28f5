import Derived.Test.YtiplhmamcghehaaGreatDoorRadixMath
import Derived.Test.YtiplhmamcghehaaGreatDoorRows
import Derived.Test.YtiplhmamcghehaaGreatDoorStrBase
import Derived.WalkKit
import Derived.WalkSpells
import Derived.WalkLawsBesides
import Derived.Outline
import Derived.Laws.BitsAllLaws
import Derived.Laws.IdiomStrings
import Derived.Deep.OwnRows
import Derived.Lib.LaidTab
import Derived.Deep.QuietTactic
import Derived.Deep.MidRow
import Derived.Deep.DrawnRows
namespace Go.Proofs.YtiplhmamcghehaaGreatDoor.Rad

theorem getD_map (n : Nat) (f : Nat → UInt8) (i : Nat) : ((List.range n).map f).getD i 0 = if i < n then f i else 0 := by
  rw [List.getD_eq_getElem?_getD, List.getElem?_map]
  by_cases h : i < n
  · rw [List.getElem?_range h, if_pos h]; rfl
  · rw [List.getElem?_eq_none (by simpa using h), if_neg h]; rfl

theorem list_eq {a b : List UInt8} (hl : a.length = b.length) (h : ∀ i, i < a.length → a.getD i 0 = b.getD i 0) : a = b := by
  apply List.ext_getElem hl
  intro i h1 h2
  have := h i h1
  rw [List.getD_eq_getElem?_getD, List.getD_eq_getElem?_getD, List.getElem?_eq_getElem h1, List.getElem?_eq_getElem h2] at this
  simpa using this

theorem getD_out {l : List UInt8} {i : Nat} (h : l.length ≤ i) : l.getD i 0 = 0 := by
  rw [List.getD_eq_getElem?_getD, List.getElem?_eq_none h]; rfl

/-- one more than the place of a letter in a table, of its first k; 0: it is none -/
def rd (T : List UInt8) : Nat → UInt8 → Nat
  | 0, _ => 0
  | k + 1, c => if T.getD k 0 = c then k + 1 else rd T k c

theorem rd_le (T : List UInt8) (k : Nat) (c : UInt8) : rd T k c ≤ k := by
  induction k with
  | zero => simp [rd]
  | succ k ih => unfold rd; split <;> omega

theorem rd_spec (T : List UInt8) (k : Nat) (c : UInt8) (h : rd T k c ≠ 0) : T.getD (rd T k c - 1) 0 = c := by
  induction k with
  | zero => simp [rd] at h
  | succ k ih =>
    unfold rd at h ⊢
    split
    · rename_i e; simpa using e
    · rename_i e; rw [if_neg e] at h; exact ih h

theorem rd_none (T : List UInt8) (k : Nat) (c : UInt8) (h : ∀ j, j < k → T.getD j 0 ≠ c) : rd T k c = 0 := by
  induction k with
  | zero => rfl
  | succ k ih => unfold rd; rw [if_neg (h k (by omega))]; exact ih fun j hj => h j (by omega)

/-- a table that serves: its letters differ -/
structure Good (T : List UInt8) (n : Nat) : Prop where
  len : T.length = n
  back : ∀ i, i < n → rd T n (T.getD i 0) = i + 1
  eqs : rd T n 61 = 0
  zero : rd T n 0 = 0

theorem urlGood : Good urlT 64 := ⟨rfl, fun i hi => (show ∀ i : Fin 64, rd urlT 64 (urlT.getD i.val 0) = i.val + 1 by decide +kernel) ⟨i, hi⟩, by decide +kernel, by decide +kernel⟩
theorem stdGood : Good stdT 64 := ⟨rfl, fun i hi => (show ∀ i : Fin 64, rd stdT 64 (stdT.getD i.val 0) = i.val + 1 by decide +kernel) ⟨i, hi⟩, by decide +kernel, by decide +kernel⟩
theorem hexGood : Good hexT 16 := ⟨rfl, fun i hi => (show ∀ i : Fin 16, rd hexT 16 (hexT.getD i.val 0) = i.val + 1 by decide +kernel) ⟨i, hi⟩, by decide +kernel, by decide +kernel⟩

/-- the number of the letter i of a text -/
def num (T : List UInt8) (n : Nat) (s : List UInt8) (i : Nat) : Nat := rd T n (s.getD i 0) - 1

theorem num_lt {T : List UInt8} {n : Nat} (hn : 0 < n) (s : List UInt8) (i : Nat) : num T n s i < n := by
  have := rd_le T n (s.getD i 0); unfold num; omega

theorem num_at {T : List UInt8} {n : Nat} {s : List UInt8} {i : Nat} (h : rd T n (s.getD i 0) ≠ 0) : T.getD (num T n s i) 0 = s.getD i 0 := rd_spec T n _ h

theorem num_out {T : List UInt8} {n : Nat} (h : Good T n) {s : List UInt8} {i : Nat} (hi : s.length ≤ i) : num T n s i = 0 := by
  unfold num; rw [getD_out hi, h.zero]

/-- a byte out of numbers of six bits -/
def byt (x : Nat → Nat) (m : Nat) : Nat :=
  match m % 3 with
  | 0 => x (m / 3 * 4) * 4 + x (m / 3 * 4 + 1) / 16
  | 1 => x (m / 3 * 4 + 1) % 16 * 16 + x (m / 3 * 4 + 2) / 4
  | _ => x (m / 3 * 4 + 2) % 4 * 64 + x (m / 3 * 4 + 3)

theorem byt_lt (x : Nat → Nat) (hx : ∀ i, x i < 64) (m : Nat) : byt x m < 256 := by
  have h0 := hx (m / 3 * 4)
  have h1 := hx (m / 3 * 4 + 1)
  have h2 := hx (m / 3 * 4 + 2)
  have h3 := hx (m / 3 * 4 + 3)
  unfold byt; split <;> omega

def n8 (n : Nat) : Nat := 6 * n / 8

def un64 (T s : List UInt8) : List UInt8 := (List.range (n8 s.length)).map fun m => UInt8.ofNat (byt (num T 64 s) m)

theorem un64_len (T s : List UInt8) : (un64 T s).length = n8 s.length := by simp [un64]

theorem toNat_of {n : Nat} (h : n < 256) : (UInt8.ofNat n).toNat = n := by
  simp only [UInt8.toNat_ofNat']; omega

theorem g_un64 (T s : List UInt8) (m : Nat) (hm : m < n8 s.length) : g (un64 T s) m = byt (num T 64 s) m := by
  unfold g un64
  rw [getD_map, if_pos hm, toNat_of (byt_lt _ (num_lt (by decide) s) m)]

theorem g_out {l : List UInt8} {i : Nat} (h : l.length ≤ i) : g l i = 0 := by unfold g; rw [getD_out h]; rfl

/-- the bits that are no byte's are 0 -/
def restOk (T s : List UInt8) : Prop := s.length % 4 ≠ 1 ∧ (s.length % 4 = 2 → num T 64 s (s.length - 1) % 16 = 0) ∧ (s.length % 4 = 3 → num T 64 s (s.length - 1) % 4 = 0)

def valid (T : List UInt8) (n : Nat) (s : List UInt8) : Prop := ∀ i, i < s.length → rd T n (s.getD i 0) ≠ 0

theorem quarters (n : Nat) : ∃ k, (n = 4 * k ∧ n8 n = 3 * k) ∨ (n = 4 * k + 1 ∧ n8 n = 3 * k) ∨ (n = 4 * k + 2 ∧ n8 n = 3 * k + 1) ∨ (n = 4 * k + 3 ∧ n8 n = 3 * k + 2) := by
  refine ⟨n / 4, ?_⟩
  obtain ⟨k, q, hq, rfl⟩ : ∃ k q, q < 4 ∧ n = 4 * k + q := ⟨n / 4, n % 4, by omega, by omega⟩
  rw [show (4 * k + q) / 4 = k by omega]
  unfold n8
  match q, hq with
  | 0, _ => exact Or.inl ⟨rfl, by omega⟩
  | 1, _ => exact Or.inr (Or.inl ⟨rfl, by omega⟩)
  | 2, _ => exact Or.inr (Or.inr (Or.inl ⟨rfl, by omega⟩))
  | 3, _ => exact Or.inr (Or.inr (Or.inr ⟨rfl, by omega⟩))

theorem n6n8 {n : Nat} (h : n % 4 ≠ 1) : n6 (n8 n) = n := by
  obtain ⟨k, hk⟩ := quarters n
  unfold n6
  omega

theorem six_un64 (T s : List UInt8) (hr : restOk T s) (m : Nat) (hm : m < s.length) : six (un64 T s) m = num T 64 s m := by
  obtain ⟨hr1, hr2, hr3⟩ := hr
  obtain ⟨i, r, h4, rfl⟩ : ∃ i r, r < 4 ∧ m = 4 * i + r := ⟨m / 4, m % 4, by omega, by omega⟩
  have hx := num_lt (T := T) (n := 64) (by decide) s
  have x0 := hx (4 * i)
  have x1 := hx (4 * i + 1)
  have x2 := hx (4 * i + 2)
  have x3 := hx (4 * i + 3)
  have G : ∀ k, k < 3 → 3 * i + k < n8 s.length → g (un64 T s) (3 * i + k) = byt (num T 64 s) (3 * i + k) := fun k _ h => g_un64 T s _ h
  have Z : ∀ k, n8 s.length ≤ 3 * i + k → g (un64 T s) (3 * i + k) = 0 := fun k h => g_out (by rw [un64_len]; exact h)
  have b0 : byt (num T 64 s) (3 * i + 0) = num T 64 s (4 * i) * 4 + num T 64 s (4 * i + 1) / 16 := by
    unfold byt; rw [show (3 * i + 0) % 3 = 0 by omega, show (3 * i + 0) / 3 * 4 = 4 * i by omega]; rfl
  have b1 : byt (num T 64 s) (3 * i + 1) = num T 64 s (4 * i + 1) % 16 * 16 + num T 64 s (4 * i + 2) / 4 := by
    unfold byt; rw [show (3 * i + 1) % 3 = 1 by omega, show (3 * i + 1) / 3 * 4 = 4 * i by omega]; rfl
  have b2 : byt (num T 64 s) (3 * i + 2) = num T 64 s (4 * i + 2) % 4 * 64 + num T 64 s (4 * i + 3) := by
    unfold byt; rw [show (3 * i + 2) % 3 = 2 by omega, show (3 * i + 2) / 3 * 4 = 4 * i by omega]; rfl
  unfold six
  rw [show (4 * i + r) % 4 = r by omega, show (4 * i + r) / 4 * 3 = 3 * i + 0 by omega]
  have hq := quarters s.length
  obtain ⟨k, hq⟩ := hq
  match r, h4 with
  | 0, _ =>
    show g (un64 T s) (3 * i + 0) / 4 = _
    rw [G 0 (by decide) (by omega), b0]; show _ = num T 64 s (4 * i); omega
  | 1, _ =>
    show g (un64 T s) (3 * i + 0) % 4 * 16 + g (un64 T s) (3 * i + 1) / 16 = _
    rw [G 0 (by decide) (by omega), b0]
    by_cases h : 3 * i + 1 < n8 s.length
    · rw [G 1 (by decide) h, b1]; omega
    · rw [Z 1 (by omega)]
      have := hr2 (by omega)
      rw [show s.length - 1 = 4 * i + 1 by omega] at this
      omega
  | 2, _ =>
    show g (un64 T s) (3 * i + 1) % 16 * 4 + g (un64 T s) (3 * i + 2) / 64 = _
    rw [G 1 (by decide) (by omega), b1]
    by_cases h : 3 * i + 2 < n8 s.length
    · rw [G 2 (by decide) h, b2]; omega
    · rw [Z 2 (by omega)]
      have := hr3 (by omega)
      rw [show s.length - 1 = 4 * i + 2 by omega] at this
      omega
  | 3, _ =>
    show g (un64 T s) (3 * i + 2) % 64 = _
    rw [G 2 (by decide) (by omega), b2]; omega

/-- what is read is written as it was -/
theorem b64_un64 (T s : List UInt8) (hv : valid T 64 s) (hr : restOk T s) : b64 T (un64 T s) = s := by
  have hl : (b64 T (un64 T s)).length = s.length := by
    rw [b64_len, un64_len, n6n8 hr.1]
  apply list_eq hl
  intro i hi
  rw [hl] at hi
  unfold b64
  rw [getD_map, if_pos (by rw [b64_len] at hl; omega), six_un64 T s hr i hi]
  exact num_at (hv i hi)

theorem rd_b64 {T : List UInt8} (hT : Good T 64) (l : List UInt8) (m : Nat) (hm : m < n6 l.length) : rd T 64 ((b64 T l).getD m 0) = six l m + 1 := by
  unfold b64
  rw [getD_map, if_pos hm]
  exact hT.back _ (six_lt l m)

theorem num_b64 {T : List UInt8} (hT : Good T 64) (l : List UInt8) (m : Nat) (hm : m < n6 l.length) : num T 64 (b64 T l) m = six l m := by
  unfold num; rw [rd_b64 hT l m hm]; omega

theorem valid_b64 {T : List UInt8} (hT : Good T 64) (l : List UInt8) : valid T 64 (b64 T l) := by
  intro i hi
  rw [b64_len] at hi
  rw [rd_b64 hT l i hi]; omega

theorem six_at1 (l : List UInt8) (k : Nat) : six l (4 * k + 1) = g l (3 * k) % 4 * 16 + g l (3 * k + 1) / 16 := by
  unfold six; rw [show (4 * k + 1) % 4 = 1 by omega, show (4 * k + 1) / 4 * 3 = 3 * k by omega]; rfl
theorem six_at0 (l : List UInt8) (k : Nat) : six l (4 * k) = g l (3 * k) / 4 := by
  unfold six; rw [show (4 * k) % 4 = 0 by omega, show (4 * k) / 4 * 3 = 3 * k by omega]; rfl
theorem six_at2 (l : List UInt8) (k : Nat) : six l (4 * k + 2) = g l (3 * k + 1) % 16 * 4 + g l (3 * k + 2) / 64 := by
  unfold six; rw [show (4 * k + 2) % 4 = 2 by omega, show (4 * k + 2) / 4 * 3 = 3 * k by omega]; rfl
theorem six_at3 (l : List UInt8) (k : Nat) : six l (4 * k + 3) = g l (3 * k + 2) % 64 := by
  unfold six; rw [show (4 * k + 3) % 4 = 3 by omega, show (4 * k + 3) / 4 * 3 = 3 * k by omega]; rfl

theorem rest_b64 {T : List UInt8} (hT : Good T 64) (l : List UInt8) : restOk T (b64 T l) := by
  unfold restOk
  rw [b64_len]
  refine ⟨by unfold n6; omega, fun h => ?_, fun h => ?_⟩
  · rw [num_b64 hT l _ (by unfold n6 at h ⊢; omega)]
    obtain ⟨k, hk⟩ : ∃ k, l.length = 3 * k + 1 := ⟨l.length / 3, by unfold n6 at h; omega⟩
    rw [show n6 l.length - 1 = 4 * k + 1 by unfold n6; omega, six_at1, g_out (show l.length ≤ 3 * k + 1 by omega)]
    omega
  · rw [num_b64 hT l _ (by unfold n6 at h ⊢; omega)]
    obtain ⟨k, hk⟩ : ∃ k, l.length = 3 * k + 2 := ⟨l.length / 3, by unfold n6 at h; omega⟩
    rw [show n6 l.length - 1 = 4 * k + 2 by unfold n6; omega, six_at2, g_out (show l.length ≤ 3 * k + 2 by omega)]
    omega

theorem of_toNat {a : UInt8} {n : Nat} (h : n = a.toNat) : UInt8.ofNat n = a := by subst h; exact UInt8.ofNat_toNat

/-- what was written is read as it was -/
theorem un64_b64 {T : List UInt8} (hT : Good T 64) (l : List UInt8) : un64 T (b64 T l) = l := by
  have hl : (un64 T (b64 T l)).length = l.length := by rw [un64_len, b64_len]; unfold n6 n8; omega
  apply list_eq hl
  intro m hm
  rw [hl] at hm
  unfold un64
  rw [getD_map, if_pos (by rw [un64_len] at hl; omega)]
  apply of_toNat
  show _ = g l m
  obtain ⟨k, r, h3, rfl⟩ : ∃ k r, r < 3 ∧ m = 3 * k + r := ⟨m / 3, m % 3, by omega, by omega⟩
  have g0 := g_lt l (3 * k)
  have g1 := g_lt l (3 * k + 1)
  have g2 := g_lt l (3 * k + 2)
  unfold byt
  rw [show (3 * k + r) % 3 = r by omega, show (3 * k + r) / 3 * 4 = 4 * k by omega]
  match r, h3 with
  | 0, _ =>
    show num T 64 (b64 T l) (4 * k) * 4 + num T 64 (b64 T l) (4 * k + 1) / 16 = g l (3 * k)
    rw [num_b64 hT l _ (by unfold n6; omega), num_b64 hT l _ (by unfold n6; omega), six_at0, six_at1]; omega
  | 1, _ =>
    show num T 64 (b64 T l) (4 * k + 1) % 16 * 16 + num T 64 (b64 T l) (4 * k + 2) / 4 = _
    rw [num_b64 hT l _ (by unfold n6; omega), num_b64 hT l _ (by unfold n6; omega), six_at1, six_at2]; omega
  | 2, _ =>
    show num T 64 (b64 T l) (4 * k + 2) % 4 * 64 + num T 64 (b64 T l) (4 * k + 3) = _
    rw [num_b64 hT l _ (by unfold n6; omega), num_b64 hT l _ (by unfold n6; omega), six_at2, six_at3]; omega

/-- when the document's reader takes a text -/
theorem taken64 {T : List UInt8} (hT : Good T 64) (s : List UInt8) : b64 T (un64 T s) = s ↔ valid T 64 s ∧ restOk T s := by
  constructor
  · intro h; rw [← h]; exact ⟨valid_b64 hT _, rest_b64 hT _⟩
  · exact fun h => b64_un64 T s h.1 h.2

theorem b64_inj {T : List UInt8} (hT : Good T 64) {a b : List UInt8} (h : b64 T a = b64 T b) : a = b := by
  rw [← un64_b64 hT a, h, un64_b64 hT b]

theorem g_app_l {p q : List UInt8} {i : Nat} (h : i < p.length) : g (p ++ q) i = g p i := by
  unfold g; rw [List.getD_eq_getElem?_getD, List.getD_eq_getElem?_getD, List.getElem?_append_left h]
theorem g_app_r {p q : List UInt8} {i : Nat} (h : p.length ≤ i) : g (p ++ q) i = g q (i - p.length) := by
  unfold g; rw [List.getD_eq_getElem?_getD, List.getD_eq_getElem?_getD, List.getElem?_append_right h]

/-- piece by piece -/
theorem b64_join (T p q : List UInt8) (h3 : p.length % 3 = 0) : b64 T (p ++ q) = b64 T p ++ b64 T q := by
  obtain ⟨k, hk⟩ : ∃ k, p.length = 3 * k := ⟨p.length / 3, by omega⟩
  have hn : n6 p.length = 4 * k := by unfold n6; omega
  apply list_eq
  · rw [List.length_append, b64_len, b64_len, b64_len, List.length_append]; unfold n6; omega
  intro i hi
  rw [b64_len] at hi
  have e : ∀ j, (b64 T p ++ b64 T q).getD j 0 = if j < 4 * k then (b64 T p).getD j 0 else (b64 T q).getD (j - 4 * k) 0 := by
    intro j
    rw [List.getD_eq_getElem?_getD, List.getElem?_append, b64_len, hn]
    split <;> rw [List.getD_eq_getElem?_getD]
  rw [e]
  have hL : (p ++ q).length = 3 * k + q.length := by rw [List.length_append, hk]
  rw [hL] at hi
  obtain ⟨a, r, h4, rfl⟩ : ∃ a r, r < 4 ∧ i = 4 * a + r := ⟨i / 4, i % 4, by omega, by omega⟩
  unfold b64
  rw [getD_map, if_pos (by rw [hL]; exact hi)]
  by_cases ha : a < k
  · rw [if_pos (by omega), getD_map, if_pos (by omega)]
    congr 1
    unfold six
    rw [show (4 * a + r) / 4 * 3 = 3 * a by omega, g_app_l (by omega), g_app_l (by omega), g_app_l (by omega)]
  · rw [if_neg (by omega), getD_map, if_pos (by unfold n6 at hi ⊢; omega)]
    congr 1
    unfold six
    rw [show (4 * a + r) / 4 * 3 = 3 * a by omega, show (4 * a + r - 4 * k) % 4 = (4 * a + r) % 4 by omega, show (4 * a + r - 4 * k) / 4 * 3 = 3 * (a - k) by omega, g_app_r (by omega), g_app_r (by omega), g_app_r (by omega), hk,
      show 3 * a - 3 * k = 3 * (a - k) by omega, show 3 * a + 1 - 3 * k = 3 * (a - k) + 1 by omega, show 3 * a + 2 - 3 * k = 3 * (a - k) + 2 by omega]

theorem std_join (p q : List UInt8) (h3 : p.length % 3 = 0) : std (p ++ q) = std p ++ std q := by
  have h0 : pad (n6 p.length) = [] := by
    unfold pad; rw [show (4 - n6 p.length % 4) % 4 = 0 by unfold n6; omega]; rfl
  have h1 : pad (n6 (p ++ q).length) = pad (n6 q.length) := by
    have e : n6 (p ++ q).length % 4 = n6 q.length % 4 := by
      rw [List.length_append]; unfold n6
      obtain ⟨k, hk⟩ : ∃ k, p.length = 3 * k := ⟨p.length / 3, by omega⟩
      rw [hk, show (8 * (3 * k + q.length) + 5) / 6 = 4 * k + (8 * q.length + 5) / 6 by omega]; omega
    unfold pad; rw [e]
  unfold std
  rw [b64_join stdT p q h3, h1, h0, List.append_nil, List.append_assoc]

/-- hexadecimal digits -/
def unhex (s : List UInt8) : List UInt8 := (List.range (s.length / 2)).map fun m => UInt8.ofNat (num hexT 16 s (2 * m) * 16 + num hexT 16 s (2 * m + 1))

theorem unhex_len (s : List UInt8) : (unhex s).length = s.length / 2 := by simp [unhex]

theorem four0 (l : List UInt8) (k : Nat) : four l (2 * k) = g l k / 16 := by
  unfold four; rw [if_pos (by omega), show 2 * k / 2 = k by omega]
theorem four1 (l : List UInt8) (k : Nat) : four l (2 * k + 1) = g l k % 16 := by
  unfold four; rw [if_neg (by omega), show (2 * k + 1) / 2 = k by omega]

theorem rd_hex (l : List UInt8) (m : Nat) (hm : m < 2 * l.length) : rd hexT 16 ((hex l).getD m 0) = four l m + 1 := by
  unfold hex; rw [getD_map, if_pos hm]; exact hexGood.back _ (four_lt l m)
theorem num_hex (l : List UInt8) (m : Nat) (hm : m < 2 * l.length) : num hexT 16 (hex l) m = four l m := by
  unfold num; rw [rd_hex l m hm]; omega
theorem valid_hex (l : List UInt8) : valid hexT 16 (hex l) := by
  intro i hi; rw [hex_len] at hi; rw [rd_hex l i hi]; omega

theorem unhex_hex (l : List UInt8) : unhex (hex l) = l := by
  have hl : (unhex (hex l)).length = l.length := by rw [unhex_len, hex_len]; omega
  apply list_eq hl
  intro m hm
  rw [hl] at hm
  unfold unhex
  rw [getD_map, if_pos (by rw [unhex_len] at hl; omega)]
  apply of_toNat
  show _ = g l m
  have g0 := g_lt l m
  rw [num_hex l _ (by omega), num_hex l _ (by omega), four0, four1]; omega

theorem hex_unhex (s : List UInt8) (hv : valid hexT 16 s) (h2 : s.length % 2 = 0) : hex (unhex s) = s := by
  have hl : (hex (unhex s)).length = s.length := by rw [hex_len, unhex_len]; omega
  apply list_eq hl
  intro i hi
  rw [hl] at hi
  unfold hex
  rw [getD_map, if_pos (by rw [hex_len] at hl; omega)]
  have hx := num_lt (T := hexT) (n := 16) (by decide) s
  have hg : ∀ m, m < s.length / 2 → g (unhex s) m = num hexT 16 s (2 * m) * 16 + num hexT 16 s (2 * m + 1) := by
    intro m hm
    unfold g unhex
    rw [getD_map, if_pos hm, toNat_of (by have := hx (2 * m); have := hx (2 * m + 1); omega)]
  obtain ⟨k, r, h3, rfl⟩ : ∃ k r, r < 2 ∧ i = 2 * k + r := ⟨i / 2, i % 2, by omega, by omega⟩
  have x0 := hx (2 * k)
  have x1 := hx (2 * k + 1)
  match r, h3 with
  | 0, _ =>
    show hexT.getD (four (unhex s) (2 * k)) 0 = s.getD (2 * k) 0
    rw [four0, hg k (by omega), show (num hexT 16 s (2 * k) * 16 + num hexT 16 s (2 * k + 1)) / 16 = num hexT 16 s (2 * k) by omega]
    exact num_at (hv (2 * k) (by omega))
  | 1, _ =>
    rw [four1, hg k (by omega), show (num hexT 16 s (2 * k) * 16 + num hexT 16 s (2 * k + 1)) % 16 = num hexT 16 s (2 * k + 1) by omega]
    exact num_at (hv (2 * k + 1) (by omega))

theorem takenHex (s : List UInt8) : hex (unhex s) = s ↔ valid hexT 16 s ∧ s.length % 2 = 0 := by
  constructor
  · intro h; rw [← h]; exact ⟨valid_hex _, by rw [hex_len]; omega⟩
  · exact fun h => hex_unhex s h.1 h.2

theorem hex_inj {a b : List UInt8} (h : hex a = hex b) : a = b := by rw [← unhex_hex a, h, unhex_hex b]

theorem hex_join (p q : List UInt8) : hex (p ++ q) = hex p ++ hex q := by
  apply list_eq
  · rw [List.length_append, hex_len, hex_len, hex_len, List.length_append]; omega
  intro i hi
  rw [hex_len, List.length_append] at hi
  have e : (hex p ++ hex q).getD i 0 = if i < 2 * p.length then (hex p).getD i 0 else (hex q).getD (i - 2 * p.length) 0 := by
    rw [List.getD_eq_getElem?_getD, List.getElem?_append, hex_len]
    split <;> rw [List.getD_eq_getElem?_getD]
  rw [e]
  unfold hex
  rw [getD_map, if_pos (by rw [List.length_append]; exact hi)]
  by_cases h : i < 2 * p.length
  · rw [if_pos h, getD_map, if_pos h]
    congr 1
    unfold four
    rw [g_app_l (by omega)]
  · rw [if_neg h, getD_map, if_pos (by omega)]
    congr 1
    unfold four
    rw [g_app_r (by omega), show (i - 2 * p.length) % 2 = i % 2 by omega, show i / 2 - p.length = (i - 2 * p.length) / 2 by omega]

/-- letters, and then signs that are none: the parting is one -/
theorem part_one {A B P Q : List UInt8} (hA : ∀ c ∈ A, c ≠ 61) (hB : ∀ c ∈ B, c ≠ 61) (hP : ∀ c ∈ P, c = 61) (hQ : ∀ c ∈ Q, c = 61) (h : A ++ P = B ++ Q) : A = B ∧ P = Q := by
  induction A generalizing B with
  | nil =>
    cases B with
    | nil => exact ⟨rfl, h⟩
    | cons b B =>
      rw [List.nil_append] at h
      exact absurd (hP b (by rw [h]; simp)) (hB b (by simp))
  | cons a A ih =>
    cases B with
    | nil =>
      rw [List.nil_append] at h
      exact absurd (hQ a (by rw [← h]; simp)) (hA a (by simp))
    | cons b B =>
      simp only [List.cons_append, List.cons.injEq] at h
      have := ih (fun c hc => hA c (by simp [hc])) (fun c hc => hB c (by simp [hc])) h.2
      exact ⟨by rw [h.1, this.1], this.2⟩

theorem valid_ne {T : List UInt8} (hT : Good T 64) {s : List UInt8} (hv : valid T 64 s) : ∀ c ∈ s, c ≠ 61 := by
  intro c hc h
  obtain ⟨i, hi, rfl⟩ := List.getElem_of_mem hc
  have := hv i hi
  rw [List.getD_eq_getElem?_getD, List.getElem?_eq_getElem hi] at this
  simp only [Option.getD_some] at this
  rw [h] at this
  exact this hT.eqs

theorem pad_all (n : Nat) : ∀ c ∈ pad n, c = 61 := by intro c hc; unfold pad at hc; exact (List.mem_replicate.1 hc).2

/-- when the document's reader of padded texts takes a text: l is the text without the signs at its end, e these signs -/
theorem takenStd (l e : List UInt8) (hv : valid stdT 64 l) (he : ∀ c ∈ e, c = 61) : std (un64 stdT l) = l ++ e ↔ e = pad l.length ∧ restOk stdT l := by
  unfold std
  constructor
  · intro h
    obtain ⟨h1, h2⟩ := part_one (valid_ne stdGood (valid_b64 stdGood _)) (valid_ne stdGood hv) (pad_all _) he h
    have hr := ((taken64 stdGood l).1 h1).2
    rw [un64_len, n6n8 hr.1] at h2
    exact ⟨h2.symm, hr⟩
  · intro ⟨h1, h2⟩
    rw [b64_un64 stdT l hv h2, un64_len, n6n8 h2.1, h1]

theorem std_inj {a b : List UInt8} (h : std a = std b) : a = b := by
  unfold std at h
  exact b64_inj stdGood (part_one (valid_ne stdGood (valid_b64 stdGood _)) (valid_ne stdGood (valid_b64 stdGood _)) (pad_all _) (pad_all _) h).1

theorem std_len (l : List UInt8) : (std l).length = (l.length + 2) / 3 * 4 := by
  unfold std pad
  rw [List.length_append, b64_len, List.length_replicate]
  obtain ⟨k, q, hq, e⟩ : ∃ k q, q < 3 ∧ l.length = 3 * k + q := ⟨l.length / 3, l.length % 3, by omega, by omega⟩
  rw [e]
  unfold n6
  match q, hq with
  | 0, _ => omega
  | 1, _ => omega
  | 2, _ => omega

end Go.Proofs.YtiplhmamcghehaaGreatDoor.Rad

namespace Go.Proofs.YtiplhmamcghehaaGreatDoor.radw
open Go.ChangeShapes Go.WideShapes Go.ChangeAt Go.RowKit Go.Proofs.YtiplhmamcghehaaGreatDoor.common

abbrev B (c : UInt8) : Value := .int .u8 (c.toNat : Int)

theorem info8 : (Tryz.prog.info? 5).map (fun i => (i.zero, i.size, i.bytes)) = some (some (.int .u8 0), 1, 1) := by kernel_rfl

/-- the bytes l lie at the head of the block g, which may be written -/
def Lay (w : World) (g : Nat) (l : List UInt8) : Prop := w.there g 0 l.length ∧ w.rangeAt g 0 (l.map B)

theorem Lay.cell {w : World} {g : Nat} {l : List UInt8} (h : Lay w g l) (i : Nat) (hi : i < l.length) : w.cell? ⟨g, i, none⟩ = some (B (l.getD i 0)) := by
  have := range_cell h.2 i (by simpa using hi)
  rw [Nat.zero_add] at this
  rw [this]; simp [hi]

theorem Lay.frozen {w : World} {g : Nat} {l : List UInt8} (h : Lay w g l) (i : Nat) (hi : i < l.length) : w.frozen? ⟨g, i, none⟩ = false := by
  simpa using (h.1 i hi).2

theorem Lay.set {w : World} {g : Nat} {l : List UInt8} (h : Lay w g l) (i : Nat) (hi : i < l.length) (c : UInt8) : Lay (w.setCell ⟨g, i, none⟩ (B c)) g (l.set i c) := by
  refine ⟨by rw [List.length_set]; exact there_set h.1 _ _, ?_⟩
  have := range_set h.2 i (by simpa using hi) (B c)
  rw [Nat.zero_add] at this
  rw [List.map_set]; exact this

theorem Lay.drew {w : World} {g : Nat} {l : List UInt8} (h : Lay w g l) : Lay w.drew g l := h
theorem Lay.drewN {w : World} {g : Nat} {l : List UInt8} (h : Lay w g l) (n : Nat) : Lay (w.drewN n) g l := h

theorem Lay.below {w w' : World} {b g : Nat} {l : List UInt8} (h : Lay w g l) (hb : Below b w w') (hg : g < b) : Lay w' g l := ⟨there_below h.1 hb hg, range_below h.2 hb hg⟩

theorem made_list (n : Nat) : (madeCells #[.int .u8 0] n).toList = (List.replicate n (0 : UInt8)).map B := by
  unfold madeCells
  simp only [List.map_replicate]
  apply List.ext_getElem
  · simp
  · intro i h1 h2
    simp [Nat.mod_one]

theorem lay_made (w : World) (n : Nat) (t : TypeId) : Lay (w.alloc (.cells (madeCells #[.int .u8 0] n) t)) w.heap.size (List.replicate n 0) := by
  refine ⟨there_new_at w _ _ _ _ rfl ?_, range_new_at w _ _ _ _ rfl (made_list n).symm⟩
  have := congrArg List.length (made_list n)
  simpa using this.symm

theorem Lay.conv {w : World} {g : Nat} {l : List UInt8} {n cap : Nat} (h : Lay w g l) (hn : l.length = n) :
    (convert 22 9 (.slice (some ⟨g, 0, none⟩) n cap)).run Tryz.prog w = .ok (.string ⟨l.toArray⟩) w := by
  subst hn
  refine run_convert_bytes_back (P := Tryz.prog) w 22 9 5 ⟨g, 0, none⟩ cap l Tryz.underlying22 Tryz.underlying5 Tryz.underlying9 ?_
  intro j hj
  rw [Addr.add_mid, Nat.zero_add, h.cell j hj]
  simp [hj]

/-- a table of letters lies in memory -/
def TabAt (g : Nat) (T : List UInt8) (w : World) : Prop := ∀ i : Nat, i < T.length → w.cell? ⟨g, i, none⟩ = some (B (T.getD i 0))

theorem TabAt.lt {g : Nat} {T : List UInt8} {w : World} (h : TabAt g T w) (h0 : 0 < T.length) : g < w.heap.size := World.block_lt_of_cell? w _ (h 0 h0)

theorem TabAt.below {g : Nat} {T : List UInt8} {w w' : World} {b : Nat} (h : TabAt g T w) (hb : Below b w w') (hB : g < b) : TabAt g T w' := fun i hi => by
  rw [← h i hi]; exact hb.cell hB

theorem getD_list (s : ByteArray) (k : Nat) (h : k < s.size) : s.data.toList.getD k 0 = s[k] := by
  have : k < s.data.toList.length := by simpa using h
  rw [List.getD_eq_getElem?_getD, List.getElem?_eq_getElem this]; rfl

theorem len_list (s : ByteArray) : s.data.toList.length = s.size := by simp

theorem g_at (s : ByteArray) (k : Nat) (h : k < s.size) : Rad.g s.data.toList k = s[k].toNat := by unfold Rad.g; rw [getD_list s k h]

theorem and_nat (x : UInt8) (m : Nat) (hm : m < 256) : bits .and .u8 (x.toNat : Int) (m : Int) = ((x.toNat &&& m : Nat) : Int) := u8_and_nat _ _ x.toNat_lt hm

/-- a list that is being written: its first k letters are f's -/
def upto (f : Nat → UInt8) (n k : Nat) : List UInt8 := (List.range n).map fun i => if i < k then f i else 0

theorem upto_len (f : Nat → UInt8) (n k : Nat) : (upto f n k).length = n := by simp [upto]
theorem upto_zero (f : Nat → UInt8) (n : Nat) : upto f n 0 = List.replicate n 0 := by
  apply Rad.list_eq
  · simp [upto]
  · intro i hi; rw [upto_len] at hi; unfold upto; rw [Rad.getD_map, if_pos hi]; simp [List.getD, hi]
theorem upto_all (f : Nat → UInt8) (n : Nat) : upto f n n = (List.range n).map f := by
  apply Rad.list_eq
  · simp [upto]
  · intro i hi; rw [upto_len] at hi; unfold upto; rw [Rad.getD_map, Rad.getD_map]; simp [hi]
theorem upto_set (f : Nat → UInt8) (n k : Nat) (hk : k < n) {c : UInt8} (hc : c = f k) : (upto f n k).set k c = upto f n (k + 1) := by
  subst hc
  apply Rad.list_eq
  · simp [upto]
  · intro i hi
    rw [List.length_set, upto_len] at hi
    have e : ((upto f n k).set k (f k)).getD i 0 = if i = k then f k else (upto f n k).getD i 0 := by
      rw [List.getD_eq_getElem?_getD, List.getElem?_set, upto_len]
      by_cases h : k = i
      · subst h; simp [hk]
      · rw [if_neg h, if_neg (fun h' => h h'.symm), List.getD_eq_getElem?_getD]
    rw [e]
    unfold upto
    rw [Rad.getD_map, Rad.getD_map, if_pos hi, if_pos hi]
    by_cases h : i = k
    · subst h; simp
    · rw [if_neg h]
      by_cases h2 : i < k
      · rw [if_pos h2, if_pos (by omega)]
      · rw [if_neg h2, if_neg (by omega)]

end Go.Proofs.YtiplhmamcghehaaGreatDoor.radw

namespace Go.Proofs.YtiplhmamcghehaaGreatDoor.radw
open Go.ChangeShapes Go.WideShapes Go.ChangeAt Go.RowKit Go.Proofs.YtiplhmamcghehaaGreatDoor.common

theorem cells8 : Tryz.prog.cellsOf 5 = 1 := by kernel_rfl

theorem stdCells : Tryz.prog.cellsOf 117 = 64 := by kernel_rfl
end Go.Proofs.YtiplhmamcghehaaGreatDoor.radw

namespace Go.Proofs.YtiplhmamcghehaaGreatDoor.radw
open Go.ChangeShapes Go.WideShapes Go.ChangeAt Go.RowKit Go.Proofs.YtiplhmamcghehaaGreatDoor.common
attribute [local go_sem ↓] Go.wp_at_zero Go.wp_at_succ

end Go.Proofs.YtiplhmamcghehaaGreatDoor.radw

namespace Go.Proofs.YtiplhmamcghehaaGreatDoor.radw
open Go.ChangeShapes Go.WideShapes Go.ChangeAt Go.RowKit Go.Proofs.YtiplhmamcghehaaGreatDoor.common
attribute [local go_sem ↓] Go.wp_at_zero Go.wp_at_succ

def sixB (l : List UInt8) (m : Nat) : UInt8 := UInt8.ofNat (Rad.six l m)

theorem sixB_val (l : List UInt8) (m : Nat) : ((sixB l m).toNat : Int) = ((Rad.six l m : Nat) : Int) := by
  unfold sixB; rw [Rad.toNat_of (Nat.lt_trans (Rad.six_lt l m) (by decide))]

theorem or_add (a b i : Nat) (h : b < 2 ^ i) : a * 2 ^ i ||| b = a * 2 ^ i + b := by
  rw [← Nat.shiftLeft_eq, Nat.shiftLeft_add_eq_or_of_lt h]

theorem or_val (a b : Nat) (ha : a < 256) (hb : b < 256) : bits .or .u8 (a : Int) (b : Int) = ((a ||| b : Nat) : Int) := u8_or_nat a b ha hb

/-- two parts of a byte, put together -/
theorem or_at (a b i c : Nat) (x y : Int) (hi : i ≤ 8) (hx : x = ((a * 2 ^ i : Nat) : Int)) (hy : y = (b : Int)) (h : b < 2 ^ i) (ha : a * 2 ^ i < 256) (hc : c = a * 2 ^ i + b) : bits .or .u8 x y = (c : Int) := by
  subst hx hy hc
  have hb : b < 256 := Nat.lt_of_lt_of_le h (Nat.pow_le_pow_right (n := 2) (j := 8) (by decide) hi)
  rw [or_val _ _ ha hb, or_add a b i h]
theorem or_at' (a b i c : Nat) (x y : Int) (hi : i ≤ 8) (hx : x = ((a * 2 ^ i : Nat) : Int)) (hy : y = (b : Int)) (h : b < 2 ^ i) (ha : a * 2 ^ i < 256) (hc : c = a * 2 ^ i + b) : bits .or .u8 y x = (c : Int) := by
  subst hx hy hc
  have hb : b < 256 := Nat.lt_of_lt_of_le h (Nat.pow_le_pow_right (n := 2) (j := 8) (by decide) hi)
  rw [or_val _ _ hb ha, Nat.or_comm, or_add a b i h]

theorem and63 : ∀ c : Fin 256, c.val &&& 63 = c.val % 64 := by decide +kernel

/-- the four numbers of three bytes -/
theorem quad (l : List UInt8) (k : Nat) (x0 x1 x2 : UInt8) (h0 : Rad.g l (3 * k) = x0.toNat) (h1 : Rad.g l (3 * k + 1) = x1.toNat) (h2 : Rad.g l (3 * k + 2) = x2.toNat) :
    (x0.toNat : Int) / 4 = ((sixB l (4 * k)).toNat : Int) ∧ bits .or .u8 ((x0.toNat : Int) * 16 % 64) ((x1.toNat : Int) / 16) = ((sixB l (4 * k + 1)).toNat : Int) ∧
      bits .or .u8 ((x1.toNat : Int) * 4 % 64) ((x2.toNat : Int) / 64) = ((sixB l (4 * k + 2)).toNat : Int) ∧ bits .and .u8 (x2.toNat : Int) 63 = ((sixB l (4 * k + 3)).toNat : Int) := by
  have b0 := x0.toNat_lt
  have b1 := x1.toNat_lt
  have b2 := x2.toNat_lt
  rw [sixB_val, sixB_val, sixB_val, sixB_val, Rad.six_at0, Rad.six_at1, Rad.six_at2, Rad.six_at3, h0, h1, h2]
  refine ⟨by omega, ?_, ?_, ?_⟩
  case refine_3 =>
    rw [← and63 ⟨x2.toNat, b2⟩]
    exact and_nat x2 63 (by decide)
  · exact or_at (x0.toNat % 4) (x1.toNat / 16) 4 _ _ _ (by decide) (by omega) (by omega) (by omega) (by omega) (by omega)
  · exact or_at (x1.toNat % 16) (x2.toNat / 64) 2 _ _ _ (by decide) (by omega) (by omega) (by omega) (by omega) (by omega)

theorem ext3 (s : ByteArray) (k : Nat) (h : 3 * k + 3 ≤ s.size) : (s.extract (3 * k) (3 * k + 3)).size = 3 := by
  rw [ByteArray.size_extract]; omega

theorem ext_at (s : ByteArray) (a b i : Nat) (h : a + i < b) : ((s.extract a b).data.toList.getD i 0) = s.data.toList.getD (a + i) 0 := by
  simp only [ByteArray.data_extract, Array.toList_extract]
  simp only [List.extract_eq_take_drop, List.getD_eq_getElem?_getD, List.getElem?_take, List.getElem?_drop]
  rw [if_pos (by omega)]

theorem upto_getD (f : Nat → UInt8) (n k i : Nat) : (upto f n k).getD i 0 = if i < n then (if i < k then f i else 0) else 0 := by unfold upto; rw [Rad.getD_map]
theorem set_getD (l : List UInt8) (i j : Nat) (c : UInt8) (hi : i < l.length) : (l.set i c).getD j 0 = if j = i then c else l.getD j 0 := by
  rw [List.getD_eq_getElem?_getD, List.getElem?_set]
  by_cases h : i = j
  · subst h; simp [hi]
  · rw [if_neg h, if_neg (fun h' => h h'.symm), List.getD_eq_getElem?_getD]

theorem fill1 (f : Nat → UInt8) (o : Nat) : ((upto f (o + 2) o).set (o + 1) (f (o + 1))).set o (f o) = upto f (o + 2) (o + 2) := by
  apply Rad.list_eq
  · simp [upto_len]
  · intro i hi
    simp only [List.length_set, upto_len] at hi
    rw [set_getD _ _ _ _ (by simp [upto_len]), set_getD _ _ _ _ (by simp [upto_len]), upto_getD, upto_getD]
    by_cases h0 : i = o
    · subst h0; simp
    · by_cases h1 : i = o + 1
      · subst h1; simp
      · rw [if_neg h0, if_neg h1, if_pos (by omega), if_pos (by omega), if_pos (by omega), if_pos (by omega)]

theorem fill2 (f : Nat → UInt8) (o : Nat) (z : UInt8) : ((((upto f (o + 3) o).set (o + 2) (f (o + 2))).set (o + 1) z).set (o + 1) (f (o + 1))).set o (f o) = upto f (o + 3) (o + 3) := by
  apply Rad.list_eq
  · simp [upto_len]
  · intro i hi
    simp only [List.length_set, upto_len] at hi
    rw [set_getD _ _ _ _ (by simp [upto_len]), set_getD _ _ _ _ (by simp [upto_len]), set_getD _ _ _ _ (by simp [upto_len]), set_getD _ _ _ _ (by simp [upto_len]), upto_getD, upto_getD]
    by_cases h0 : i = o
    · subst h0; simp
    · by_cases h1 : i = o + 1
      · subst h1; simp
      · by_cases h2 : i = o + 2
        · subst h2; simp
        · rw [if_neg h0, if_neg h1, if_neg h1, if_neg h2, if_pos (by omega), if_pos (by omega), if_pos (by omega), if_pos (by omega)]

theorem byte_of_list {t : ByteArray} {i : Nat} (hi : i < t.size) {x : UInt8} (h : t.data.toList.getD i 0 = x) : t[i] = x := by
  rw [← getD_list t i hi]; exact h

theorem g_none (s : ByteArray) (i : Nat) (h : s.size ≤ i) : Rad.g s.data.toList i = 0 := Rad.g_out (by rw [len_list]; exact h)

end Go.Proofs.YtiplhmamcghehaaGreatDoor.radw

namespace Go.Proofs.YtiplhmamcghehaaGreatDoor.radw
open Go.ChangeShapes Go.WideShapes Go.ChangeAt Go.RowKit Go.Proofs.YtiplhmamcghehaaGreatDoor.common
attribute [local go_sem ↓] Go.wp_at_zero Go.wp_at_succ

/-- a reading, of the first k letters of a table -/
def rdT (T : List UInt8) (k : Nat) : List UInt8 := (List.range 256).map fun c => UInt8.ofNat (Rad.rd T k (UInt8.ofNat c))
theorem rdT_len (T : List UInt8) (k : Nat) : (rdT T k).length = 256 := by unfold rdT; rw [List.length_map, List.length_range]
theorem rdT_zero (T : List UInt8) : rdT T 0 = List.replicate 256 0 := by
  apply Rad.list_eq
  · rw [rdT_len, List.length_replicate]
  · intro i hi; rw [rdT_len] at hi; unfold rdT; rw [Rad.getD_map, if_pos hi, List.getD_eq_getElem?_getD, List.getElem?_replicate, if_pos hi]; rfl
theorem rdT_set (T : List UInt8) (k : Nat) : (rdT T k).set (T.getD k 0).toNat (UInt8.ofNat (k + 1)) = rdT T (k + 1) := by
  apply Rad.list_eq
  · rw [List.length_set, rdT_len, rdT_len]
  · intro i hi
    rw [List.length_set, rdT_len] at hi
    rw [set_getD _ _ _ _ (by rw [rdT_len]; exact (T.getD k 0).toNat_lt)]
    unfold rdT
    rw [Rad.getD_map, Rad.getD_map, if_pos hi, if_pos hi]
    by_cases h : i = (T.getD k 0).toNat
    · rw [if_pos h]
      have : T.getD k 0 = UInt8.ofNat i := by rw [h]; exact UInt8.ofNat_toNat.symm
      unfold Rad.rd
      rw [if_pos this]
    · rw [if_neg h]
      have : ¬ T.getD k 0 = UInt8.ofNat i := by
        intro e
        apply h
        rw [e, Rad.toNat_of hi]
      conv => rhs; unfold Rad.rd
      rw [if_neg this]
theorem rdT_at (T : List UInt8) (k : Nat) (c : UInt8) : (rdT T k).getD c.toNat 0 = UInt8.ofNat (Rad.rd T k c) := by
  unfold rdT
  rw [Rad.getD_map, if_pos c.toNat_lt, UInt8.ofNat_toNat]

theorem size256 : (Tryz.prog.info? 99).map (·.size) = some 256 := by kernel_rfl

def zero256 : Array Value := (List.replicate 256 (Value.int .u8 0)).toArray
theorem zero256_run (w : World) : (zeroValue 99).run Tryz.prog w = .ok (.agg zero256) w := by kernel_rfl

end Go.Proofs.YtiplhmamcghehaaGreatDoor.radw
