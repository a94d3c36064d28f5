import Derived.Test.YtimbhneegphhbaaGreatDoorRadixMath
namespace Go.Proofs.YtimbhneegphhbaaGreatDoor.Rad

theorem getD_map (n : Nat) (f : Nat → UInt8) (i : Nat) : ((List.range n).map f).getD i 0 = if i < n then f i else 0 := by
  rw [List.getD_eq_getElem?_getD, List.getElem?_map]
  by_cases h : i < n
  · rw [List.getElem?_range h, if_pos h]; rfl
  · rw [List.getElem?_eq_none (by simpa using h), if_neg h]; rfl

theorem list_eq {a b : List UInt8} (hl : a.length = b.length) (h : ∀ i, i < a.length → a.getD i 0 = b.getD i 0) : a = b := by
  apply List.ext_getElem hl
  intro i h1 h2
  have := h i h1
  rw [List.getD_eq_getElem?_getD, List.getD_eq_getElem?_getD, List.getElem?_eq_getElem h1, List.getElem?_eq_getElem h2] at this
  simpa using this

theorem getD_out {l : List UInt8} {i : Nat} (h : l.length ≤ i) : l.getD i 0 = 0 := by
  rw [List.getD_eq_getElem?_getD, List.getElem?_eq_none h]; rfl

/-- one more than the place of a letter in a table, of its first k; 0: it is none -/
def rd (T : List UInt8) : Nat → UInt8 → Nat
  | 0, _ => 0
  | k + 1, c => if T.getD k 0 = c then k + 1 else rd T k c

theorem rd_le (T : List UInt8) (k : Nat) (c : UInt8) : rd T k c ≤ k := by
  induction k with
  | zero => simp [rd]
  | succ k ih => unfold rd; split <;> omega

theorem rd_spec (T : List UInt8) (k : Nat) (c : UInt8) (h : rd T k c ≠ 0) : T.getD (rd T k c - 1) 0 = c := by
  induction k with
  | zero => simp [rd] at h
  | succ k ih =>
    unfold rd at h ⊢
    split
    · rename_i e; simpa using e
    · rename_i e; rw [if_neg e] at h; exact ih h

theorem rd_none (T : List UInt8) (k : Nat) (c : UInt8) (h : ∀ j, j < k → T.getD j 0 ≠ c) : rd T k c = 0 := by
  induction k with
  | zero => rfl
  | succ k ih => unfold rd; rw [if_neg (h k (by omega))]; exact ih fun j hj => h j (by omega)

/-- a table that serves: its letters differ -/
structure Good (T : List UInt8) (n : Nat) : Prop where
  len : T.length = n
  back : ∀ i, i < n → rd T n (T.getD i 0) = i + 1
  eqs : rd T n 61 = 0
  zero : rd T n 0 = 0

theorem urlGood : Good urlT 64 := ⟨rfl, fun i hi => (show ∀ i : Fin 64, rd urlT 64 (urlT.getD i.val 0) = i.val + 1 by decide +kernel) ⟨i, hi⟩, by decide +kernel, by decide +kernel⟩
/-- the number of the letter i of a text -/
def num (T : List UInt8) (n : Nat) (s : List UInt8) (i : Nat) : Nat := rd T n (s.getD i 0) - 1

theorem num_lt {T : List UInt8} {n : Nat} (hn : 0 < n) (s : List UInt8) (i : Nat) : num T n s i < n := by
  have := rd_le T n (s.getD i 0); unfold num; omega

theorem num_at {T : List UInt8} {n : Nat} {s : List UInt8} {i : Nat} (h : rd T n (s.getD i 0) ≠ 0) : T.getD (num T n s i) 0 = s.getD i 0 := rd_spec T n _ h

/-- a byte out of numbers of six bits -/
def byt (x : Nat → Nat) (m : Nat) : Nat :=
  match m % 3 with
  | 0 => x (m / 3 * 4) * 4 + x (m / 3 * 4 + 1) / 16
  | 1 => x (m / 3 * 4 + 1) % 16 * 16 + x (m / 3 * 4 + 2) / 4
  | _ => x (m / 3 * 4 + 2) % 4 * 64 + x (m / 3 * 4 + 3)

theorem byt_lt (x : Nat → Nat) (hx : ∀ i, x i < 64) (m : Nat) : byt x m < 256 := by
  have h0 := hx (m / 3 * 4)
  have h1 := hx (m / 3 * 4 + 1)
  have h2 := hx (m / 3 * 4 + 2)
  have h3 := hx (m / 3 * 4 + 3)
  unfold byt; split <;> omega

def n8 (n : Nat) : Nat := 6 * n / 8

def un64 (T s : List UInt8) : List UInt8 := (List.range (n8 s.length)).map fun m => UInt8.ofNat (byt (num T 64 s) m)

theorem un64_len (T s : List UInt8) : (un64 T s).length = n8 s.length := by simp [un64]

theorem toNat_of {n : Nat} (h : n < 256) : (UInt8.ofNat n).toNat = n := by
  simp only [UInt8.toNat_ofNat']; omega

theorem g_un64 (T s : List UInt8) (m : Nat) (hm : m < n8 s.length) : g (un64 T s) m = byt (num T 64 s) m := by
  unfold g un64
  rw [getD_map, if_pos hm, toNat_of (byt_lt _ (num_lt (by decide) s) m)]

theorem g_out {l : List UInt8} {i : Nat} (h : l.length ≤ i) : g l i = 0 := by unfold g; rw [getD_out h]; rfl

/-- the bits that are no byte's are 0 -/
def restOk (T s : List UInt8) : Prop := s.length % 4 ≠ 1 ∧ (s.length % 4 = 2 → num T 64 s (s.length - 1) % 16 = 0) ∧ (s.length % 4 = 3 → num T 64 s (s.length - 1) % 4 = 0)

def valid (T : List UInt8) (n : Nat) (s : List UInt8) : Prop := ∀ i, i < s.length → rd T n (s.getD i 0) ≠ 0

theorem quarters (n : Nat) : ∃ k, (n = 4 * k ∧ n8 n = 3 * k) ∨ (n = 4 * k + 1 ∧ n8 n = 3 * k) ∨ (n = 4 * k + 2 ∧ n8 n = 3 * k + 1) ∨ (n = 4 * k + 3 ∧ n8 n = 3 * k + 2) := by
  refine ⟨n / 4, ?_⟩
  obtain ⟨k, q, hq, rfl⟩ : ∃ k q, q < 4 ∧ n = 4 * k + q := ⟨n / 4, n % 4, by omega, by omega⟩
  rw [show (4 * k + q) / 4 = k by omega]
  unfold n8
  match q, hq with
  | 0, _ => exact Or.inl ⟨rfl, by omega⟩
  | 1, _ => exact Or.inr (Or.inl ⟨rfl, by omega⟩)
  | 2, _ => exact Or.inr (Or.inr (Or.inl ⟨rfl, by omega⟩))
  | 3, _ => exact Or.inr (Or.inr (Or.inr ⟨rfl, by omega⟩))

theorem n6n8 {n : Nat} (h : n % 4 ≠ 1) : n6 (n8 n) = n := by
  obtain ⟨k, hk⟩ := quarters n
  unfold n6
  omega

theorem six_un64 (T s : List UInt8) (hr : restOk T s) (m : Nat) (hm : m < s.length) : six (un64 T s) m = num T 64 s m := by
  obtain ⟨hr1, hr2, hr3⟩ := hr
  obtain ⟨i, r, h4, rfl⟩ : ∃ i r, r < 4 ∧ m = 4 * i + r := ⟨m / 4, m % 4, by omega, by omega⟩
  have hx := num_lt (T := T) (n := 64) (by decide) s
  have x0 := hx (4 * i)
  have x1 := hx (4 * i + 1)
  have x2 := hx (4 * i + 2)
  have x3 := hx (4 * i + 3)
  have G : ∀ k, k < 3 → 3 * i + k < n8 s.length → g (un64 T s) (3 * i + k) = byt (num T 64 s) (3 * i + k) := fun k _ h => g_un64 T s _ h
  have Z : ∀ k, n8 s.length ≤ 3 * i + k → g (un64 T s) (3 * i + k) = 0 := fun k h => g_out (by rw [un64_len]; exact h)
  have b0 : byt (num T 64 s) (3 * i + 0) = num T 64 s (4 * i) * 4 + num T 64 s (4 * i + 1) / 16 := by
    unfold byt; rw [show (3 * i + 0) % 3 = 0 by omega, show (3 * i + 0) / 3 * 4 = 4 * i by omega]; rfl
  have b1 : byt (num T 64 s) (3 * i + 1) = num T 64 s (4 * i + 1) % 16 * 16 + num T 64 s (4 * i + 2) / 4 := by
    unfold byt; rw [show (3 * i + 1) % 3 = 1 by omega, show (3 * i + 1) / 3 * 4 = 4 * i by omega]; rfl
  have b2 : byt (num T 64 s) (3 * i + 2) = num T 64 s (4 * i + 2) % 4 * 64 + num T 64 s (4 * i + 3) := by
    unfold byt; rw [show (3 * i + 2) % 3 = 2 by omega, show (3 * i + 2) / 3 * 4 = 4 * i by omega]; rfl
  unfold six
  rw [show (4 * i + r) % 4 = r by omega, show (4 * i + r) / 4 * 3 = 3 * i + 0 by omega]
  have hq := quarters s.length
  obtain ⟨k, hq⟩ := hq
  match r, h4 with
  | 0, _ =>
    show g (un64 T s) (3 * i + 0) / 4 = _
    rw [G 0 (by decide) (by omega), b0]; show _ = num T 64 s (4 * i); omega
  | 1, _ =>
    show g (un64 T s) (3 * i + 0) % 4 * 16 + g (un64 T s) (3 * i + 1) / 16 = _
    rw [G 0 (by decide) (by omega), b0]
    by_cases h : 3 * i + 1 < n8 s.length
    · rw [G 1 (by decide) h, b1]; omega
    · rw [Z 1 (by omega)]
      have := hr2 (by omega)
      rw [show s.length - 1 = 4 * i + 1 by omega] at this
      omega
  | 2, _ =>
    show g (un64 T s) (3 * i + 1) % 16 * 4 + g (un64 T s) (3 * i + 2) / 64 = _
    rw [G 1 (by decide) (by omega), b1]
    by_cases h : 3 * i + 2 < n8 s.length
    · rw [G 2 (by decide) h, b2]; omega
    · rw [Z 2 (by omega)]
      have := hr3 (by omega)
      rw [show s.length - 1 = 4 * i + 2 by omega] at this
      omega
  | 3, _ =>
    show g (un64 T s) (3 * i + 2) % 64 = _
    rw [G 2 (by decide) (by omega), b2]; omega

/-- what is read is written as it was -/
theorem b64_un64 (T s : List UInt8) (hv : valid T 64 s) (hr : restOk T s) : b64 T (un64 T s) = s := by
  have hl : (b64 T (un64 T s)).length = s.length := by
    rw [b64_len, un64_len, n6n8 hr.1]
  apply list_eq hl
  intro i hi
  rw [hl] at hi
  unfold b64
  rw [getD_map, if_pos (by rw [b64_len] at hl; omega), six_un64 T s hr i hi]
  exact num_at (hv i hi)

theorem rd_b64 {T : List UInt8} (hT : Good T 64) (l : List UInt8) (m : Nat) (hm : m < n6 l.length) : rd T 64 ((b64 T l).getD m 0) = six l m + 1 := by
  unfold b64
  rw [getD_map, if_pos hm]
  exact hT.back _ (six_lt l m)

theorem num_b64 {T : List UInt8} (hT : Good T 64) (l : List UInt8) (m : Nat) (hm : m < n6 l.length) : num T 64 (b64 T l) m = six l m := by
  unfold num; rw [rd_b64 hT l m hm]; omega

theorem valid_b64 {T : List UInt8} (hT : Good T 64) (l : List UInt8) : valid T 64 (b64 T l) := by
  intro i hi
  rw [b64_len] at hi
  rw [rd_b64 hT l i hi]; omega

theorem six_at1 (l : List UInt8) (k : Nat) : six l (4 * k + 1) = g l (3 * k) % 4 * 16 + g l (3 * k + 1) / 16 := by
  unfold six; rw [show (4 * k + 1) % 4 = 1 by omega, show (4 * k + 1) / 4 * 3 = 3 * k by omega]; rfl
theorem six_at2 (l : List UInt8) (k : Nat) : six l (4 * k + 2) = g l (3 * k + 1) % 16 * 4 + g l (3 * k + 2) / 64 := by
  unfold six; rw [show (4 * k + 2) % 4 = 2 by omega, show (4 * k + 2) / 4 * 3 = 3 * k by omega]; rfl
theorem rest_b64 {T : List UInt8} (hT : Good T 64) (l : List UInt8) : restOk T (b64 T l) := by
  unfold restOk
  rw [b64_len]
  refine ⟨by unfold n6; omega, fun h => ?_, fun h => ?_⟩
  · rw [num_b64 hT l _ (by unfold n6 at h ⊢; omega)]
    obtain ⟨k, hk⟩ : ∃ k, l.length = 3 * k + 1 := ⟨l.length / 3, by unfold n6 at h; omega⟩
    rw [show n6 l.length - 1 = 4 * k + 1 by unfold n6; omega, six_at1, g_out (show l.length ≤ 3 * k + 1 by omega)]
    omega
  · rw [num_b64 hT l _ (by unfold n6 at h ⊢; omega)]
    obtain ⟨k, hk⟩ : ∃ k, l.length = 3 * k + 2 := ⟨l.length / 3, by unfold n6 at h; omega⟩
    rw [show n6 l.length - 1 = 4 * k + 2 by unfold n6; omega, six_at2, g_out (show l.length ≤ 3 * k + 2 by omega)]
    omega

/-- when the document's reader takes a text -/
theorem taken64 {T : List UInt8} (hT : Good T 64) (s : List UInt8) : b64 T (un64 T s) = s ↔ valid T 64 s ∧ restOk T s := by
  constructor
  · intro h; rw [← h]; exact ⟨valid_b64 hT _, rest_b64 hT _⟩
  · exact fun h => b64_un64 T s h.1 h.2

end Go.Proofs.YtimbhneegphhbaaGreatDoor.Rad
