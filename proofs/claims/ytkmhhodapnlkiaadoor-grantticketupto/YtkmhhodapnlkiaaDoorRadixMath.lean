namespace Go.Proofs.YtkmhhodapnlkiaaDoor.Rad

/-- a byte of a text, 0 behind its end -/
def g (l : List UInt8) (i : Nat) : Nat := (l.getD i 0).toNat

theorem g_lt (l : List UInt8) (i : Nat) : g l i < 256 := (l.getD i 0).toNat_lt

/-- the bit i of a text, each byte's highest first -/
def bit (l : List UInt8) (i : Nat) : Nat := g l (i / 8) / 2 ^ (7 - i % 8) % 2

/-- a group of n bits from bit i on, of any row of bits -/
def grp (b : Nat → Nat) (i : Nat) : Nat → Nat
  | 0 => 0
  | n + 1 => 2 * grp b i n + b (i + n)

/-- a number of six bits -/
def six (l : List UInt8) (m : Nat) : Nat :=
  match m % 4 with
  | 0 => g l (m / 4 * 3) / 4
  | 1 => g l (m / 4 * 3) % 4 * 16 + g l (m / 4 * 3 + 1) / 16
  | 2 => g l (m / 4 * 3 + 1) % 16 * 4 + g l (m / 4 * 3 + 2) / 64
  | _ => g l (m / 4 * 3 + 2) % 64

/-- a number of four bits -/
def four (l : List UInt8) (m : Nat) : Nat := if m % 2 = 0 then g l (m / 2) / 16 else g l (m / 2) % 16

theorem bit_at (l : List UInt8) (q r : Nat) (hr : r < 8) : bit l (8 * q + r) = g l q / 2 ^ (7 - r) % 2 := by
  unfold bit
  rw [show (8 * q + r) / 8 = q by omega, show (8 * q + r) % 8 = r by omega]

theorem bit_lt (l : List UInt8) (i : Nat) : bit l i < 2 := by unfold bit; omega

theorem grp6 (b : Nat → Nat) (i : Nat) : grp b i 6 = 2 * (2 * (2 * (2 * (2 * (2 * 0 + b (i + 0)) + b (i + 1)) + b (i + 2)) + b (i + 3)) + b (i + 4)) + b (i + 5) := rfl

theorem six_bits (l : List UInt8) (m : Nat) : grp (bit l) (6 * m) 6 = six l m := by
  obtain ⟨i, r, hr, rfl⟩ : ∃ i r, r < 4 ∧ m = 4 * i + r := ⟨m / 4, m % 4, by omega, by omega⟩
  have h0 := g_lt l (3 * i)
  have h1 := g_lt l (3 * i + 1)
  have h2 := g_lt l (3 * i + 2)
  unfold six
  rw [show (4 * i + r) % 4 = r by omega, show (4 * i + r) / 4 * 3 = 3 * i by omega, grp6]
  generalize e0 : g l (3 * i) = a at *
  generalize e1 : g l (3 * i + 1) = b at *
  generalize e2 : g l (3 * i + 2) = c at *
  have B0 : ∀ k, k < 8 → bit l (8 * (3 * i) + k) = a / 2 ^ (7 - k) % 2 := fun k hk => by rw [bit_at _ _ _ hk, e0]
  have B1 : ∀ k, k < 8 → bit l (8 * (3 * i + 1) + k) = b / 2 ^ (7 - k) % 2 := fun k hk => by rw [bit_at _ _ _ hk, e1]
  have B2 : ∀ k, k < 8 → bit l (8 * (3 * i + 2) + k) = c / 2 ^ (7 - k) % 2 := fun k hk => by rw [bit_at _ _ _ hk, e2]
  match r, hr with
  | 0, _ =>
    rw [show 6 * (4 * i + 0) + 0 = 8 * (3 * i) + 0 by omega, show 6 * (4 * i + 0) + 1 = 8 * (3 * i) + 1 by omega, show 6 * (4 * i + 0) + 2 = 8 * (3 * i) + 2 by omega, show 6 * (4 * i + 0) + 3 = 8 * (3 * i) + 3 by omega, show 6 * (4 * i + 0) + 4 = 8 * (3 * i) + 4 by omega, show 6 * (4 * i + 0) + 5 = 8 * (3 * i) + 5 by omega]
    rw [B0 0 (by decide), B0 1 (by decide), B0 2 (by decide), B0 3 (by decide), B0 4 (by decide), B0 5 (by decide)]
    simp only [Nat.reduceSub, Nat.reducePow]
    omega
  | 1, _ =>
    rw [show 6 * (4 * i + 1) + 0 = 8 * (3 * i) + 6 by omega, show 6 * (4 * i + 1) + 1 = 8 * (3 * i) + 7 by omega, show 6 * (4 * i + 1) + 2 = 8 * (3 * i + 1) + 0 by omega, show 6 * (4 * i + 1) + 3 = 8 * (3 * i + 1) + 1 by omega, show 6 * (4 * i + 1) + 4 = 8 * (3 * i + 1) + 2 by omega, show 6 * (4 * i + 1) + 5 = 8 * (3 * i + 1) + 3 by omega]
    rw [B0 6 (by decide), B0 7 (by decide), B1 0 (by decide), B1 1 (by decide), B1 2 (by decide), B1 3 (by decide)]
    simp only [Nat.reduceSub, Nat.reducePow]
    omega
  | 2, _ =>
    rw [show 6 * (4 * i + 2) + 0 = 8 * (3 * i + 1) + 4 by omega, show 6 * (4 * i + 2) + 1 = 8 * (3 * i + 1) + 5 by omega, show 6 * (4 * i + 2) + 2 = 8 * (3 * i + 1) + 6 by omega, show 6 * (4 * i + 2) + 3 = 8 * (3 * i + 1) + 7 by omega, show 6 * (4 * i + 2) + 4 = 8 * (3 * i + 2) + 0 by omega, show 6 * (4 * i + 2) + 5 = 8 * (3 * i + 2) + 1 by omega]
    rw [B1 4 (by decide), B1 5 (by decide), B1 6 (by decide), B1 7 (by decide), B2 0 (by decide), B2 1 (by decide)]
    simp only [Nat.reduceSub, Nat.reducePow]
    omega
  | 3, _ =>
    rw [show 6 * (4 * i + 3) + 0 = 8 * (3 * i + 2) + 2 by omega, show 6 * (4 * i + 3) + 1 = 8 * (3 * i + 2) + 3 by omega, show 6 * (4 * i + 3) + 2 = 8 * (3 * i + 2) + 4 by omega, show 6 * (4 * i + 3) + 3 = 8 * (3 * i + 2) + 5 by omega, show 6 * (4 * i + 3) + 4 = 8 * (3 * i + 2) + 6 by omega, show 6 * (4 * i + 3) + 5 = 8 * (3 * i + 2) + 7 by omega]
    rw [B2 2 (by decide), B2 3 (by decide), B2 4 (by decide), B2 5 (by decide), B2 6 (by decide), B2 7 (by decide)]
    simp only [Nat.reduceSub, Nat.reducePow]
    omega

theorem grp4 (b : Nat → Nat) (i : Nat) : grp b i 4 = 2 * (2 * (2 * (2 * 0 + b (i + 0)) + b (i + 1)) + b (i + 2)) + b (i + 3) := rfl

theorem four_bits (l : List UInt8) (m : Nat) : grp (bit l) (4 * m) 4 = four l m := by
  obtain ⟨i, r, hr, rfl⟩ : ∃ i r, r < 2 ∧ m = 2 * i + r := ⟨m / 2, m % 2, by omega, by omega⟩
  have h0 := g_lt l i
  unfold four
  rw [show (2 * i + r) % 2 = r by omega, show (2 * i + r) / 2 = i by omega, grp4]
  generalize e0 : g l i = a at *
  have B0 : ∀ k, k < 8 → bit l (8 * i + k) = a / 2 ^ (7 - k) % 2 := fun k hk => by rw [bit_at _ _ _ hk, e0]
  match r, hr with
  | 0, _ =>
    rw [show 4 * (2 * i + 0) + 0 = 8 * i + 0 by omega, show 4 * (2 * i + 0) + 1 = 8 * i + 1 by omega, show 4 * (2 * i + 0) + 2 = 8 * i + 2 by omega, show 4 * (2 * i + 0) + 3 = 8 * i + 3 by omega]
    rw [B0 0 (by decide), B0 1 (by decide), B0 2 (by decide), B0 3 (by decide), if_pos rfl]
    simp only [Nat.reduceSub, Nat.reducePow]
    omega
  | 1, _ =>
    rw [show 4 * (2 * i + 1) + 0 = 8 * i + 4 by omega, show 4 * (2 * i + 1) + 1 = 8 * i + 5 by omega, show 4 * (2 * i + 1) + 2 = 8 * i + 6 by omega, show 4 * (2 * i + 1) + 3 = 8 * i + 7 by omega]
    rw [B0 4 (by decide), B0 5 (by decide), B0 6 (by decide), B0 7 (by decide), if_neg (by decide)]
    simp only [Nat.reduceSub, Nat.reducePow]
    omega

theorem six_lt (l : List UInt8) (m : Nat) : six l m < 64 := by
  have h0 := g_lt l (m / 4 * 3)
  have h1 := g_lt l (m / 4 * 3 + 1)
  have h2 := g_lt l (m / 4 * 3 + 2)
  unfold six
  split <;> omega

theorem four_lt (l : List UInt8) (m : Nat) : four l m < 16 := by
  have h0 := g_lt l (m / 2)
  unfold four
  split <;> omega

/-- the letters of the three ways -/
def urlT : List UInt8 := [65, 66, 67, 68, 69, 70, 71, 72, 73, 74, 75, 76, 77, 78, 79, 80, 81, 82, 83, 84, 85, 86, 87, 88, 89, 90, 97, 98, 99, 100, 101, 102, 103, 104, 105, 106, 107, 108, 109, 110, 111, 112, 113, 114, 115, 116, 117, 118, 119, 120, 121, 122, 48, 49, 50, 51, 52, 53, 54, 55, 56, 57, 45, 95]
def stdT : List UInt8 := [65, 66, 67, 68, 69, 70, 71, 72, 73, 74, 75, 76, 77, 78, 79, 80, 81, 82, 83, 84, 85, 86, 87, 88, 89, 90, 97, 98, 99, 100, 101, 102, 103, 104, 105, 106, 107, 108, 109, 110, 111, 112, 113, 114, 115, 116, 117, 118, 119, 120, 121, 122, 48, 49, 50, 51, 52, 53, 54, 55, 56, 57, 43, 47]
def hexT : List UInt8 := [48, 49, 50, 51, 52, 53, 54, 55, 56, 57, 97, 98, 99, 100, 101, 102]

/-- how many letters -/
def n6 (n : Nat) : Nat := (8 * n + 5) / 6

/-- the numbers of a text, six bits each, in letters of a table -/
def b64 (T l : List UInt8) : List UInt8 := (List.range (n6 l.length)).map fun m => T.getD (six l m) 0
def hex (l : List UInt8) : List UInt8 := (List.range (2 * l.length)).map fun m => hexT.getD (four l m) 0
/-- what is put behind them -/
def pad (n : Nat) : List UInt8 := List.replicate ((4 - n % 4) % 4) 61
def std (l : List UInt8) : List UInt8 := b64 stdT l ++ pad (n6 l.length)

theorem b64_len (T l : List UInt8) : (b64 T l).length = n6 l.length := by simp [b64]
theorem hex_len (l : List UInt8) : (hex l).length = 2 * l.length := by simp [hex]

end Go.Proofs.YtkmhhodapnlkiaaDoor.Rad
