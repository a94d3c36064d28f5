import Derived.Test.YtdkbjefphihplacDoorRadixBack
namespace Go.Proofs.YtdkbjefphihplacDoor.Rad

/-- the bit i of a row of numbers of n bits each -/
def nb (x : Nat → Nat) (n i : Nat) : Nat := x (i / n) / 2 ^ (n - 1 - i % n) % 2
theorem nb_lt (x : Nat → Nat) (n i : Nat) : nb x n i < 2 := by unfold nb; omega
theorem nb_at (x : Nat → Nat) (n q r : Nat) (hr : r < n) : nb x n (n * q + r) = x q / 2 ^ (n - 1 - r) % 2 := by
  unfold nb
  have h1 : (n * q + r) / n = q := by
    rw [Nat.mul_comm, Nat.add_comm, Nat.add_mul_div_right _ _ (by omega), Nat.div_eq_of_lt hr, Nat.zero_add]
  have h2 : (n * q + r) % n = r := by rw [Nat.mul_add_mod, Nat.mod_eq_of_lt hr]
  rw [h1, h2]
theorem grp8 (b : Nat → Nat) (i : Nat) : grp b i 8 = 2 * (2 * (2 * (2 * (2 * (2 * (2 * (2 * 0 + b (i + 0)) + b (i + 1)) + b (i + 2)) + b (i + 3)) + b (i + 4)) + b (i + 5)) + b (i + 6)) + b (i + 7) := rfl

theorem four_bytes (x : Nat → Nat) (hx : ∀ i, x i < 16) (m : Nat) : grp (nb x 4) (8 * m) 8 = x (2 * m) * 16 + x (2 * m + 1) := by
  have h0 := hx (2 * m)
  have h1 := hx (2 * m + 1)
  rw [grp8]
  rw [show 8 * m + 0 = 4 * (2 * m) + 0 by omega, show 8 * m + 1 = 4 * (2 * m) + 1 by omega, show 8 * m + 2 = 4 * (2 * m) + 2 by omega, show 8 * m + 3 = 4 * (2 * m) + 3 by omega, show 8 * m + 4 = 4 * (2 * m + 1) + 0 by omega, show 8 * m + 5 = 4 * (2 * m + 1) + 1 by omega, show 8 * m + 6 = 4 * (2 * m + 1) + 2 by omega, show 8 * m + 7 = 4 * (2 * m + 1) + 3 by omega]
  rw [nb_at x 4 (2 * m) 0 (by decide), nb_at x 4 (2 * m) 1 (by decide), nb_at x 4 (2 * m) 2 (by decide), nb_at x 4 (2 * m) 3 (by decide), nb_at x 4 (2 * m + 1) 0 (by decide), nb_at x 4 (2 * m + 1) 1 (by decide), nb_at x 4 (2 * m + 1) 2 (by decide), nb_at x 4 (2 * m + 1) 3 (by decide)]
  simp only [Nat.reduceSub, Nat.reducePow]
  omega

theorem six_bytes (x : Nat → Nat) (hx : ∀ i, x i < 64) (m : Nat) : grp (nb x 6) (8 * m) 8 = byt x m := by
  obtain ⟨i, r, hr, rfl⟩ : ∃ i r, r < 3 ∧ m = 3 * i + r := ⟨m / 3, m % 3, by omega, by omega⟩
  have h0 := hx (4 * i)
  have h1 := hx (4 * i + 1)
  have h2 := hx (4 * i + 2)
  have h3 := hx (4 * i + 3)
  unfold byt
  rw [show (3 * i + r) % 3 = r by omega, show (3 * i + r) / 3 * 4 = 4 * i by omega, grp8]
  match r, hr with
  | 0, _ =>
    rw [show 8 * (3 * i + 0) + 0 = 6 * (4 * i) + 0 by omega, show 8 * (3 * i + 0) + 1 = 6 * (4 * i) + 1 by omega, show 8 * (3 * i + 0) + 2 = 6 * (4 * i) + 2 by omega, show 8 * (3 * i + 0) + 3 = 6 * (4 * i) + 3 by omega, show 8 * (3 * i + 0) + 4 = 6 * (4 * i) + 4 by omega, show 8 * (3 * i + 0) + 5 = 6 * (4 * i) + 5 by omega, show 8 * (3 * i + 0) + 6 = 6 * (4 * i + 1) + 0 by omega, show 8 * (3 * i + 0) + 7 = 6 * (4 * i + 1) + 1 by omega]
    rw [nb_at x 6 (4 * i) 0 (by decide), nb_at x 6 (4 * i) 1 (by decide), nb_at x 6 (4 * i) 2 (by decide), nb_at x 6 (4 * i) 3 (by decide), nb_at x 6 (4 * i) 4 (by decide), nb_at x 6 (4 * i) 5 (by decide), nb_at x 6 (4 * i + 1) 0 (by decide), nb_at x 6 (4 * i + 1) 1 (by decide)]
    simp only [Nat.reduceSub, Nat.reducePow]
    omega
  | 1, _ =>
    rw [show 8 * (3 * i + 1) + 0 = 6 * (4 * i + 1) + 2 by omega, show 8 * (3 * i + 1) + 1 = 6 * (4 * i + 1) + 3 by omega, show 8 * (3 * i + 1) + 2 = 6 * (4 * i + 1) + 4 by omega, show 8 * (3 * i + 1) + 3 = 6 * (4 * i + 1) + 5 by omega, show 8 * (3 * i + 1) + 4 = 6 * (4 * i + 2) + 0 by omega, show 8 * (3 * i + 1) + 5 = 6 * (4 * i + 2) + 1 by omega, show 8 * (3 * i + 1) + 6 = 6 * (4 * i + 2) + 2 by omega, show 8 * (3 * i + 1) + 7 = 6 * (4 * i + 2) + 3 by omega]
    rw [nb_at x 6 (4 * i + 1) 2 (by decide), nb_at x 6 (4 * i + 1) 3 (by decide), nb_at x 6 (4 * i + 1) 4 (by decide), nb_at x 6 (4 * i + 1) 5 (by decide), nb_at x 6 (4 * i + 2) 0 (by decide), nb_at x 6 (4 * i + 2) 1 (by decide), nb_at x 6 (4 * i + 2) 2 (by decide), nb_at x 6 (4 * i + 2) 3 (by decide)]
    simp only [Nat.reduceSub, Nat.reducePow]
    omega
  | 2, _ =>
    rw [show 8 * (3 * i + 2) + 0 = 6 * (4 * i + 2) + 4 by omega, show 8 * (3 * i + 2) + 1 = 6 * (4 * i + 2) + 5 by omega, show 8 * (3 * i + 2) + 2 = 6 * (4 * i + 3) + 0 by omega, show 8 * (3 * i + 2) + 3 = 6 * (4 * i + 3) + 1 by omega, show 8 * (3 * i + 2) + 4 = 6 * (4 * i + 3) + 2 by omega, show 8 * (3 * i + 2) + 5 = 6 * (4 * i + 3) + 3 by omega, show 8 * (3 * i + 2) + 6 = 6 * (4 * i + 3) + 4 by omega, show 8 * (3 * i + 2) + 7 = 6 * (4 * i + 3) + 5 by omega]
    rw [nb_at x 6 (4 * i + 2) 4 (by decide), nb_at x 6 (4 * i + 2) 5 (by decide), nb_at x 6 (4 * i + 3) 0 (by decide), nb_at x 6 (4 * i + 3) 1 (by decide), nb_at x 6 (4 * i + 3) 2 (by decide), nb_at x 6 (4 * i + 3) 3 (by decide), nb_at x 6 (4 * i + 3) 4 (by decide), nb_at x 6 (4 * i + 3) 5 (by decide)]
    simp only [Nat.reduceSub, Nat.reducePow]
    omega

theorem un64_bits (T s : List UInt8) : (List.range (6 * s.length / 8)).map (fun m => UInt8.ofNat (grp (nb (num T 64 s) 6) (8 * m) 8)) = un64 T s := by
  unfold un64 n8
  congr 1
  funext m
  rw [six_bytes _ (num_lt (by decide) s)]
theorem unhex_bits (s : List UInt8) : (List.range (4 * s.length / 8)).map (fun m => UInt8.ofNat (grp (nb (num hexT 16 s) 4) (8 * m) 8)) = unhex s := by
  unfold unhex
  rw [show 4 * s.length / 8 = s.length / 2 by omega]
  congr 1
  funext m
  rw [four_bytes _ (num_lt (by decide) s)]

end Go.Proofs.YtdkbjefphihplacDoor.Rad
