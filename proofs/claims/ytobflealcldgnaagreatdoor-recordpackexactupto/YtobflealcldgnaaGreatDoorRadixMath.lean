import Derived.Test.YtobflealcldgnaaGreatDoorRcList
import Derived.Deep.RegionHeld3
namespace Go.Proofs.YtobflealcldgnaaGreatDoor.rc
open Go.ChangeShapes Go.WideShapes Go.ChangeAt Go.RowKit Go.Proofs.YtobflealcldgnaaGreatDoor.common Go.Proofs.YtobflealcldgnaaGreatDoor.bk Go.Proofs.YtobflealcldgnaaGreatDoor.ss Go.Proofs.YtobflealcldgnaaGreatDoor.tm
attribute [local go_sem ↓] Go.wp_at_zero Go.wp_at_succ

theorem bdN' {b : Nat} {a c : World} (h : Below b a c) (n : Nat) : Below b a (c.drewN n) := ⟨h.1, h.2, h.3, h.4, h.5⟩
theorem getD_at (l : List ByteArray) (i : Nat) (h : i < l.length) : l.getD i ByteArray.empty = l[i] := by simp [List.getD, h]
set_option maxRecDepth 100000 in
set_option maxHeartbeats 1600000 in
theorem isRising_any (v : Value) (l : List ByteArray) (w : World) (hL : Lies w v l) (hl : l.length ≤ 4611686018427387904) :
    Calls Tryz.prog 54 #[v] w fun e w' => e = .returned (.bool (risB l)) ∧ Below w.heap.size w w' := by
  have HL := hide hL
  obtain ⟨oa, cap, rfl⟩ := Lies.len hL
  clear hL
  have HT : Hid (ris l (l.length - 1) → risB l = true) := fun h => decide_eq_true (fun i h1 h2 => h i (by omega) h2)
  have HN : Hid (∀ i, i + 1 < l.length → ¬ (l.getD i ByteArray.empty).data.toList < (l.getD (i + 1) ByteArray.empty).data.toList → risB l = false) := fun i h1 h2 => decide_eq_false (fun h => h2 (h i (by omega) h1))
  go_enter Tryz.func54, Tryz.ntmps54
  go_wp2
  go_loopw [7] (fun i wr => ∃ k : Nat, (k = 0 ∨ k < l.length) ∧ i = .int .i64 k ∧ ris l k ∧ Below w.heap.size w wr) (fun i _ => l.length - (intOf i).toNat)
  case atStart => exact ⟨0, Or.inl rfl, rfl, fun i h => absurd h (Nat.not_lt_zero _), Below.refl _ _⟩
  case round =>
    obtain ⟨k, hk, rfl, hr, hnx⟩ := hrel
    have HR := hide hr
    have HX := hide hnx
    by_cases hlt : k + 1 < l.length
    · have k1 : (k : Int) < (l.length : Int) - 1 := by omega
      have k0 : (0 : Int) ≤ (k : Int) := Int.natCast_nonneg _
      have k2 : (k : Int) < (l.length : Int) := by omega
      have k3 : (k : Int) + 1 < (l.length : Int) := by omega
      have k4 : (0 : Int) ≤ (k : Int) + 1 := by omega
      obtain ⟨_, _, hv, hc⟩ := HL.out.below hnx
      cases hv
      obtain ⟨b, o, rfl, hb, c0⟩ := hc k (by omega)
      obtain ⟨b', o', he, hb', c1⟩ := hc (k + 1) hlt
      cases he
      have HNK := hide (HN.out k hlt)
      rw [getD_at l k (by omega), getD_at l (k + 1) hlt] at HNK
      have HRS : Hid (l[k].data.toList < l[k + 1].data.toList → ris l (k + 1)) := fun h i h1 h2 => by
        by_cases hik : i < k
        · exact HR.out i hik h2
        · obtain rfl : i = k := by omega
          rw [getD_at l i (by omega), getD_at l (i + 1) hlt]; exact h
      have hg := lessB l[k] l[k + 1]
      generalize l[k] = s at *
      generalize l[k + 1] = t at *
      have c2 := c1
      rw [← Nat.add_assoc] at c2
      have hw : IntKind.i64.wrap ((k : Int) + 1) = (k : Int) + 1 := by unfold IntKind.wrap; simp [IntKind.signed, IntKind.bits]; omega
      clear hr hnx hc HN
      by_cases hst : s.data.toList < t.data.toList
      · rw [decide_eq_true hst] at hg
        have HS := hide hst
        clear hst
        go_wp2_with fail
        go_quiet (fail)
        go_wp2_with fail
        go_roundw
        case rel => exact ⟨k + 1, Or.inr hlt, by go_num, HRS.out HS.out, bdN' HX.out nq⟩
        case measure => simp [intOf]; omega
      · rw [decide_eq_false hst] at hg
        have HS := hide (HNK.out hst)
        clear hst
        go_wp2_with fail
        go_quiet (fail)
        go_wp2_with fail
        go_ret
        exact ⟨by rw [HS.out]; rfl, bdN' HX.out nq⟩
    · have k1 : ¬ ((k : Int) < (l.length : Int) - 1) := by omega
      have HS : Hid (risB l = true) := HT.out (fun i h1 h2 => hr i (by omega) h2)
      clear hr hnx
      go_wp2_with fail
      go_ret
      exact ⟨by rw [HS.out]; rfl, HX.out⟩

set_option maxRecDepth 100000 in
set_option maxHeartbeats 1600000 in
/-- is the list just one text? -/
theorem equalOne_any (v : Value) (l : List ByteArray) (s : ByteArray) (b : Nat) (w : World) (hL : Lies w v l) (hl : l.length ≤ 4611686018427387904) (hb : w.cell? ⟨b, 0, none⟩ = some (.string s)) :
    Calls Tryz.prog 78 #[v, .slice (some ⟨b, 0, none⟩) 1 1] w fun e w' => e = .returned (.bool (decide (l = [s]))) ∧ Below w.heap.size w w' := by
  obtain ⟨oa, cap, rfl, hc⟩ := hL
  by_cases h1 : l.length = 1
  · obtain ⟨t, rfl⟩ : ∃ t, l = [t] := by
      cases l with
      | nil => cases h1
      | cons a r =>
        cases r with
        | nil => exact ⟨a, rfl⟩
        | cons c r => simp at h1
    obtain ⟨b', o', he, hb', c0⟩ := hc 0 (by simp)
    subst he
    simp only [Nat.add_zero, List.getElem_cons_zero] at c0
    clear hc h1 hl
    by_cases hst : t = s
    · subst hst
      have HR : Hid (decide ([t] = [t]) = true) := decide_eq_true rfl
      go_enter Tryz.func78, Tryz.ntmps78
      go_wp2
      go_loopw [13] (fun i wr => ∃ k : Nat, k ≤ 1 ∧ i = .int .i64 k ∧ Below w.heap.size w wr ∧ wr.cell? ⟨b', o', none⟩ = some (.string t) ∧ wr.cell? ⟨b, 0, none⟩ = some (.string t)) (fun i _ => 1 - (intOf i).toNat)
      case atStart => exact ⟨0, by decide, rfl, Below.refl _ _, c0, hb⟩
      case round =>
        obtain ⟨k, hk, rfl, hnx, d0, d1⟩ := hrel
        have HX := hide hnx
        clear hnx c0 hb
        by_cases hlt : k < 1
        · obtain rfl : k = 0 := by omega
          go_wp2_with fail
          go_quiet (fail)
          go_wp2_with fail
          go_roundw
          case rel => exact ⟨1, by decide, rfl, bdN' HX.out nq, d0, d1⟩
          case measure => simp [intOf]
        · have k1 : ¬ ((k : Int) < 1) := by omega
          clear d0 d1 HR
          go_wp2_with fail
          go_ret
          exact ⟨by simp, HX.out⟩
    · have HR : Hid (decide ([t] = [s]) = false) := decide_eq_false (fun h => hst (by simpa using h))
      have hne : (t.toList == s.toList) = false := beq_false_of_ne (fun h => hst (ba_ext (by rw [ByteArray.toList_eq, ByteArray.toList_eq] at h; exact h)))
      have hne' : (t.data.toList == s.data.toList) = false := by rw [ByteArray.toList_eq, ByteArray.toList_eq] at hne; exact hne
      clear hst
      go_enter Tryz.func78, Tryz.ntmps78
      go_wp2
      go_loopw [13] (fun i wr => i = .int .i64 0 ∧ Below w.heap.size w wr ∧ wr.cell? ⟨b', o', none⟩ = some (.string t) ∧ wr.cell? ⟨b, 0, none⟩ = some (.string s)) (fun i _ => 1 - (intOf i).toNat)
      case atStart => exact ⟨rfl, Below.refl _ _, c0, hb⟩
      case round =>
        obtain ⟨rfl, hnx, d0, d1⟩ := hrel
        have HX := hide hnx
        clear hnx c0 hb
        go_wp2_with fail
        go_quiet (fail)
        go_wp2_with fail
        go_ret
        exact ⟨by rw [HR.out]; rfl, bdN' HX.out nq⟩
  · have HR : Hid (decide (l = [s]) = false) := decide_eq_false (fun h => h1 (by rw [h]; rfl))
    have hb1 : ((l.length : Int) == 1) = false := beq_false_of_ne (by omega)
    have hb2 : ¬ (l.length : Int) = 1 := by omega
    clear hc
    go_enter Tryz.func78, Tryz.ntmps78
    go_wp2
    go_ret
    exact ⟨by rw [HR.out]; rfl, Below.refl _ _⟩
end Go.Proofs.YtobflealcldgnaaGreatDoor.rc

namespace Go.Proofs.YtobflealcldgnaaGreatDoor.Rad

/-- a byte of a text, 0 behind its end -/
def g (l : List UInt8) (i : Nat) : Nat := (l.getD i 0).toNat

theorem g_lt (l : List UInt8) (i : Nat) : g l i < 256 := (l.getD i 0).toNat_lt

/-- the bit i of a text, each byte's highest first -/
def bit (l : List UInt8) (i : Nat) : Nat := g l (i / 8) / 2 ^ (7 - i % 8) % 2

/-- a group of n bits from bit i on, of any row of bits -/
def grp (b : Nat → Nat) (i : Nat) : Nat → Nat
  | 0 => 0
  | n + 1 => 2 * grp b i n + b (i + n)

/-- a number of six bits -/
def six (l : List UInt8) (m : Nat) : Nat :=
  match m % 4 with
  | 0 => g l (m / 4 * 3) / 4
  | 1 => g l (m / 4 * 3) % 4 * 16 + g l (m / 4 * 3 + 1) / 16
  | 2 => g l (m / 4 * 3 + 1) % 16 * 4 + g l (m / 4 * 3 + 2) / 64
  | _ => g l (m / 4 * 3 + 2) % 64

/-- a number of four bits -/
def four (l : List UInt8) (m : Nat) : Nat := if m % 2 = 0 then g l (m / 2) / 16 else g l (m / 2) % 16

theorem bit_at (l : List UInt8) (q r : Nat) (hr : r < 8) : bit l (8 * q + r) = g l q / 2 ^ (7 - r) % 2 := by
  unfold bit
  rw [show (8 * q + r) / 8 = q by omega, show (8 * q + r) % 8 = r by omega]

theorem bit_lt (l : List UInt8) (i : Nat) : bit l i < 2 := by unfold bit; omega

theorem grp6 (b : Nat → Nat) (i : Nat) : grp b i 6 = 2 * (2 * (2 * (2 * (2 * (2 * 0 + b (i + 0)) + b (i + 1)) + b (i + 2)) + b (i + 3)) + b (i + 4)) + b (i + 5) := rfl

theorem six_bits (l : List UInt8) (m : Nat) : grp (bit l) (6 * m) 6 = six l m := by
  obtain ⟨i, r, hr, rfl⟩ : ∃ i r, r < 4 ∧ m = 4 * i + r := ⟨m / 4, m % 4, by omega, by omega⟩
  have h0 := g_lt l (3 * i)
  have h1 := g_lt l (3 * i + 1)
  have h2 := g_lt l (3 * i + 2)
  unfold six
  rw [show (4 * i + r) % 4 = r by omega, show (4 * i + r) / 4 * 3 = 3 * i by omega, grp6]
  generalize e0 : g l (3 * i) = a at *
  generalize e1 : g l (3 * i + 1) = b at *
  generalize e2 : g l (3 * i + 2) = c at *
  have B0 : ∀ k, k < 8 → bit l (8 * (3 * i) + k) = a / 2 ^ (7 - k) % 2 := fun k hk => by rw [bit_at _ _ _ hk, e0]
  have B1 : ∀ k, k < 8 → bit l (8 * (3 * i + 1) + k) = b / 2 ^ (7 - k) % 2 := fun k hk => by rw [bit_at _ _ _ hk, e1]
  have B2 : ∀ k, k < 8 → bit l (8 * (3 * i + 2) + k) = c / 2 ^ (7 - k) % 2 := fun k hk => by rw [bit_at _ _ _ hk, e2]
  match r, hr with
  | 0, _ =>
    rw [show 6 * (4 * i + 0) + 0 = 8 * (3 * i) + 0 by omega, show 6 * (4 * i + 0) + 1 = 8 * (3 * i) + 1 by omega, show 6 * (4 * i + 0) + 2 = 8 * (3 * i) + 2 by omega, show 6 * (4 * i + 0) + 3 = 8 * (3 * i) + 3 by omega, show 6 * (4 * i + 0) + 4 = 8 * (3 * i) + 4 by omega, show 6 * (4 * i + 0) + 5 = 8 * (3 * i) + 5 by omega]
    rw [B0 0 (by decide), B0 1 (by decide), B0 2 (by decide), B0 3 (by decide), B0 4 (by decide), B0 5 (by decide)]
    simp only [Nat.reduceSub, Nat.reducePow]
    omega
  | 1, _ =>
    rw [show 6 * (4 * i + 1) + 0 = 8 * (3 * i) + 6 by omega, show 6 * (4 * i + 1) + 1 = 8 * (3 * i) + 7 by omega, show 6 * (4 * i + 1) + 2 = 8 * (3 * i + 1) + 0 by omega, show 6 * (4 * i + 1) + 3 = 8 * (3 * i + 1) + 1 by omega, show 6 * (4 * i + 1) + 4 = 8 * (3 * i + 1) + 2 by omega, show 6 * (4 * i + 1) + 5 = 8 * (3 * i + 1) + 3 by omega]
    rw [B0 6 (by decide), B0 7 (by decide), B1 0 (by decide), B1 1 (by decide), B1 2 (by decide), B1 3 (by decide)]
    simp only [Nat.reduceSub, Nat.reducePow]
    omega
  | 2, _ =>
    rw [show 6 * (4 * i + 2) + 0 = 8 * (3 * i + 1) + 4 by omega, show 6 * (4 * i + 2) + 1 = 8 * (3 * i + 1) + 5 by omega, show 6 * (4 * i + 2) + 2 = 8 * (3 * i + 1) + 6 by omega, show 6 * (4 * i + 2) + 3 = 8 * (3 * i + 1) + 7 by omega, show 6 * (4 * i + 2) + 4 = 8 * (3 * i + 2) + 0 by omega, show 6 * (4 * i + 2) + 5 = 8 * (3 * i + 2) + 1 by omega]
    rw [B1 4 (by decide), B1 5 (by decide), B1 6 (by decide), B1 7 (by decide), B2 0 (by decide), B2 1 (by decide)]
    simp only [Nat.reduceSub, Nat.reducePow]
    omega
  | 3, _ =>
    rw [show 6 * (4 * i + 3) + 0 = 8 * (3 * i + 2) + 2 by omega, show 6 * (4 * i + 3) + 1 = 8 * (3 * i + 2) + 3 by omega, show 6 * (4 * i + 3) + 2 = 8 * (3 * i + 2) + 4 by omega, show 6 * (4 * i + 3) + 3 = 8 * (3 * i + 2) + 5 by omega, show 6 * (4 * i + 3) + 4 = 8 * (3 * i + 2) + 6 by omega, show 6 * (4 * i + 3) + 5 = 8 * (3 * i + 2) + 7 by omega]
    rw [B2 2 (by decide), B2 3 (by decide), B2 4 (by decide), B2 5 (by decide), B2 6 (by decide), B2 7 (by decide)]
    simp only [Nat.reduceSub, Nat.reducePow]
    omega

theorem grp4 (b : Nat → Nat) (i : Nat) : grp b i 4 = 2 * (2 * (2 * (2 * 0 + b (i + 0)) + b (i + 1)) + b (i + 2)) + b (i + 3) := rfl

theorem four_bits (l : List UInt8) (m : Nat) : grp (bit l) (4 * m) 4 = four l m := by
  obtain ⟨i, r, hr, rfl⟩ : ∃ i r, r < 2 ∧ m = 2 * i + r := ⟨m / 2, m % 2, by omega, by omega⟩
  have h0 := g_lt l i
  unfold four
  rw [show (2 * i + r) % 2 = r by omega, show (2 * i + r) / 2 = i by omega, grp4]
  generalize e0 : g l i = a at *
  have B0 : ∀ k, k < 8 → bit l (8 * i + k) = a / 2 ^ (7 - k) % 2 := fun k hk => by rw [bit_at _ _ _ hk, e0]
  match r, hr with
  | 0, _ =>
    rw [show 4 * (2 * i + 0) + 0 = 8 * i + 0 by omega, show 4 * (2 * i + 0) + 1 = 8 * i + 1 by omega, show 4 * (2 * i + 0) + 2 = 8 * i + 2 by omega, show 4 * (2 * i + 0) + 3 = 8 * i + 3 by omega]
    rw [B0 0 (by decide), B0 1 (by decide), B0 2 (by decide), B0 3 (by decide), if_pos rfl]
    simp only [Nat.reduceSub, Nat.reducePow]
    omega
  | 1, _ =>
    rw [show 4 * (2 * i + 1) + 0 = 8 * i + 4 by omega, show 4 * (2 * i + 1) + 1 = 8 * i + 5 by omega, show 4 * (2 * i + 1) + 2 = 8 * i + 6 by omega, show 4 * (2 * i + 1) + 3 = 8 * i + 7 by omega]
    rw [B0 4 (by decide), B0 5 (by decide), B0 6 (by decide), B0 7 (by decide), if_neg (by decide)]
    simp only [Nat.reduceSub, Nat.reducePow]
    omega

theorem six_lt (l : List UInt8) (m : Nat) : six l m < 64 := by
  have h0 := g_lt l (m / 4 * 3)
  have h1 := g_lt l (m / 4 * 3 + 1)
  have h2 := g_lt l (m / 4 * 3 + 2)
  unfold six
  split <;> omega

theorem four_lt (l : List UInt8) (m : Nat) : four l m < 16 := by
  have h0 := g_lt l (m / 2)
  unfold four
  split <;> omega

/-- the letters of the three ways -/
def urlT : List UInt8 := [65, 66, 67, 68, 69, 70, 71, 72, 73, 74, 75, 76, 77, 78, 79, 80, 81, 82, 83, 84, 85, 86, 87, 88, 89, 90, 97, 98, 99, 100, 101, 102, 103, 104, 105, 106, 107, 108, 109, 110, 111, 112, 113, 114, 115, 116, 117, 118, 119, 120, 121, 122, 48, 49, 50, 51, 52, 53, 54, 55, 56, 57, 45, 95]
def stdT : List UInt8 := [65, 66, 67, 68, 69, 70, 71, 72, 73, 74, 75, 76, 77, 78, 79, 80, 81, 82, 83, 84, 85, 86, 87, 88, 89, 90, 97, 98, 99, 100, 101, 102, 103, 104, 105, 106, 107, 108, 109, 110, 111, 112, 113, 114, 115, 116, 117, 118, 119, 120, 121, 122, 48, 49, 50, 51, 52, 53, 54, 55, 56, 57, 43, 47]
def hexT : List UInt8 := [48, 49, 50, 51, 52, 53, 54, 55, 56, 57, 97, 98, 99, 100, 101, 102]

/-- how many letters -/
def n6 (n : Nat) : Nat := (8 * n + 5) / 6

/-- the numbers of a text, six bits each, in letters of a table -/
def b64 (T l : List UInt8) : List UInt8 := (List.range (n6 l.length)).map fun m => T.getD (six l m) 0
def hex (l : List UInt8) : List UInt8 := (List.range (2 * l.length)).map fun m => hexT.getD (four l m) 0
/-- what is put behind them -/
def pad (n : Nat) : List UInt8 := List.replicate ((4 - n % 4) % 4) 61
def std (l : List UInt8) : List UInt8 := b64 stdT l ++ pad (n6 l.length)

theorem b64_len (T l : List UInt8) : (b64 T l).length = n6 l.length := by simp [b64]
theorem hex_len (l : List UInt8) : (hex l).length = 2 * l.length := by simp [hex]

end Go.Proofs.YtobflealcldgnaaGreatDoor.Rad
