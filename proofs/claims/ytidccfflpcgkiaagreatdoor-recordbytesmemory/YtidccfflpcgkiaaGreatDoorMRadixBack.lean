import Derived.Test.YtidccfflpcgkiaaGreatDoorMRcList
import Derived.Deep.RegionHeld3
namespace Go.Proofs.YtidccfflpcgkiaaGreatDoor.rc
open Go.ChangeShapes Go.WideShapes Go.ChangeAt Go.RowKit Go.Proofs.YtidccfflpcgkiaaGreatDoor.common Go.Proofs.YtidccfflpcgkiaaGreatDoor.bk Go.Proofs.YtidccfflpcgkiaaGreatDoor.ss Go.Proofs.YtidccfflpcgkiaaGreatDoor.tm
attribute [local go_sem ↓] Go.wp_at_zero Go.wp_at_succ

theorem bdN' {b : Nat} {a c : World} (h : Below b a c) (n : Nat) : Below b a (c.drewN n) := ⟨h.1, h.2, h.3, h.4, h.5⟩
theorem getD_at (l : List ByteArray) (i : Nat) (h : i < l.length) : l.getD i ByteArray.empty = l[i] := by simp [List.getD, h]
set_option maxRecDepth 100000 in
set_option maxHeartbeats 1600000 in
theorem isRising_any (v : Value) (l : List ByteArray) (w : World) (hL : Lies w v l) (hl : l.length ≤ 4611686018427387904) :
    Calls Tryz.prog 64 #[v] w fun e w' => e = .returned (.bool (risB l)) ∧ Below w.heap.size w w' := by
  have HL := hide hL
  obtain ⟨oa, cap, rfl⟩ := Lies.len hL
  clear hL
  have HT : Hid (ris l (l.length - 1) → risB l = true) := fun h => decide_eq_true (fun i h1 h2 => h i (by omega) h2)
  have HN : Hid (∀ i, i + 1 < l.length → ¬ (l.getD i ByteArray.empty).data.toList < (l.getD (i + 1) ByteArray.empty).data.toList → risB l = false) := fun i h1 h2 => decide_eq_false (fun h => h2 (h i (by omega) h1))
  go_enter Tryz.func64, Tryz.ntmps64
  go_wp2
  go_loopw [7] (fun i wr => ∃ k : Nat, (k = 0 ∨ k < l.length) ∧ i = .int .i64 k ∧ ris l k ∧ Below w.heap.size w wr) (fun i _ => l.length - (intOf i).toNat)
  case atStart => exact ⟨0, Or.inl rfl, rfl, fun i h => absurd h (Nat.not_lt_zero _), Below.refl _ _⟩
  case round =>
    obtain ⟨k, hk, rfl, hr, hnx⟩ := hrel
    have HR := hide hr
    have HX := hide hnx
    by_cases hlt : k + 1 < l.length
    · have k1 : (k : Int) < (l.length : Int) - 1 := by omega
      have k0 : (0 : Int) ≤ (k : Int) := Int.natCast_nonneg _
      have k2 : (k : Int) < (l.length : Int) := by omega
      have k3 : (k : Int) + 1 < (l.length : Int) := by omega
      have k4 : (0 : Int) ≤ (k : Int) + 1 := by omega
      obtain ⟨_, _, hv, hc⟩ := HL.out.below hnx
      cases hv
      obtain ⟨b, o, rfl, hb, c0⟩ := hc k (by omega)
      obtain ⟨b', o', he, hb', c1⟩ := hc (k + 1) hlt
      cases he
      have HNK := hide (HN.out k hlt)
      rw [getD_at l k (by omega), getD_at l (k + 1) hlt] at HNK
      have HRS : Hid (l[k].data.toList < l[k + 1].data.toList → ris l (k + 1)) := fun h i h1 h2 => by
        by_cases hik : i < k
        · exact HR.out i hik h2
        · obtain rfl : i = k := by omega
          rw [getD_at l i (by omega), getD_at l (i + 1) hlt]; exact h
      have hg := lessB l[k] l[k + 1]
      generalize l[k] = s at *
      generalize l[k + 1] = t at *
      have c2 := c1
      rw [← Nat.add_assoc] at c2
      have hw : IntKind.i64.wrap ((k : Int) + 1) = (k : Int) + 1 := by unfold IntKind.wrap; simp [IntKind.signed, IntKind.bits]; omega
      clear hr hnx hc HN
      by_cases hst : s.data.toList < t.data.toList
      · rw [decide_eq_true hst] at hg
        have HS := hide hst
        clear hst
        go_wp2_with fail
        go_quiet (fail)
        go_wp2_with fail
        go_roundw
        case rel => exact ⟨k + 1, Or.inr hlt, by go_num, HRS.out HS.out, bdN' HX.out nq⟩
        case measure => simp [intOf]; omega
      · rw [decide_eq_false hst] at hg
        have HS := hide (HNK.out hst)
        clear hst
        go_wp2_with fail
        go_quiet (fail)
        go_wp2_with fail
        go_ret
        exact ⟨by rw [HS.out]; rfl, bdN' HX.out nq⟩
    · have k1 : ¬ ((k : Int) < (l.length : Int) - 1) := by omega
      have HS : Hid (risB l = true) := HT.out (fun i h1 h2 => hr i (by omega) h2)
      clear hr hnx
      go_wp2_with fail
      go_ret
      exact ⟨by rw [HS.out]; rfl, HX.out⟩

set_option maxRecDepth 100000 in
set_option maxHeartbeats 1600000 in
/-- is the list just one text? -/
theorem equalOne_any (v : Value) (l : List ByteArray) (s : ByteArray) (b : Nat) (w : World) (hL : Lies w v l) (hl : l.length ≤ 4611686018427387904) (hb : w.cell? ⟨b, 0, none⟩ = some (.string s)) :
    Calls Tryz.prog 81 #[v, .slice (some ⟨b, 0, none⟩) 1 1] w fun e w' => e = .returned (.bool (decide (l = [s]))) ∧ Below w.heap.size w w' := by
  obtain ⟨oa, cap, rfl, hc⟩ := hL
  by_cases h1 : l.length = 1
  · obtain ⟨t, rfl⟩ : ∃ t, l = [t] := by
      cases l with
      | nil => cases h1
      | cons a r =>
        cases r with
        | nil => exact ⟨a, rfl⟩
        | cons c r => simp at h1
    obtain ⟨b', o', he, hb', c0⟩ := hc 0 (by simp)
    subst he
    simp only [Nat.add_zero, List.getElem_cons_zero] at c0
    clear hc h1 hl
    by_cases hst : t = s
    · subst hst
      have HR : Hid (decide ([t] = [t]) = true) := decide_eq_true rfl
      go_enter Tryz.func81, Tryz.ntmps81
      go_wp2
      go_loopw [13] (fun i wr => ∃ k : Nat, k ≤ 1 ∧ i = .int .i64 k ∧ Below w.heap.size w wr ∧ wr.cell? ⟨b', o', none⟩ = some (.string t) ∧ wr.cell? ⟨b, 0, none⟩ = some (.string t)) (fun i _ => 1 - (intOf i).toNat)
      case atStart => exact ⟨0, by decide, rfl, Below.refl _ _, c0, hb⟩
      case round =>
        obtain ⟨k, hk, rfl, hnx, d0, d1⟩ := hrel
        have HX := hide hnx
        clear hnx c0 hb
        by_cases hlt : k < 1
        · obtain rfl : k = 0 := by omega
          go_wp2_with fail
          go_quiet (fail)
          go_wp2_with fail
          go_roundw
          case rel => exact ⟨1, by decide, rfl, bdN' HX.out nq, d0, d1⟩
          case measure => simp [intOf]
        · have k1 : ¬ ((k : Int) < 1) := by omega
          clear d0 d1 HR
          go_wp2_with fail
          go_ret
          exact ⟨by simp, HX.out⟩
    · have HR : Hid (decide ([t] = [s]) = false) := decide_eq_false (fun h => hst (by simpa using h))
      have hne : (t.toList == s.toList) = false := beq_false_of_ne (fun h => hst (ba_ext (by rw [ByteArray.toList_eq, ByteArray.toList_eq] at h; exact h)))
      have hne' : (t.data.toList == s.data.toList) = false := by rw [ByteArray.toList_eq, ByteArray.toList_eq] at hne; exact hne
      clear hst
      go_enter Tryz.func81, Tryz.ntmps81
      go_wp2
      go_loopw [13] (fun i wr => i = .int .i64 0 ∧ Below w.heap.size w wr ∧ wr.cell? ⟨b', o', none⟩ = some (.string t) ∧ wr.cell? ⟨b, 0, none⟩ = some (.string s)) (fun i _ => 1 - (intOf i).toNat)
      case atStart => exact ⟨rfl, Below.refl _ _, c0, hb⟩
      case round =>
        obtain ⟨rfl, hnx, d0, d1⟩ := hrel
        have HX := hide hnx
        clear hnx c0 hb
        go_wp2_with fail
        go_quiet (fail)
        go_wp2_with fail
        go_ret
        exact ⟨by rw [HR.out]; rfl, bdN' HX.out nq⟩
  · have HR : Hid (decide (l = [s]) = false) := decide_eq_false (fun h => h1 (by rw [h]; rfl))
    have hb1 : ((l.length : Int) == 1) = false := beq_false_of_ne (by omega)
    have hb2 : ¬ (l.length : Int) = 1 := by omega
    clear hc
    go_enter Tryz.func81, Tryz.ntmps81
    go_wp2
    go_ret
    exact ⟨by rw [HR.out]; rfl, Below.refl _ _⟩
end Go.Proofs.YtidccfflpcgkiaaGreatDoor.rc

namespace Go.Proofs.YtidccfflpcgkiaaGreatDoor.Rad

/-- a byte of a text, 0 behind its end -/
def g (l : List UInt8) (i : Nat) : Nat := (l.getD i 0).toNat

theorem g_lt (l : List UInt8) (i : Nat) : g l i < 256 := (l.getD i 0).toNat_lt

/-- the bit i of a text, each byte's highest first -/
def bit (l : List UInt8) (i : Nat) : Nat := g l (i / 8) / 2 ^ (7 - i % 8) % 2

/-- a group of n bits from bit i on, of any row of bits -/
def grp (b : Nat → Nat) (i : Nat) : Nat → Nat
  | 0 => 0
  | n + 1 => 2 * grp b i n + b (i + n)

/-- a number of six bits -/
def six (l : List UInt8) (m : Nat) : Nat :=
  match m % 4 with
  | 0 => g l (m / 4 * 3) / 4
  | 1 => g l (m / 4 * 3) % 4 * 16 + g l (m / 4 * 3 + 1) / 16
  | 2 => g l (m / 4 * 3 + 1) % 16 * 4 + g l (m / 4 * 3 + 2) / 64
  | _ => g l (m / 4 * 3 + 2) % 64

/-- a number of four bits -/
def four (l : List UInt8) (m : Nat) : Nat := if m % 2 = 0 then g l (m / 2) / 16 else g l (m / 2) % 16

theorem bit_at (l : List UInt8) (q r : Nat) (hr : r < 8) : bit l (8 * q + r) = g l q / 2 ^ (7 - r) % 2 := by
  unfold bit
  rw [show (8 * q + r) / 8 = q by omega, show (8 * q + r) % 8 = r by omega]

theorem bit_lt (l : List UInt8) (i : Nat) : bit l i < 2 := by unfold bit; omega

theorem grp6 (b : Nat → Nat) (i : Nat) : grp b i 6 = 2 * (2 * (2 * (2 * (2 * (2 * 0 + b (i + 0)) + b (i + 1)) + b (i + 2)) + b (i + 3)) + b (i + 4)) + b (i + 5) := rfl

theorem six_bits (l : List UInt8) (m : Nat) : grp (bit l) (6 * m) 6 = six l m := by
  obtain ⟨i, r, hr, rfl⟩ : ∃ i r, r < 4 ∧ m = 4 * i + r := ⟨m / 4, m % 4, by omega, by omega⟩
  have h0 := g_lt l (3 * i)
  have h1 := g_lt l (3 * i + 1)
  have h2 := g_lt l (3 * i + 2)
  unfold six
  rw [show (4 * i + r) % 4 = r by omega, show (4 * i + r) / 4 * 3 = 3 * i by omega, grp6]
  generalize e0 : g l (3 * i) = a at *
  generalize e1 : g l (3 * i + 1) = b at *
  generalize e2 : g l (3 * i + 2) = c at *
  have B0 : ∀ k, k < 8 → bit l (8 * (3 * i) + k) = a / 2 ^ (7 - k) % 2 := fun k hk => by rw [bit_at _ _ _ hk, e0]
  have B1 : ∀ k, k < 8 → bit l (8 * (3 * i + 1) + k) = b / 2 ^ (7 - k) % 2 := fun k hk => by rw [bit_at _ _ _ hk, e1]
  have B2 : ∀ k, k < 8 → bit l (8 * (3 * i + 2) + k) = c / 2 ^ (7 - k) % 2 := fun k hk => by rw [bit_at _ _ _ hk, e2]
  match r, hr with
  | 0, _ =>
    rw [show 6 * (4 * i + 0) + 0 = 8 * (3 * i) + 0 by omega, show 6 * (4 * i + 0) + 1 = 8 * (3 * i) + 1 by omega, show 6 * (4 * i + 0) + 2 = 8 * (3 * i) + 2 by omega, show 6 * (4 * i + 0) + 3 = 8 * (3 * i) + 3 by omega, show 6 * (4 * i + 0) + 4 = 8 * (3 * i) + 4 by omega, show 6 * (4 * i + 0) + 5 = 8 * (3 * i) + 5 by omega]
    rw [B0 0 (by decide), B0 1 (by decide), B0 2 (by decide), B0 3 (by decide), B0 4 (by decide), B0 5 (by decide)]
    simp only [Nat.reduceSub, Nat.reducePow]
    omega
  | 1, _ =>
    rw [show 6 * (4 * i + 1) + 0 = 8 * (3 * i) + 6 by omega, show 6 * (4 * i + 1) + 1 = 8 * (3 * i) + 7 by omega, show 6 * (4 * i + 1) + 2 = 8 * (3 * i + 1) + 0 by omega, show 6 * (4 * i + 1) + 3 = 8 * (3 * i + 1) + 1 by omega, show 6 * (4 * i + 1) + 4 = 8 * (3 * i + 1) + 2 by omega, show 6 * (4 * i + 1) + 5 = 8 * (3 * i + 1) + 3 by omega]
    rw [B0 6 (by decide), B0 7 (by decide), B1 0 (by decide), B1 1 (by decide), B1 2 (by decide), B1 3 (by decide)]
    simp only [Nat.reduceSub, Nat.reducePow]
    omega
  | 2, _ =>
    rw [show 6 * (4 * i + 2) + 0 = 8 * (3 * i + 1) + 4 by omega, show 6 * (4 * i + 2) + 1 = 8 * (3 * i + 1) + 5 by omega, show 6 * (4 * i + 2) + 2 = 8 * (3 * i + 1) + 6 by omega, show 6 * (4 * i + 2) + 3 = 8 * (3 * i + 1) + 7 by omega, show 6 * (4 * i + 2) + 4 = 8 * (3 * i + 2) + 0 by omega, show 6 * (4 * i + 2) + 5 = 8 * (3 * i + 2) + 1 by omega]
    rw [B1 4 (by decide), B1 5 (by decide), B1 6 (by decide), B1 7 (by decide), B2 0 (by decide), B2 1 (by decide)]
    simp only [Nat.reduceSub, Nat.reducePow]
    omega
  | 3, _ =>
    rw [show 6 * (4 * i + 3) + 0 = 8 * (3 * i + 2) + 2 by omega, show 6 * (4 * i + 3) + 1 = 8 * (3 * i + 2) + 3 by omega, show 6 * (4 * i + 3) + 2 = 8 * (3 * i + 2) + 4 by omega, show 6 * (4 * i + 3) + 3 = 8 * (3 * i + 2) + 5 by omega, show 6 * (4 * i + 3) + 4 = 8 * (3 * i + 2) + 6 by omega, show 6 * (4 * i + 3) + 5 = 8 * (3 * i + 2) + 7 by omega]
    rw [B2 2 (by decide), B2 3 (by decide), B2 4 (by decide), B2 5 (by decide), B2 6 (by decide), B2 7 (by decide)]
    simp only [Nat.reduceSub, Nat.reducePow]
    omega

theorem grp4 (b : Nat → Nat) (i : Nat) : grp b i 4 = 2 * (2 * (2 * (2 * 0 + b (i + 0)) + b (i + 1)) + b (i + 2)) + b (i + 3) := rfl

theorem four_bits (l : List UInt8) (m : Nat) : grp (bit l) (4 * m) 4 = four l m := by
  obtain ⟨i, r, hr, rfl⟩ : ∃ i r, r < 2 ∧ m = 2 * i + r := ⟨m / 2, m % 2, by omega, by omega⟩
  have h0 := g_lt l i
  unfold four
  rw [show (2 * i + r) % 2 = r by omega, show (2 * i + r) / 2 = i by omega, grp4]
  generalize e0 : g l i = a at *
  have B0 : ∀ k, k < 8 → bit l (8 * i + k) = a / 2 ^ (7 - k) % 2 := fun k hk => by rw [bit_at _ _ _ hk, e0]
  match r, hr with
  | 0, _ =>
    rw [show 4 * (2 * i + 0) + 0 = 8 * i + 0 by omega, show 4 * (2 * i + 0) + 1 = 8 * i + 1 by omega, show 4 * (2 * i + 0) + 2 = 8 * i + 2 by omega, show 4 * (2 * i + 0) + 3 = 8 * i + 3 by omega]
    rw [B0 0 (by decide), B0 1 (by decide), B0 2 (by decide), B0 3 (by decide), if_pos rfl]
    simp only [Nat.reduceSub, Nat.reducePow]
    omega
  | 1, _ =>
    rw [show 4 * (2 * i + 1) + 0 = 8 * i + 4 by omega, show 4 * (2 * i + 1) + 1 = 8 * i + 5 by omega, show 4 * (2 * i + 1) + 2 = 8 * i + 6 by omega, show 4 * (2 * i + 1) + 3 = 8 * i + 7 by omega]
    rw [B0 4 (by decide), B0 5 (by decide), B0 6 (by decide), B0 7 (by decide), if_neg (by decide)]
    simp only [Nat.reduceSub, Nat.reducePow]
    omega

theorem six_lt (l : List UInt8) (m : Nat) : six l m < 64 := by
  have h0 := g_lt l (m / 4 * 3)
  have h1 := g_lt l (m / 4 * 3 + 1)
  have h2 := g_lt l (m / 4 * 3 + 2)
  unfold six
  split <;> omega

theorem four_lt (l : List UInt8) (m : Nat) : four l m < 16 := by
  have h0 := g_lt l (m / 2)
  unfold four
  split <;> omega

/-- the letters of the three ways -/
def urlT : List UInt8 := [65, 66, 67, 68, 69, 70, 71, 72, 73, 74, 75, 76, 77, 78, 79, 80, 81, 82, 83, 84, 85, 86, 87, 88, 89, 90, 97, 98, 99, 100, 101, 102, 103, 104, 105, 106, 107, 108, 109, 110, 111, 112, 113, 114, 115, 116, 117, 118, 119, 120, 121, 122, 48, 49, 50, 51, 52, 53, 54, 55, 56, 57, 45, 95]
def stdT : List UInt8 := [65, 66, 67, 68, 69, 70, 71, 72, 73, 74, 75, 76, 77, 78, 79, 80, 81, 82, 83, 84, 85, 86, 87, 88, 89, 90, 97, 98, 99, 100, 101, 102, 103, 104, 105, 106, 107, 108, 109, 110, 111, 112, 113, 114, 115, 116, 117, 118, 119, 120, 121, 122, 48, 49, 50, 51, 52, 53, 54, 55, 56, 57, 43, 47]
def hexT : List UInt8 := [48, 49, 50, 51, 52, 53, 54, 55, 56, 57, 97, 98, 99, 100, 101, 102]

/-- how many letters -/
def n6 (n : Nat) : Nat := (8 * n + 5) / 6

/-- the numbers of a text, six bits each, in letters of a table -/
def b64 (T l : List UInt8) : List UInt8 := (List.range (n6 l.length)).map fun m => T.getD (six l m) 0
def hex (l : List UInt8) : List UInt8 := (List.range (2 * l.length)).map fun m => hexT.getD (four l m) 0
/-- what is put behind them -/
def pad (n : Nat) : List UInt8 := List.replicate ((4 - n % 4) % 4) 61
def std (l : List UInt8) : List UInt8 := b64 stdT l ++ pad (n6 l.length)

theorem b64_len (T l : List UInt8) : (b64 T l).length = n6 l.length := by simp [b64]
theorem hex_len (l : List UInt8) : (hex l).length = 2 * l.length := by simp [hex]

end Go.Proofs.YtidccfflpcgkiaaGreatDoor.Rad

namespace Go.Proofs.YtidccfflpcgkiaaGreatDoor.Rad

theorem getD_map (n : Nat) (f : Nat → UInt8) (i : Nat) : ((List.range n).map f).getD i 0 = if i < n then f i else 0 := by
  rw [List.getD_eq_getElem?_getD, List.getElem?_map]
  by_cases h : i < n
  · rw [List.getElem?_range h, if_pos h]; rfl
  · rw [List.getElem?_eq_none (by simpa using h), if_neg h]; rfl

theorem list_eq {a b : List UInt8} (hl : a.length = b.length) (h : ∀ i, i < a.length → a.getD i 0 = b.getD i 0) : a = b := by
  apply List.ext_getElem hl
  intro i h1 h2
  have := h i h1
  rw [List.getD_eq_getElem?_getD, List.getD_eq_getElem?_getD, List.getElem?_eq_getElem h1, List.getElem?_eq_getElem h2] at this
  simpa using this

theorem getD_out {l : List UInt8} {i : Nat} (h : l.length ≤ i) : l.getD i 0 = 0 := by
  rw [List.getD_eq_getElem?_getD, List.getElem?_eq_none h]; rfl

/-- one more than the place of a letter in a table, of its first k; 0: it is none -/
def rd (T : List UInt8) : Nat → UInt8 → Nat
  | 0, _ => 0
  | k + 1, c => if T.getD k 0 = c then k + 1 else rd T k c

theorem rd_le (T : List UInt8) (k : Nat) (c : UInt8) : rd T k c ≤ k := by
  induction k with
  | zero => simp [rd]
  | succ k ih => unfold rd; split <;> omega

theorem rd_spec (T : List UInt8) (k : Nat) (c : UInt8) (h : rd T k c ≠ 0) : T.getD (rd T k c - 1) 0 = c := by
  induction k with
  | zero => simp [rd] at h
  | succ k ih =>
    unfold rd at h ⊢
    split
    · rename_i e; simpa using e
    · rename_i e; rw [if_neg e] at h; exact ih h

theorem rd_none (T : List UInt8) (k : Nat) (c : UInt8) (h : ∀ j, j < k → T.getD j 0 ≠ c) : rd T k c = 0 := by
  induction k with
  | zero => rfl
  | succ k ih => unfold rd; rw [if_neg (h k (by omega))]; exact ih fun j hj => h j (by omega)

/-- a table that serves: its letters differ -/
structure Good (T : List UInt8) (n : Nat) : Prop where
  len : T.length = n
  back : ∀ i, i < n → rd T n (T.getD i 0) = i + 1
  eqs : rd T n 61 = 0
  zero : rd T n 0 = 0

theorem urlGood : Good urlT 64 := ⟨rfl, fun i hi => (show ∀ i : Fin 64, rd urlT 64 (urlT.getD i.val 0) = i.val + 1 by decide +kernel) ⟨i, hi⟩, by decide +kernel, by decide +kernel⟩
theorem stdGood : Good stdT 64 := ⟨rfl, fun i hi => (show ∀ i : Fin 64, rd stdT 64 (stdT.getD i.val 0) = i.val + 1 by decide +kernel) ⟨i, hi⟩, by decide +kernel, by decide +kernel⟩
theorem hexGood : Good hexT 16 := ⟨rfl, fun i hi => (show ∀ i : Fin 16, rd hexT 16 (hexT.getD i.val 0) = i.val + 1 by decide +kernel) ⟨i, hi⟩, by decide +kernel, by decide +kernel⟩

/-- the number of the letter i of a text -/
def num (T : List UInt8) (n : Nat) (s : List UInt8) (i : Nat) : Nat := rd T n (s.getD i 0) - 1

theorem num_lt {T : List UInt8} {n : Nat} (hn : 0 < n) (s : List UInt8) (i : Nat) : num T n s i < n := by
  have := rd_le T n (s.getD i 0); unfold num; omega

theorem num_at {T : List UInt8} {n : Nat} {s : List UInt8} {i : Nat} (h : rd T n (s.getD i 0) ≠ 0) : T.getD (num T n s i) 0 = s.getD i 0 := rd_spec T n _ h

theorem num_out {T : List UInt8} {n : Nat} (h : Good T n) {s : List UInt8} {i : Nat} (hi : s.length ≤ i) : num T n s i = 0 := by
  unfold num; rw [getD_out hi, h.zero]

/-- a byte out of numbers of six bits -/
def byt (x : Nat → Nat) (m : Nat) : Nat :=
  match m % 3 with
  | 0 => x (m / 3 * 4) * 4 + x (m / 3 * 4 + 1) / 16
  | 1 => x (m / 3 * 4 + 1) % 16 * 16 + x (m / 3 * 4 + 2) / 4
  | _ => x (m / 3 * 4 + 2) % 4 * 64 + x (m / 3 * 4 + 3)

theorem byt_lt (x : Nat → Nat) (hx : ∀ i, x i < 64) (m : Nat) : byt x m < 256 := by
  have h0 := hx (m / 3 * 4)
  have h1 := hx (m / 3 * 4 + 1)
  have h2 := hx (m / 3 * 4 + 2)
  have h3 := hx (m / 3 * 4 + 3)
  unfold byt; split <;> omega

def n8 (n : Nat) : Nat := 6 * n / 8

def un64 (T s : List UInt8) : List UInt8 := (List.range (n8 s.length)).map fun m => UInt8.ofNat (byt (num T 64 s) m)

theorem un64_len (T s : List UInt8) : (un64 T s).length = n8 s.length := by simp [un64]

theorem toNat_of {n : Nat} (h : n < 256) : (UInt8.ofNat n).toNat = n := by
  simp only [UInt8.toNat_ofNat']; omega

theorem g_un64 (T s : List UInt8) (m : Nat) (hm : m < n8 s.length) : g (un64 T s) m = byt (num T 64 s) m := by
  unfold g un64
  rw [getD_map, if_pos hm, toNat_of (byt_lt _ (num_lt (by decide) s) m)]

theorem g_out {l : List UInt8} {i : Nat} (h : l.length ≤ i) : g l i = 0 := by unfold g; rw [getD_out h]; rfl

/-- the bits that are no byte's are 0 -/
def restOk (T s : List UInt8) : Prop := s.length % 4 ≠ 1 ∧ (s.length % 4 = 2 → num T 64 s (s.length - 1) % 16 = 0) ∧ (s.length % 4 = 3 → num T 64 s (s.length - 1) % 4 = 0)

def valid (T : List UInt8) (n : Nat) (s : List UInt8) : Prop := ∀ i, i < s.length → rd T n (s.getD i 0) ≠ 0

theorem quarters (n : Nat) : ∃ k, (n = 4 * k ∧ n8 n = 3 * k) ∨ (n = 4 * k + 1 ∧ n8 n = 3 * k) ∨ (n = 4 * k + 2 ∧ n8 n = 3 * k + 1) ∨ (n = 4 * k + 3 ∧ n8 n = 3 * k + 2) := by
  refine ⟨n / 4, ?_⟩
  obtain ⟨k, q, hq, rfl⟩ : ∃ k q, q < 4 ∧ n = 4 * k + q := ⟨n / 4, n % 4, by omega, by omega⟩
  rw [show (4 * k + q) / 4 = k by omega]
  unfold n8
  match q, hq with
  | 0, _ => exact Or.inl ⟨rfl, by omega⟩
  | 1, _ => exact Or.inr (Or.inl ⟨rfl, by omega⟩)
  | 2, _ => exact Or.inr (Or.inr (Or.inl ⟨rfl, by omega⟩))
  | 3, _ => exact Or.inr (Or.inr (Or.inr ⟨rfl, by omega⟩))

theorem n6n8 {n : Nat} (h : n % 4 ≠ 1) : n6 (n8 n) = n := by
  obtain ⟨k, hk⟩ := quarters n
  unfold n6
  omega

theorem six_un64 (T s : List UInt8) (hr : restOk T s) (m : Nat) (hm : m < s.length) : six (un64 T s) m = num T 64 s m := by
  obtain ⟨hr1, hr2, hr3⟩ := hr
  obtain ⟨i, r, h4, rfl⟩ : ∃ i r, r < 4 ∧ m = 4 * i + r := ⟨m / 4, m % 4, by omega, by omega⟩
  have hx := num_lt (T := T) (n := 64) (by decide) s
  have x0 := hx (4 * i)
  have x1 := hx (4 * i + 1)
  have x2 := hx (4 * i + 2)
  have x3 := hx (4 * i + 3)
  have G : ∀ k, k < 3 → 3 * i + k < n8 s.length → g (un64 T s) (3 * i + k) = byt (num T 64 s) (3 * i + k) := fun k _ h => g_un64 T s _ h
  have Z : ∀ k, n8 s.length ≤ 3 * i + k → g (un64 T s) (3 * i + k) = 0 := fun k h => g_out (by rw [un64_len]; exact h)
  have b0 : byt (num T 64 s) (3 * i + 0) = num T 64 s (4 * i) * 4 + num T 64 s (4 * i + 1) / 16 := by
    unfold byt; rw [show (3 * i + 0) % 3 = 0 by omega, show (3 * i + 0) / 3 * 4 = 4 * i by omega]; rfl
  have b1 : byt (num T 64 s) (3 * i + 1) = num T 64 s (4 * i + 1) % 16 * 16 + num T 64 s (4 * i + 2) / 4 := by
    unfold byt; rw [show (3 * i + 1) % 3 = 1 by omega, show (3 * i + 1) / 3 * 4 = 4 * i by omega]; rfl
  have b2 : byt (num T 64 s) (3 * i + 2) = num T 64 s (4 * i + 2) % 4 * 64 + num T 64 s (4 * i + 3) := by
    unfold byt; rw [show (3 * i + 2) % 3 = 2 by omega, show (3 * i + 2) / 3 * 4 = 4 * i by omega]; rfl
  unfold six
  rw [show (4 * i + r) % 4 = r by omega, show (4 * i + r) / 4 * 3 = 3 * i + 0 by omega]
  have hq := quarters s.length
  obtain ⟨k, hq⟩ := hq
  match r, h4 with
  | 0, _ =>
    show g (un64 T s) (3 * i + 0) / 4 = _
    rw [G 0 (by decide) (by omega), b0]; show _ = num T 64 s (4 * i); omega
  | 1, _ =>
    show g (un64 T s) (3 * i + 0) % 4 * 16 + g (un64 T s) (3 * i + 1) / 16 = _
    rw [G 0 (by decide) (by omega), b0]
    by_cases h : 3 * i + 1 < n8 s.length
    · rw [G 1 (by decide) h, b1]; omega
    · rw [Z 1 (by omega)]
      have := hr2 (by omega)
      rw [show s.length - 1 = 4 * i + 1 by omega] at this
      omega
  | 2, _ =>
    show g (un64 T s) (3 * i + 1) % 16 * 4 + g (un64 T s) (3 * i + 2) / 64 = _
    rw [G 1 (by decide) (by omega), b1]
    by_cases h : 3 * i + 2 < n8 s.length
    · rw [G 2 (by decide) h, b2]; omega
    · rw [Z 2 (by omega)]
      have := hr3 (by omega)
      rw [show s.length - 1 = 4 * i + 2 by omega] at this
      omega
  | 3, _ =>
    show g (un64 T s) (3 * i + 2) % 64 = _
    rw [G 2 (by decide) (by omega), b2]; omega

/-- what is read is written as it was -/
theorem b64_un64 (T s : List UInt8) (hv : valid T 64 s) (hr : restOk T s) : b64 T (un64 T s) = s := by
  have hl : (b64 T (un64 T s)).length = s.length := by
    rw [b64_len, un64_len, n6n8 hr.1]
  apply list_eq hl
  intro i hi
  rw [hl] at hi
  unfold b64
  rw [getD_map, if_pos (by rw [b64_len] at hl; omega), six_un64 T s hr i hi]
  exact num_at (hv i hi)

theorem rd_b64 {T : List UInt8} (hT : Good T 64) (l : List UInt8) (m : Nat) (hm : m < n6 l.length) : rd T 64 ((b64 T l).getD m 0) = six l m + 1 := by
  unfold b64
  rw [getD_map, if_pos hm]
  exact hT.back _ (six_lt l m)

theorem num_b64 {T : List UInt8} (hT : Good T 64) (l : List UInt8) (m : Nat) (hm : m < n6 l.length) : num T 64 (b64 T l) m = six l m := by
  unfold num; rw [rd_b64 hT l m hm]; omega

theorem valid_b64 {T : List UInt8} (hT : Good T 64) (l : List UInt8) : valid T 64 (b64 T l) := by
  intro i hi
  rw [b64_len] at hi
  rw [rd_b64 hT l i hi]; omega

theorem six_at1 (l : List UInt8) (k : Nat) : six l (4 * k + 1) = g l (3 * k) % 4 * 16 + g l (3 * k + 1) / 16 := by
  unfold six; rw [show (4 * k + 1) % 4 = 1 by omega, show (4 * k + 1) / 4 * 3 = 3 * k by omega]; rfl
theorem six_at0 (l : List UInt8) (k : Nat) : six l (4 * k) = g l (3 * k) / 4 := by
  unfold six; rw [show (4 * k) % 4 = 0 by omega, show (4 * k) / 4 * 3 = 3 * k by omega]; rfl
theorem six_at2 (l : List UInt8) (k : Nat) : six l (4 * k + 2) = g l (3 * k + 1) % 16 * 4 + g l (3 * k + 2) / 64 := by
  unfold six; rw [show (4 * k + 2) % 4 = 2 by omega, show (4 * k + 2) / 4 * 3 = 3 * k by omega]; rfl
theorem six_at3 (l : List UInt8) (k : Nat) : six l (4 * k + 3) = g l (3 * k + 2) % 64 := by
  unfold six; rw [show (4 * k + 3) % 4 = 3 by omega, show (4 * k + 3) / 4 * 3 = 3 * k by omega]; rfl

theorem rest_b64 {T : List UInt8} (hT : Good T 64) (l : List UInt8) : restOk T (b64 T l) := by
  unfold restOk
  rw [b64_len]
  refine ⟨by unfold n6; omega, fun h => ?_, fun h => ?_⟩
  · rw [num_b64 hT l _ (by unfold n6 at h ⊢; omega)]
    obtain ⟨k, hk⟩ : ∃ k, l.length = 3 * k + 1 := ⟨l.length / 3, by unfold n6 at h; omega⟩
    rw [show n6 l.length - 1 = 4 * k + 1 by unfold n6; omega, six_at1, g_out (show l.length ≤ 3 * k + 1 by omega)]
    omega
  · rw [num_b64 hT l _ (by unfold n6 at h ⊢; omega)]
    obtain ⟨k, hk⟩ : ∃ k, l.length = 3 * k + 2 := ⟨l.length / 3, by unfold n6 at h; omega⟩
    rw [show n6 l.length - 1 = 4 * k + 2 by unfold n6; omega, six_at2, g_out (show l.length ≤ 3 * k + 2 by omega)]
    omega

theorem of_toNat {a : UInt8} {n : Nat} (h : n = a.toNat) : UInt8.ofNat n = a := by subst h; exact UInt8.ofNat_toNat

/-- what was written is read as it was -/
theorem un64_b64 {T : List UInt8} (hT : Good T 64) (l : List UInt8) : un64 T (b64 T l) = l := by
  have hl : (un64 T (b64 T l)).length = l.length := by rw [un64_len, b64_len]; unfold n6 n8; omega
  apply list_eq hl
  intro m hm
  rw [hl] at hm
  unfold un64
  rw [getD_map, if_pos (by rw [un64_len] at hl; omega)]
  apply of_toNat
  show _ = g l m
  obtain ⟨k, r, h3, rfl⟩ : ∃ k r, r < 3 ∧ m = 3 * k + r := ⟨m / 3, m % 3, by omega, by omega⟩
  have g0 := g_lt l (3 * k)
  have g1 := g_lt l (3 * k + 1)
  have g2 := g_lt l (3 * k + 2)
  unfold byt
  rw [show (3 * k + r) % 3 = r by omega, show (3 * k + r) / 3 * 4 = 4 * k by omega]
  match r, h3 with
  | 0, _ =>
    show num T 64 (b64 T l) (4 * k) * 4 + num T 64 (b64 T l) (4 * k + 1) / 16 = g l (3 * k)
    rw [num_b64 hT l _ (by unfold n6; omega), num_b64 hT l _ (by unfold n6; omega), six_at0, six_at1]; omega
  | 1, _ =>
    show num T 64 (b64 T l) (4 * k + 1) % 16 * 16 + num T 64 (b64 T l) (4 * k + 2) / 4 = _
    rw [num_b64 hT l _ (by unfold n6; omega), num_b64 hT l _ (by unfold n6; omega), six_at1, six_at2]; omega
  | 2, _ =>
    show num T 64 (b64 T l) (4 * k + 2) % 4 * 64 + num T 64 (b64 T l) (4 * k + 3) = _
    rw [num_b64 hT l _ (by unfold n6; omega), num_b64 hT l _ (by unfold n6; omega), six_at2, six_at3]; omega

/-- when the document's reader takes a text -/
theorem taken64 {T : List UInt8} (hT : Good T 64) (s : List UInt8) : b64 T (un64 T s) = s ↔ valid T 64 s ∧ restOk T s := by
  constructor
  · intro h; rw [← h]; exact ⟨valid_b64 hT _, rest_b64 hT _⟩
  · exact fun h => b64_un64 T s h.1 h.2

theorem b64_inj {T : List UInt8} (hT : Good T 64) {a b : List UInt8} (h : b64 T a = b64 T b) : a = b := by
  rw [← un64_b64 hT a, h, un64_b64 hT b]

theorem g_app_l {p q : List UInt8} {i : Nat} (h : i < p.length) : g (p ++ q) i = g p i := by
  unfold g; rw [List.getD_eq_getElem?_getD, List.getD_eq_getElem?_getD, List.getElem?_append_left h]
theorem g_app_r {p q : List UInt8} {i : Nat} (h : p.length ≤ i) : g (p ++ q) i = g q (i - p.length) := by
  unfold g; rw [List.getD_eq_getElem?_getD, List.getD_eq_getElem?_getD, List.getElem?_append_right h]

/-- piece by piece -/
theorem b64_join (T p q : List UInt8) (h3 : p.length % 3 = 0) : b64 T (p ++ q) = b64 T p ++ b64 T q := by
  obtain ⟨k, hk⟩ : ∃ k, p.length = 3 * k := ⟨p.length / 3, by omega⟩
  have hn : n6 p.length = 4 * k := by unfold n6; omega
  apply list_eq
  · rw [List.length_append, b64_len, b64_len, b64_len, List.length_append]; unfold n6; omega
  intro i hi
  rw [b64_len] at hi
  have e : ∀ j, (b64 T p ++ b64 T q).getD j 0 = if j < 4 * k then (b64 T p).getD j 0 else (b64 T q).getD (j - 4 * k) 0 := by
    intro j
    rw [List.getD_eq_getElem?_getD, List.getElem?_append, b64_len, hn]
    split <;> rw [List.getD_eq_getElem?_getD]
  rw [e]
  have hL : (p ++ q).length = 3 * k + q.length := by rw [List.length_append, hk]
  rw [hL] at hi
  obtain ⟨a, r, h4, rfl⟩ : ∃ a r, r < 4 ∧ i = 4 * a + r := ⟨i / 4, i % 4, by omega, by omega⟩
  unfold b64
  rw [getD_map, if_pos (by rw [hL]; exact hi)]
  by_cases ha : a < k
  · rw [if_pos (by omega), getD_map, if_pos (by omega)]
    congr 1
    unfold six
    rw [show (4 * a + r) / 4 * 3 = 3 * a by omega, g_app_l (by omega), g_app_l (by omega), g_app_l (by omega)]
  · rw [if_neg (by omega), getD_map, if_pos (by unfold n6 at hi ⊢; omega)]
    congr 1
    unfold six
    rw [show (4 * a + r) / 4 * 3 = 3 * a by omega, show (4 * a + r - 4 * k) % 4 = (4 * a + r) % 4 by omega, show (4 * a + r - 4 * k) / 4 * 3 = 3 * (a - k) by omega, g_app_r (by omega), g_app_r (by omega), g_app_r (by omega), hk,
      show 3 * a - 3 * k = 3 * (a - k) by omega, show 3 * a + 1 - 3 * k = 3 * (a - k) + 1 by omega, show 3 * a + 2 - 3 * k = 3 * (a - k) + 2 by omega]

theorem std_join (p q : List UInt8) (h3 : p.length % 3 = 0) : std (p ++ q) = std p ++ std q := by
  have h0 : pad (n6 p.length) = [] := by
    unfold pad; rw [show (4 - n6 p.length % 4) % 4 = 0 by unfold n6; omega]; rfl
  have h1 : pad (n6 (p ++ q).length) = pad (n6 q.length) := by
    have e : n6 (p ++ q).length % 4 = n6 q.length % 4 := by
      rw [List.length_append]; unfold n6
      obtain ⟨k, hk⟩ : ∃ k, p.length = 3 * k := ⟨p.length / 3, by omega⟩
      rw [hk, show (8 * (3 * k + q.length) + 5) / 6 = 4 * k + (8 * q.length + 5) / 6 by omega]; omega
    unfold pad; rw [e]
  unfold std
  rw [b64_join stdT p q h3, h1, h0, List.append_nil, List.append_assoc]

/-- hexadecimal digits -/
def unhex (s : List UInt8) : List UInt8 := (List.range (s.length / 2)).map fun m => UInt8.ofNat (num hexT 16 s (2 * m) * 16 + num hexT 16 s (2 * m + 1))

theorem unhex_len (s : List UInt8) : (unhex s).length = s.length / 2 := by simp [unhex]

theorem four0 (l : List UInt8) (k : Nat) : four l (2 * k) = g l k / 16 := by
  unfold four; rw [if_pos (by omega), show 2 * k / 2 = k by omega]
theorem four1 (l : List UInt8) (k : Nat) : four l (2 * k + 1) = g l k % 16 := by
  unfold four; rw [if_neg (by omega), show (2 * k + 1) / 2 = k by omega]

theorem rd_hex (l : List UInt8) (m : Nat) (hm : m < 2 * l.length) : rd hexT 16 ((hex l).getD m 0) = four l m + 1 := by
  unfold hex; rw [getD_map, if_pos hm]; exact hexGood.back _ (four_lt l m)
theorem num_hex (l : List UInt8) (m : Nat) (hm : m < 2 * l.length) : num hexT 16 (hex l) m = four l m := by
  unfold num; rw [rd_hex l m hm]; omega
theorem valid_hex (l : List UInt8) : valid hexT 16 (hex l) := by
  intro i hi; rw [hex_len] at hi; rw [rd_hex l i hi]; omega

theorem unhex_hex (l : List UInt8) : unhex (hex l) = l := by
  have hl : (unhex (hex l)).length = l.length := by rw [unhex_len, hex_len]; omega
  apply list_eq hl
  intro m hm
  rw [hl] at hm
  unfold unhex
  rw [getD_map, if_pos (by rw [unhex_len] at hl; omega)]
  apply of_toNat
  show _ = g l m
  have g0 := g_lt l m
  rw [num_hex l _ (by omega), num_hex l _ (by omega), four0, four1]; omega

theorem hex_unhex (s : List UInt8) (hv : valid hexT 16 s) (h2 : s.length % 2 = 0) : hex (unhex s) = s := by
  have hl : (hex (unhex s)).length = s.length := by rw [hex_len, unhex_len]; omega
  apply list_eq hl
  intro i hi
  rw [hl] at hi
  unfold hex
  rw [getD_map, if_pos (by rw [hex_len] at hl; omega)]
  have hx := num_lt (T := hexT) (n := 16) (by decide) s
  have hg : ∀ m, m < s.length / 2 → g (unhex s) m = num hexT 16 s (2 * m) * 16 + num hexT 16 s (2 * m + 1) := by
    intro m hm
    unfold g unhex
    rw [getD_map, if_pos hm, toNat_of (by have := hx (2 * m); have := hx (2 * m + 1); omega)]
  obtain ⟨k, r, h3, rfl⟩ : ∃ k r, r < 2 ∧ i = 2 * k + r := ⟨i / 2, i % 2, by omega, by omega⟩
  have x0 := hx (2 * k)
  have x1 := hx (2 * k + 1)
  match r, h3 with
  | 0, _ =>
    show hexT.getD (four (unhex s) (2 * k)) 0 = s.getD (2 * k) 0
    rw [four0, hg k (by omega), show (num hexT 16 s (2 * k) * 16 + num hexT 16 s (2 * k + 1)) / 16 = num hexT 16 s (2 * k) by omega]
    exact num_at (hv (2 * k) (by omega))
  | 1, _ =>
    rw [four1, hg k (by omega), show (num hexT 16 s (2 * k) * 16 + num hexT 16 s (2 * k + 1)) % 16 = num hexT 16 s (2 * k + 1) by omega]
    exact num_at (hv (2 * k + 1) (by omega))

theorem takenHex (s : List UInt8) : hex (unhex s) = s ↔ valid hexT 16 s ∧ s.length % 2 = 0 := by
  constructor
  · intro h; rw [← h]; exact ⟨valid_hex _, by rw [hex_len]; omega⟩
  · exact fun h => hex_unhex s h.1 h.2

theorem hex_inj {a b : List UInt8} (h : hex a = hex b) : a = b := by rw [← unhex_hex a, h, unhex_hex b]

theorem hex_join (p q : List UInt8) : hex (p ++ q) = hex p ++ hex q := by
  apply list_eq
  · rw [List.length_append, hex_len, hex_len, hex_len, List.length_append]; omega
  intro i hi
  rw [hex_len, List.length_append] at hi
  have e : (hex p ++ hex q).getD i 0 = if i < 2 * p.length then (hex p).getD i 0 else (hex q).getD (i - 2 * p.length) 0 := by
    rw [List.getD_eq_getElem?_getD, List.getElem?_append, hex_len]
    split <;> rw [List.getD_eq_getElem?_getD]
  rw [e]
  unfold hex
  rw [getD_map, if_pos (by rw [List.length_append]; exact hi)]
  by_cases h : i < 2 * p.length
  · rw [if_pos h, getD_map, if_pos h]
    congr 1
    unfold four
    rw [g_app_l (by omega)]
  · rw [if_neg h, getD_map, if_pos (by omega)]
    congr 1
    unfold four
    rw [g_app_r (by omega), show (i - 2 * p.length) % 2 = i % 2 by omega, show i / 2 - p.length = (i - 2 * p.length) / 2 by omega]

/-- letters, and then signs that are none: the parting is one -/
theorem part_one {A B P Q : List UInt8} (hA : ∀ c ∈ A, c ≠ 61) (hB : ∀ c ∈ B, c ≠ 61) (hP : ∀ c ∈ P, c = 61) (hQ : ∀ c ∈ Q, c = 61) (h : A ++ P = B ++ Q) : A = B ∧ P = Q := by
  induction A generalizing B with
  | nil =>
    cases B with
    | nil => exact ⟨rfl, h⟩
    | cons b B =>
      rw [List.nil_append] at h
      exact absurd (hP b (by rw [h]; simp)) (hB b (by simp))
  | cons a A ih =>
    cases B with
    | nil =>
      rw [List.nil_append] at h
      exact absurd (hQ a (by rw [← h]; simp)) (hA a (by simp))
    | cons b B =>
      simp only [List.cons_append, List.cons.injEq] at h
      have := ih (fun c hc => hA c (by simp [hc])) (fun c hc => hB c (by simp [hc])) h.2
      exact ⟨by rw [h.1, this.1], this.2⟩

theorem valid_ne {T : List UInt8} (hT : Good T 64) {s : List UInt8} (hv : valid T 64 s) : ∀ c ∈ s, c ≠ 61 := by
  intro c hc h
  obtain ⟨i, hi, rfl⟩ := List.getElem_of_mem hc
  have := hv i hi
  rw [List.getD_eq_getElem?_getD, List.getElem?_eq_getElem hi] at this
  simp only [Option.getD_some] at this
  rw [h] at this
  exact this hT.eqs

theorem pad_all (n : Nat) : ∀ c ∈ pad n, c = 61 := by intro c hc; unfold pad at hc; exact (List.mem_replicate.1 hc).2

/-- when the document's reader of padded texts takes a text: l is the text without the signs at its end, e these signs -/
theorem takenStd (l e : List UInt8) (hv : valid stdT 64 l) (he : ∀ c ∈ e, c = 61) : std (un64 stdT l) = l ++ e ↔ e = pad l.length ∧ restOk stdT l := by
  unfold std
  constructor
  · intro h
    obtain ⟨h1, h2⟩ := part_one (valid_ne stdGood (valid_b64 stdGood _)) (valid_ne stdGood hv) (pad_all _) he h
    have hr := ((taken64 stdGood l).1 h1).2
    rw [un64_len, n6n8 hr.1] at h2
    exact ⟨h2.symm, hr⟩
  · intro ⟨h1, h2⟩
    rw [b64_un64 stdT l hv h2, un64_len, n6n8 h2.1, h1]

theorem std_inj {a b : List UInt8} (h : std a = std b) : a = b := by
  unfold std at h
  exact b64_inj stdGood (part_one (valid_ne stdGood (valid_b64 stdGood _)) (valid_ne stdGood (valid_b64 stdGood _)) (pad_all _) (pad_all _) h).1

theorem std_len (l : List UInt8) : (std l).length = (l.length + 2) / 3 * 4 := by
  unfold std pad
  rw [List.length_append, b64_len, List.length_replicate]
  obtain ⟨k, q, hq, e⟩ : ∃ k q, q < 3 ∧ l.length = 3 * k + q := ⟨l.length / 3, l.length % 3, by omega, by omega⟩
  rw [e]
  unfold n6
  match q, hq with
  | 0, _ => omega
  | 1, _ => omega
  | 2, _ => omega

end Go.Proofs.YtidccfflpcgkiaaGreatDoor.Rad
