import Derived.Test.YtocpikgcbibcoaaGreatDoorMRcList
import Derived.Deep.RegionHeld3
namespace Go.Proofs.YtocpikgcbibcoaaGreatDoor.rc
open Go.ChangeShapes Go.WideShapes Go.ChangeAt Go.RowKit Go.Proofs.YtocpikgcbibcoaaGreatDoor.common Go.Proofs.YtocpikgcbibcoaaGreatDoor.bk Go.Proofs.YtocpikgcbibcoaaGreatDoor.ss Go.Proofs.YtocpikgcbibcoaaGreatDoor.tm
attribute [local go_sem ↓] Go.wp_at_zero Go.wp_at_succ

theorem bdN' {b : Nat} {a c : World} (h : Below b a c) (n : Nat) : Below b a (c.drewN n) := ⟨h.1, h.2, h.3, h.4, h.5⟩
theorem getD_at (l : List ByteArray) (i : Nat) (h : i < l.length) : l.getD i ByteArray.empty = l[i] := by simp [List.getD, h]
set_option maxRecDepth 100000 in
set_option maxHeartbeats 1600000 in
theorem isRising_any (v : Value) (l : List ByteArray) (w : World) (hL : Lies w v l) (hl : l.length ≤ 4611686018427387904) :
    Calls Tryz.prog 58 #[v] w fun e w' => e = .returned (.bool (risB l)) ∧ Below w.heap.size w w' := by
  have HL := hide hL
  obtain ⟨oa, cap, rfl⟩ := Lies.len hL
  clear hL
  have HT : Hid (ris l (l.length - 1) → risB l = true) := fun h => decide_eq_true (fun i h1 h2 => h i (by omega) h2)
  have HN : Hid (∀ i, i + 1 < l.length → ¬ (l.getD i ByteArray.empty).data.toList < (l.getD (i + 1) ByteArray.empty).data.toList → risB l = false) := fun i h1 h2 => decide_eq_false (fun h => h2 (h i (by omega) h1))
  go_enter Tryz.func58, Tryz.ntmps58
  go_wp2
  go_loopw [7] (fun i wr => ∃ k : Nat, (k = 0 ∨ k < l.length) ∧ i = .int .i64 k ∧ ris l k ∧ Below w.heap.size w wr) (fun i _ => l.length - (intOf i).toNat)
  case atStart => exact ⟨0, Or.inl rfl, rfl, fun i h => absurd h (Nat.not_lt_zero _), Below.refl _ _⟩
  case round =>
    obtain ⟨k, hk, rfl, hr, hnx⟩ := hrel
    have HR := hide hr
    have HX := hide hnx
    by_cases hlt : k + 1 < l.length
    · have k1 : (k : Int) < (l.length : Int) - 1 := by omega
      have k0 : (0 : Int) ≤ (k : Int) := Int.natCast_nonneg _
      have k2 : (k : Int) < (l.length : Int) := by omega
      have k3 : (k : Int) + 1 < (l.length : Int) := by omega
      have k4 : (0 : Int) ≤ (k : Int) + 1 := by omega
      obtain ⟨_, _, hv, hc⟩ := HL.out.below hnx
      cases hv
      obtain ⟨b, o, rfl, hb, c0⟩ := hc k (by omega)
      obtain ⟨b', o', he, hb', c1⟩ := hc (k + 1) hlt
      cases he
      have HNK := hide (HN.out k hlt)
      rw [getD_at l k (by omega), getD_at l (k + 1) hlt] at HNK
      have HRS : Hid (l[k].data.toList < l[k + 1].data.toList → ris l (k + 1)) := fun h i h1 h2 => by
        by_cases hik : i < k
        · exact HR.out i hik h2
        · obtain rfl : i = k := by omega
          rw [getD_at l i (by omega), getD_at l (i + 1) hlt]; exact h
      have hg := lessB l[k] l[k + 1]
      generalize l[k] = s at *
      generalize l[k + 1] = t at *
      have c2 := c1
      rw [← Nat.add_assoc] at c2
      have hw : IntKind.i64.wrap ((k : Int) + 1) = (k : Int) + 1 := by unfold IntKind.wrap; simp [IntKind.signed, IntKind.bits]; omega
      clear hr hnx hc HN
      by_cases hst : s.data.toList < t.data.toList
      · rw [decide_eq_true hst] at hg
        have HS := hide hst
        clear hst
        go_wp2_with fail
        go_quiet (fail)
        go_wp2_with fail
        go_roundw
        case rel => exact ⟨k + 1, Or.inr hlt, by go_num, HRS.out HS.out, bdN' HX.out nq⟩
        case measure => simp [intOf]; omega
      · rw [decide_eq_false hst] at hg
        have HS := hide (HNK.out hst)
        clear hst
        go_wp2_with fail
        go_quiet (fail)
        go_wp2_with fail
        go_ret
        exact ⟨by rw [HS.out]; rfl, bdN' HX.out nq⟩
    · have k1 : ¬ ((k : Int) < (l.length : Int) - 1) := by omega
      have HS : Hid (risB l = true) := HT.out (fun i h1 h2 => hr i (by omega) h2)
      clear hr hnx
      go_wp2_with fail
      go_ret
      exact ⟨by rw [HS.out]; rfl, HX.out⟩

set_option maxRecDepth 100000 in
set_option maxHeartbeats 1600000 in
/-- is the list just one text? -/
theorem equalOne_any (v : Value) (l : List ByteArray) (s : ByteArray) (b : Nat) (w : World) (hL : Lies w v l) (hl : l.length ≤ 4611686018427387904) (hb : w.cell? ⟨b, 0, none⟩ = some (.string s)) :
    Calls Tryz.prog 76 #[v, .slice (some ⟨b, 0, none⟩) 1 1] w fun e w' => e = .returned (.bool (decide (l = [s]))) ∧ Below w.heap.size w w' := by
  obtain ⟨oa, cap, rfl, hc⟩ := hL
  by_cases h1 : l.length = 1
  · obtain ⟨t, rfl⟩ : ∃ t, l = [t] := by
      cases l with
      | nil => cases h1
      | cons a r =>
        cases r with
        | nil => exact ⟨a, rfl⟩
        | cons c r => simp at h1
    obtain ⟨b', o', he, hb', c0⟩ := hc 0 (by simp)
    subst he
    simp only [Nat.add_zero, List.getElem_cons_zero] at c0
    clear hc h1 hl
    by_cases hst : t = s
    · subst hst
      have HR : Hid (decide ([t] = [t]) = true) := decide_eq_true rfl
      go_enter Tryz.func76, Tryz.ntmps76
      go_wp2
      go_loopw [13] (fun i wr => ∃ k : Nat, k ≤ 1 ∧ i = .int .i64 k ∧ Below w.heap.size w wr ∧ wr.cell? ⟨b', o', none⟩ = some (.string t) ∧ wr.cell? ⟨b, 0, none⟩ = some (.string t)) (fun i _ => 1 - (intOf i).toNat)
      case atStart => exact ⟨0, by decide, rfl, Below.refl _ _, c0, hb⟩
      case round =>
        obtain ⟨k, hk, rfl, hnx, d0, d1⟩ := hrel
        have HX := hide hnx
        clear hnx c0 hb
        by_cases hlt : k < 1
        · obtain rfl : k = 0 := by omega
          go_wp2_with fail
          go_quiet (fail)
          go_wp2_with fail
          go_roundw
          case rel => exact ⟨1, by decide, rfl, bdN' HX.out nq, d0, d1⟩
          case measure => simp [intOf]
        · have k1 : ¬ ((k : Int) < 1) := by omega
          clear d0 d1 HR
          go_wp2_with fail
          go_ret
          exact ⟨by simp, HX.out⟩
    · have HR : Hid (decide ([t] = [s]) = false) := decide_eq_false (fun h => hst (by simpa using h))
      have hne : (t.toList == s.toList) = false := beq_false_of_ne (fun h => hst (ba_ext (by rw [ByteArray.toList_eq, ByteArray.toList_eq] at h; exact h)))
      have hne' : (t.data.toList == s.data.toList) = false := by rw [ByteArray.toList_eq, ByteArray.toList_eq] at hne; exact hne
      clear hst
      go_enter Tryz.func76, Tryz.ntmps76
      go_wp2
      go_loopw [13] (fun i wr => i = .int .i64 0 ∧ Below w.heap.size w wr ∧ wr.cell? ⟨b', o', none⟩ = some (.string t) ∧ wr.cell? ⟨b, 0, none⟩ = some (.string s)) (fun i _ => 1 - (intOf i).toNat)
      case atStart => exact ⟨rfl, Below.refl _ _, c0, hb⟩
      case round =>
        obtain ⟨rfl, hnx, d0, d1⟩ := hrel
        have HX := hide hnx
        clear hnx c0 hb
        go_wp2_with fail
        go_quiet (fail)
        go_wp2_with fail
        go_ret
        exact ⟨by rw [HR.out]; rfl, bdN' HX.out nq⟩
  · have HR : Hid (decide (l = [s]) = false) := decide_eq_false (fun h => h1 (by rw [h]; rfl))
    have hb1 : ((l.length : Int) == 1) = false := beq_false_of_ne (by omega)
    have hb2 : ¬ (l.length : Int) = 1 := by omega
    clear hc
    go_enter Tryz.func76, Tryz.ntmps76
    go_wp2
    go_ret
    exact ⟨by rw [HR.out]; rfl, Below.refl _ _⟩
end Go.Proofs.YtocpikgcbibcoaaGreatDoor.rc

namespace Go.Proofs.YtocpikgcbibcoaaGreatDoor.Rad

/-- a byte of a text, 0 behind its end -/
def g (l : List UInt8) (i : Nat) : Nat := (l.getD i 0).toNat

theorem g_lt (l : List UInt8) (i : Nat) : g l i < 256 := (l.getD i 0).toNat_lt

/-- a number of six bits -/
def six (l : List UInt8) (m : Nat) : Nat :=
  match m % 4 with
  | 0 => g l (m / 4 * 3) / 4
  | 1 => g l (m / 4 * 3) % 4 * 16 + g l (m / 4 * 3 + 1) / 16
  | 2 => g l (m / 4 * 3 + 1) % 16 * 4 + g l (m / 4 * 3 + 2) / 64
  | _ => g l (m / 4 * 3 + 2) % 64

/-- a number of four bits -/
def four (l : List UInt8) (m : Nat) : Nat := if m % 2 = 0 then g l (m / 2) / 16 else g l (m / 2) % 16

theorem six_lt (l : List UInt8) (m : Nat) : six l m < 64 := by
  have h0 := g_lt l (m / 4 * 3)
  have h1 := g_lt l (m / 4 * 3 + 1)
  have h2 := g_lt l (m / 4 * 3 + 2)
  unfold six
  split <;> omega

/-- the letters of the three ways -/
def urlT : List UInt8 := [65, 66, 67, 68, 69, 70, 71, 72, 73, 74, 75, 76, 77, 78, 79, 80, 81, 82, 83, 84, 85, 86, 87, 88, 89, 90, 97, 98, 99, 100, 101, 102, 103, 104, 105, 106, 107, 108, 109, 110, 111, 112, 113, 114, 115, 116, 117, 118, 119, 120, 121, 122, 48, 49, 50, 51, 52, 53, 54, 55, 56, 57, 45, 95]
def hexT : List UInt8 := [48, 49, 50, 51, 52, 53, 54, 55, 56, 57, 97, 98, 99, 100, 101, 102]

/-- how many letters -/
def n6 (n : Nat) : Nat := (8 * n + 5) / 6

/-- the numbers of a text, six bits each, in letters of a table -/
def b64 (T l : List UInt8) : List UInt8 := (List.range (n6 l.length)).map fun m => T.getD (six l m) 0
def hex (l : List UInt8) : List UInt8 := (List.range (2 * l.length)).map fun m => hexT.getD (four l m) 0
/-- what is put behind them -/
def pad (n : Nat) : List UInt8 := List.replicate ((4 - n % 4) % 4) 61
theorem b64_len (T l : List UInt8) : (b64 T l).length = n6 l.length := by simp [b64]
end Go.Proofs.YtocpikgcbibcoaaGreatDoor.Rad

namespace Go.Proofs.YtocpikgcbibcoaaGreatDoor.Rad

theorem getD_map (n : Nat) (f : Nat → UInt8) (i : Nat) : ((List.range n).map f).getD i 0 = if i < n then f i else 0 := by
  rw [List.getD_eq_getElem?_getD, List.getElem?_map]
  by_cases h : i < n
  · rw [List.getElem?_range h, if_pos h]; rfl
  · rw [List.getElem?_eq_none (by simpa using h), if_neg h]; rfl

theorem list_eq {a b : List UInt8} (hl : a.length = b.length) (h : ∀ i, i < a.length → a.getD i 0 = b.getD i 0) : a = b := by
  apply List.ext_getElem hl
  intro i h1 h2
  have := h i h1
  rw [List.getD_eq_getElem?_getD, List.getD_eq_getElem?_getD, List.getElem?_eq_getElem h1, List.getElem?_eq_getElem h2] at this
  simpa using this

theorem getD_out {l : List UInt8} {i : Nat} (h : l.length ≤ i) : l.getD i 0 = 0 := by
  rw [List.getD_eq_getElem?_getD, List.getElem?_eq_none h]; rfl

/-- one more than the place of a letter in a table, of its first k; 0: it is none -/
def rd (T : List UInt8) : Nat → UInt8 → Nat
  | 0, _ => 0
  | k + 1, c => if T.getD k 0 = c then k + 1 else rd T k c

theorem rd_le (T : List UInt8) (k : Nat) (c : UInt8) : rd T k c ≤ k := by
  induction k with
  | zero => simp [rd]
  | succ k ih => unfold rd; split <;> omega

/-- a table that serves: its letters differ -/
structure Good (T : List UInt8) (n : Nat) : Prop where
  len : T.length = n
  back : ∀ i, i < n → rd T n (T.getD i 0) = i + 1
  eqs : rd T n 61 = 0
  zero : rd T n 0 = 0

theorem urlGood : Good urlT 64 := ⟨rfl, fun i hi => (show ∀ i : Fin 64, rd urlT 64 (urlT.getD i.val 0) = i.val + 1 by decide +kernel) ⟨i, hi⟩, by decide +kernel, by decide +kernel⟩
/-- the number of the letter i of a text -/
def num (T : List UInt8) (n : Nat) (s : List UInt8) (i : Nat) : Nat := rd T n (s.getD i 0) - 1

theorem num_lt {T : List UInt8} {n : Nat} (hn : 0 < n) (s : List UInt8) (i : Nat) : num T n s i < n := by
  have := rd_le T n (s.getD i 0); unfold num; omega

/-- a byte out of numbers of six bits -/
def byt (x : Nat → Nat) (m : Nat) : Nat :=
  match m % 3 with
  | 0 => x (m / 3 * 4) * 4 + x (m / 3 * 4 + 1) / 16
  | 1 => x (m / 3 * 4 + 1) % 16 * 16 + x (m / 3 * 4 + 2) / 4
  | _ => x (m / 3 * 4 + 2) % 4 * 64 + x (m / 3 * 4 + 3)

theorem byt_lt (x : Nat → Nat) (hx : ∀ i, x i < 64) (m : Nat) : byt x m < 256 := by
  have h0 := hx (m / 3 * 4)
  have h1 := hx (m / 3 * 4 + 1)
  have h2 := hx (m / 3 * 4 + 2)
  have h3 := hx (m / 3 * 4 + 3)
  unfold byt; split <;> omega

def n8 (n : Nat) : Nat := 6 * n / 8

def un64 (T s : List UInt8) : List UInt8 := (List.range (n8 s.length)).map fun m => UInt8.ofNat (byt (num T 64 s) m)

theorem un64_len (T s : List UInt8) : (un64 T s).length = n8 s.length := by simp [un64]

theorem toNat_of {n : Nat} (h : n < 256) : (UInt8.ofNat n).toNat = n := by
  simp only [UInt8.toNat_ofNat']; omega

theorem g_out {l : List UInt8} {i : Nat} (h : l.length ≤ i) : g l i = 0 := by unfold g; rw [getD_out h]; rfl

/-- the bits that are no byte's are 0 -/
def restOk (T s : List UInt8) : Prop := s.length % 4 ≠ 1 ∧ (s.length % 4 = 2 → num T 64 s (s.length - 1) % 16 = 0) ∧ (s.length % 4 = 3 → num T 64 s (s.length - 1) % 4 = 0)

def valid (T : List UInt8) (n : Nat) (s : List UInt8) : Prop := ∀ i, i < s.length → rd T n (s.getD i 0) ≠ 0

theorem rd_b64 {T : List UInt8} (hT : Good T 64) (l : List UInt8) (m : Nat) (hm : m < n6 l.length) : rd T 64 ((b64 T l).getD m 0) = six l m + 1 := by
  unfold b64
  rw [getD_map, if_pos hm]
  exact hT.back _ (six_lt l m)

theorem num_b64 {T : List UInt8} (hT : Good T 64) (l : List UInt8) (m : Nat) (hm : m < n6 l.length) : num T 64 (b64 T l) m = six l m := by
  unfold num; rw [rd_b64 hT l m hm]; omega

theorem valid_b64 {T : List UInt8} (hT : Good T 64) (l : List UInt8) : valid T 64 (b64 T l) := by
  intro i hi
  rw [b64_len] at hi
  rw [rd_b64 hT l i hi]; omega

theorem six_at1 (l : List UInt8) (k : Nat) : six l (4 * k + 1) = g l (3 * k) % 4 * 16 + g l (3 * k + 1) / 16 := by
  unfold six; rw [show (4 * k + 1) % 4 = 1 by omega, show (4 * k + 1) / 4 * 3 = 3 * k by omega]; rfl
theorem six_at0 (l : List UInt8) (k : Nat) : six l (4 * k) = g l (3 * k) / 4 := by
  unfold six; rw [show (4 * k) % 4 = 0 by omega, show (4 * k) / 4 * 3 = 3 * k by omega]; rfl
theorem six_at2 (l : List UInt8) (k : Nat) : six l (4 * k + 2) = g l (3 * k + 1) % 16 * 4 + g l (3 * k + 2) / 64 := by
  unfold six; rw [show (4 * k + 2) % 4 = 2 by omega, show (4 * k + 2) / 4 * 3 = 3 * k by omega]; rfl
theorem six_at3 (l : List UInt8) (k : Nat) : six l (4 * k + 3) = g l (3 * k + 2) % 64 := by
  unfold six; rw [show (4 * k + 3) % 4 = 3 by omega, show (4 * k + 3) / 4 * 3 = 3 * k by omega]; rfl

theorem rest_b64 {T : List UInt8} (hT : Good T 64) (l : List UInt8) : restOk T (b64 T l) := by
  unfold restOk
  rw [b64_len]
  refine ⟨by unfold n6; omega, fun h => ?_, fun h => ?_⟩
  · rw [num_b64 hT l _ (by unfold n6 at h ⊢; omega)]
    obtain ⟨k, hk⟩ : ∃ k, l.length = 3 * k + 1 := ⟨l.length / 3, by unfold n6 at h; omega⟩
    rw [show n6 l.length - 1 = 4 * k + 1 by unfold n6; omega, six_at1, g_out (show l.length ≤ 3 * k + 1 by omega)]
    omega
  · rw [num_b64 hT l _ (by unfold n6 at h ⊢; omega)]
    obtain ⟨k, hk⟩ : ∃ k, l.length = 3 * k + 2 := ⟨l.length / 3, by unfold n6 at h; omega⟩
    rw [show n6 l.length - 1 = 4 * k + 2 by unfold n6; omega, six_at2, g_out (show l.length ≤ 3 * k + 2 by omega)]
    omega

theorem of_toNat {a : UInt8} {n : Nat} (h : n = a.toNat) : UInt8.ofNat n = a := by subst h; exact UInt8.ofNat_toNat

/-- what was written is read as it was -/
theorem un64_b64 {T : List UInt8} (hT : Good T 64) (l : List UInt8) : un64 T (b64 T l) = l := by
  have hl : (un64 T (b64 T l)).length = l.length := by rw [un64_len, b64_len]; unfold n6 n8; omega
  apply list_eq hl
  intro m hm
  rw [hl] at hm
  unfold un64
  rw [getD_map, if_pos (by rw [un64_len] at hl; omega)]
  apply of_toNat
  show _ = g l m
  obtain ⟨k, r, h3, rfl⟩ : ∃ k r, r < 3 ∧ m = 3 * k + r := ⟨m / 3, m % 3, by omega, by omega⟩
  have g0 := g_lt l (3 * k)
  have g1 := g_lt l (3 * k + 1)
  have g2 := g_lt l (3 * k + 2)
  unfold byt
  rw [show (3 * k + r) % 3 = r by omega, show (3 * k + r) / 3 * 4 = 4 * k by omega]
  match r, h3 with
  | 0, _ =>
    show num T 64 (b64 T l) (4 * k) * 4 + num T 64 (b64 T l) (4 * k + 1) / 16 = g l (3 * k)
    rw [num_b64 hT l _ (by unfold n6; omega), num_b64 hT l _ (by unfold n6; omega), six_at0, six_at1]; omega
  | 1, _ =>
    show num T 64 (b64 T l) (4 * k + 1) % 16 * 16 + num T 64 (b64 T l) (4 * k + 2) / 4 = _
    rw [num_b64 hT l _ (by unfold n6; omega), num_b64 hT l _ (by unfold n6; omega), six_at1, six_at2]; omega
  | 2, _ =>
    show num T 64 (b64 T l) (4 * k + 2) % 4 * 64 + num T 64 (b64 T l) (4 * k + 3) = _
    rw [num_b64 hT l _ (by unfold n6; omega), num_b64 hT l _ (by unfold n6; omega), six_at2, six_at3]; omega

end Go.Proofs.YtocpikgcbibcoaaGreatDoor.Rad
