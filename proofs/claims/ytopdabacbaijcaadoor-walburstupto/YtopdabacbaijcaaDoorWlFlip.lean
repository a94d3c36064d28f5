import Derived.Test.YtopdabacbaijcaaDoorCrcP
import Derived.Test.YtopdabacbaijcaaDoorWlMath
import Derived.Laws.BitsAllLaws
namespace Go.Proofs.YtopdabacbaijcaaDoor.wflip
open Go.ChangeShapes Go.WideShapes Go.ChangeAt Go.RowKit
open Go.Proofs.YtopdabacbaijcaaDoor

def hit (n a : Nat) (m : BitVec 32) (k : Nat) : Bool := decide (a + k < 8 * n) && m.getLsbD k
def turned (l : List UInt8) (p : Nat) : List UInt8 := l.set (p / 8) (l.getD (p / 8) 0 ^^^ UInt8.ofNat (2 ^ (p % 8)))
def flipTo (l : List UInt8) (a : Nat) (m : BitVec 32) : Nat → List UInt8
  | 0 => l
  | k + 1 => if hit l.length a m k = true then turned (flipTo l a m k) (a + k) else flipTo l a m k
def anyTo (n a : Nat) (m : BitVec 32) : Nat → Bool
  | 0 => false
  | k + 1 => if hit n a m k = true then true else anyTo n a m k

theorem mask_bit (m : BitVec 32) (k : Nat) : bits .and .u32 ((m.toNat : Int) / 2 ^ k) 1 = if m.getLsbD k = true then 1 else 0 := by
  have e : (m.toNat : Int) / 2 ^ k = ((m >>> k).toNat : Int) := by
    rw [BitVec.toNat_ushiftRight, Nat.shiftRight_eq_div_pow]; simp
  rw [e, crcw.low_bit]; simp only [BitVec.getLsbD_ushiftRight, Nat.add_zero]

theorem xor_nat (x : UInt8) (q : Nat) (hq : q < 256) : bits .xor .u8 (x.toNat : Int) ((q : Int) % 256) = ((x ^^^ UInt8.ofNat q).toNat : Int) := by
  have e : (q : Int) % 256 = (q : Int) := by omega
  rw [e, u8_xor_nat _ _ x.toNat_lt hq, UInt8.toNat_xor]
  have : (UInt8.ofNat q).toNat = q := by
    rw [UInt8.toNat_ofNat']; exact Nat.mod_eq_of_lt (by simpa using hq)
  rw [this]

theorem xor_bit (x : UInt8) (p : Nat) : bits .xor .u8 (x.toNat : Int) (2 ^ (p % 8) % 256) = ((x ^^^ UInt8.ofNat (2 ^ (p % 8))).toNat : Int) := by
  have hp : 2 ^ (p % 8) < 256 := Nat.pow_lt_pow_of_lt (a := 2) (m := 8) (by decide) (Nat.mod_lt _ (by decide))
  have e : ((2 : Int) ^ (p % 8)) = ((2 ^ (p % 8) : Nat) : Int) := (Int.natCast_pow 2 (p % 8)).symm
  rw [e]
  exact xor_nat x _ hp

theorem flipTo_yes {n : Nat} {l : List UInt8} (hn : l.length = n) {a : Nat} {m : BitVec 32} {k : Nat} (h : hit n a m k = true) : flipTo l a m (k + 1) = turned (flipTo l a m k) (a + k) := by
  subst hn; simp only [flipTo, h, if_pos]
theorem flipTo_no {n : Nat} {l : List UInt8} (hn : l.length = n) {a : Nat} {m : BitVec 32} {k : Nat} (h : hit n a m k = false) : flipTo l a m (k + 1) = flipTo l a m k := by
  subst hn; simp [flipTo, h]
theorem anyTo_yes {n a : Nat} {m : BitVec 32} {k : Nat} (h : hit n a m k = true) : anyTo n a m (k + 1) = true := by simp [anyTo, h]
theorem anyTo_no {n a : Nat} {m : BitVec 32} {k : Nat} (h : hit n a m k = false) : anyTo n a m (k + 1) = anyTo n a m k := by simp [anyTo, h]

theorem flipTo_length (l : List UInt8) (a : Nat) (m : BitVec 32) (k : Nat) : (flipTo l a m k).length = l.length := by
  induction k with
  | zero => rfl
  | succ k ih => simp only [flipTo]; split <;> simp [turned, ih]

theorem pow_bit : ∀ i j : Fin 8, (BitVec.ofNat 32 (UInt8.ofNat (2 ^ j.val)).toNat).getLsbD i.val = decide (i.val = j.val) := by decide

theorem bitAt_turned (l : List UInt8) (p q : Nat) (hp : p < 8 * l.length) : Crc.bitAt (turned l p) q = (Crc.bitAt l q ^^ decide (q = p)) := by
  unfold Crc.bitAt turned
  have hd : p / 8 < l.length := by omega
  by_cases e : q / 8 = p / 8
  · rw [e]
    have h1 : (l.set (p / 8) (l.getD (p / 8) 0 ^^^ UInt8.ofNat (2 ^ (p % 8)))).getD (p / 8) 0 = l.getD (p / 8) 0 ^^^ UInt8.ofNat (2 ^ (p % 8)) := by
      simp [List.getD, hd]
    rw [h1, Crc.ofNat_xor, BitVec.getLsbD_xor]
    have h2 := pow_bit ⟨q % 8, Nat.mod_lt _ (by decide)⟩ ⟨p % 8, Nat.mod_lt _ (by decide)⟩
    simp only at h2
    rw [h2]
    congr 1
    by_cases h3 : q = p
    · subst h3; simp
    · rw [decide_eq_false h3, decide_eq_false (by omega)]
  · have h1 : (l.set (p / 8) (l.getD (p / 8) 0 ^^^ UInt8.ofNat (2 ^ (p % 8)))).getD (q / 8) 0 = l.getD (q / 8) 0 := by
      simp only [List.getD]
      rw [List.getElem?_set_ne (by omega)]
    rw [h1, decide_eq_false (by intro h; subst h; exact e rfl)]; simp

theorem flipTo_bit (l : List UInt8) (a : Nat) (m : BitVec 32) (k : Nat) (p : Nat) (hp : p < 8 * l.length) :
    Crc.bitAt (flipTo l a m k) p = (Crc.bitAt l p ^^ (decide (a ≤ p) && decide (p < a + k) && m.getLsbD (p - a))) := by
  induction k with
  | zero =>
    have : (decide (a ≤ p) && decide (p < a + 0)) = false := by
      by_cases h : a ≤ p
      · rw [decide_eq_false (show ¬ p < a + 0 by omega)]; simp
      · rw [decide_eq_false h]; simp
    rw [this]; simp [flipTo]
  | succ k ih =>
    by_cases hh : hit l.length a m k = true
    · rw [flipTo_yes rfl hh]
      have hh2 := hh
      simp only [hit, Bool.and_eq_true, decide_eq_true_eq] at hh2
      rw [bitAt_turned _ _ _ (by rw [flipTo_length]; exact hh2.1), ih]
      by_cases h1 : p = a + k
      · subst h1
        rw [decide_eq_false (show ¬ a + k < a + k by omega), decide_eq_true (show a + k < a + (k + 1) by omega), decide_eq_true (show a ≤ a + k by omega), Nat.add_sub_cancel_left, hh2.2]
        simp
      · rw [decide_eq_false h1]
        have : decide (p < a + (k + 1)) = decide (p < a + k) := by
          by_cases h2 : p < a + k
          · rw [decide_eq_true h2, decide_eq_true (by omega)]
          · rw [decide_eq_false h2, decide_eq_false (by omega)]
        rw [this]; simp
    · rw [flipTo_no rfl (by simpa using hh), ih]
      by_cases h1 : p = a + k
      · subst h1
        have hm : m.getLsbD k = false := by
          simp only [hit, Bool.and_eq_true, decide_eq_true_eq, not_and] at hh
          simpa using hh hp
        rw [Nat.add_sub_cancel_left, hm]; simp
      · have : decide (p < a + (k + 1)) = decide (p < a + k) := by
          by_cases h2 : p < a + k
          · rw [decide_eq_true h2, decide_eq_true (by omega)]
          · rw [decide_eq_false h2, decide_eq_false (by omega)]
        rw [this]

theorem anyTo_ex (n a : Nat) (m : BitVec 32) (k : Nat) (h : anyTo n a m k = true) : ∃ j, j < k ∧ hit n a m j = true := by
  induction k with
  | zero => simp [anyTo] at h
  | succ k ih =>
    by_cases hh : hit n a m k = true
    · exact ⟨k, by omega, hh⟩
    · rw [anyTo_no (by simpa using hh)] at h
      obtain ⟨j, hj, h2⟩ := ih h
      exact ⟨j, by omega, h2⟩

theorem more_burst_r (r : BitVec 32) (s t : List UInt8) (hl : t.length = s.length) (at0 : Nat) (m : BitVec 32) (hb : ∀ p, p < 8 * s.length → (Crc.bitAt s p ^^ Crc.bitAt t p) = Crc.burst at0 m p) (k : Nat) (hk : k < 32) (hn : at0 + k < 8 * s.length) (hm : m.getLsbD k = true) : Crc.more r s ≠ Crc.more r t := by
  intro h
  have h2 : Crc.all (~~~r) s = Crc.all (~~~r) t := by
    unfold Crc.more Crc.inv at h
    have := congrArg (fun x => ~~~x) h
    simpa using this
  have h3 : Crc.all (~~~r) s ^^^ Crc.all (~~~r) t = 0#32 := by rw [h2]; simp
  rw [Crc.all_feed, Crc.all_feed, hl, ← Crc.feed_xor, Crc.feed_congr _ _ _ _ hb] at h3
  have e : (~~~r ^^^ ~~~r) = 0#32 := by simp
  rw [e] at h3
  exact Crc.feed_burst at0 m _ k hk hn hm h3
theorem burst_csum (l : List UInt8) (a : Nat) (m : BitVec 32) (h : anyTo l.length a m 32 = true) : Wl.csum (flipTo l a m 32) ≠ Wl.csum l := by
  obtain ⟨j, hj, hh⟩ := anyTo_ex _ _ _ _ h
  simp only [hit, Bool.and_eq_true, decide_eq_true_eq] at hh
  have h1 := more_burst_r (Crc.more 0#32 (Wl.num4 l.length)) l _ (flipTo_length _ _ _ _) a m (fun p hp => by
    rw [flipTo_bit _ _ _ _ _ hp]
    unfold Crc.burst
    generalize (decide (a ≤ p) && decide (p < a + 32) && m.getLsbD (p - a)) = y
    cases Crc.bitAt l p <;> cases y <;> rfl) j hj hh.1 hh.2
  intro he
  apply h1
  unfold Wl.csum at he
  rw [flipTo_length, Crc.more_append, Crc.more_append] at he
  exact (BitVec.eq_of_toNat_eq he).symm
/-- a payload with bits turned behind an elder head is no sound frame -/
theorem first_turned (p q z : List UInt8) (hl : q.length = p.length) (hf : Wl.fit p.length = true) (hc : Wl.csum q ≠ Wl.csum p) : Wl.first (Wl.hd p ++ (q ++ z)) = none := by
  cases hh : Wl.first (Wl.hd p ++ (q ++ z)) with
  | none => rfl
  | some x =>
    exfalso
    obtain ⟨h1, h2⟩ := Wl.first_some hh
    have hpl := (Wl.fit_iff _).1 hf
    have hxl := (Wl.fit_iff _).1 h1
    have hv1 : Wl.val4 (Wl.hd p ++ (q ++ z)) = p.length := Wl.val4_hd _ _ (by omega)
    have hv2 : Wl.val4 (Wl.hd p ++ (q ++ z)) = x.length := by
      rw [h2]; unfold Wl.fr; rw [List.append_assoc]; exact Wl.val4_hd _ _ (by omega)
    have hxp : x.length = p.length := by omega
    unfold Wl.fr at h2
    rw [List.append_assoc] at h2
    have h3 := List.append_inj h2 (by rw [Wl.hd_len, Wl.hd_len])
    have h4 := List.append_inj h3.2 (by omega)
    rw [← h4.1] at h3
    have h5 := h3.1
    unfold Wl.hd at h5
    have h6 := (List.append_inj h5 (by rw [Wl.num4_len, Wl.num4_len])).2
    have h7 := congrArg (fun y => Wl.val4 (y ++ [])) h6
    simp only [Wl.val4_num4 _ (Wl.csum_lt _)] at h7
    exact hc h7.symm
theorem burst_good (G : List (List UInt8)) (hf : ∀ p ∈ G, Wl.fit p.length = true) (n : Nat) (hn : n < G.length) (q : List UInt8) (hl : q.length = G[n].length) (hc : Wl.csum q ≠ Wl.csum G[n]) (z : List UInt8) :
    Wl.Good ((Wl.flat (G.take n) ++ Wl.hd G[n]) ++ (q ++ z)) (G.take n) (Wl.hd G[n] ++ (q ++ z)) :=
  ⟨by rw [List.append_assoc], fun p hp => hf p (List.mem_of_mem_take hp), first_turned _ _ _ hl (hf _ (List.getElem_mem hn)) hc⟩
end Go.Proofs.YtopdabacbaijcaaDoor.wflip
