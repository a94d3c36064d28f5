import Derived.Test.YthobocfpfolhiaaDoorFlipWalks
namespace Go.Proofs.YthobocfpfolhiaaDoor.flipw
open Go.Proofs.YthobocfpfolhiaaDoor

theorem pow_bit : ∀ i j : Fin 8, (BitVec.ofNat 32 (UInt8.ofNat (2 ^ j.val)).toNat).getLsbD i.val = decide (i.val = j.val) := by decide

theorem bitAt_turned (l : List UInt8) (p q : Nat) (hp : p < 8 * l.length) : Crc.bitAt (turned l p) q = (Crc.bitAt l q ^^ decide (q = p)) := by
  unfold Crc.bitAt turned
  have hd : p / 8 < l.length := by omega
  by_cases e : q / 8 = p / 8
  · rw [e]
    have h1 : (l.set (p / 8) (l.getD (p / 8) 0 ^^^ UInt8.ofNat (2 ^ (p % 8)))).getD (p / 8) 0 = l.getD (p / 8) 0 ^^^ UInt8.ofNat (2 ^ (p % 8)) := by
      simp [List.getD, hd]
    rw [h1, Crc.ofNat_xor, BitVec.getLsbD_xor]
    have h2 := pow_bit ⟨q % 8, Nat.mod_lt _ (by decide)⟩ ⟨p % 8, Nat.mod_lt _ (by decide)⟩
    simp only at h2
    rw [h2]
    congr 1
    by_cases h3 : q = p
    · subst h3; simp
    · rw [decide_eq_false h3, decide_eq_false (by omega)]
  · have h1 : (l.set (p / 8) (l.getD (p / 8) 0 ^^^ UInt8.ofNat (2 ^ (p % 8)))).getD (q / 8) 0 = l.getD (q / 8) 0 := by
      simp only [List.getD]
      rw [List.getElem?_set_ne (by omega)]
    rw [h1, decide_eq_false (by intro h; subst h; exact e rfl)]; simp

theorem flipTo_bit (l : List UInt8) (a : Nat) (m : BitVec 32) (k : Nat) (p : Nat) (hp : p < 8 * l.length) :
    Crc.bitAt (flipTo l a m k) p = (Crc.bitAt l p ^^ (decide (a ≤ p) && decide (p < a + k) && m.getLsbD (p - a))) := by
  induction k with
  | zero =>
    have : (decide (a ≤ p) && decide (p < a + 0)) = false := by
      by_cases h : a ≤ p
      · rw [decide_eq_false (show ¬ p < a + 0 by omega)]; simp
      · rw [decide_eq_false h]; simp
    rw [this]; simp [flipTo]
  | succ k ih =>
    by_cases hh : hit l.length a m k = true
    · rw [flipTo_yes rfl hh]
      have hh2 := hh
      simp only [hit, Bool.and_eq_true, decide_eq_true_eq] at hh2
      rw [bitAt_turned _ _ _ (by rw [flipTo_length]; exact hh2.1), ih]
      by_cases h1 : p = a + k
      · subst h1
        rw [decide_eq_false (show ¬ a + k < a + k by omega), decide_eq_true (show a + k < a + (k + 1) by omega), decide_eq_true (show a ≤ a + k by omega), Nat.add_sub_cancel_left, hh2.2]
        simp
      · rw [decide_eq_false h1]
        have : decide (p < a + (k + 1)) = decide (p < a + k) := by
          by_cases h2 : p < a + k
          · rw [decide_eq_true h2, decide_eq_true (by omega)]
          · rw [decide_eq_false h2, decide_eq_false (by omega)]
        rw [this]; simp
    · rw [flipTo_no rfl (by simpa using hh), ih]
      by_cases h1 : p = a + k
      · subst h1
        have hm : m.getLsbD k = false := by
          simp only [hit, Bool.and_eq_true, decide_eq_true_eq, not_and] at hh
          simpa using hh hp
        rw [Nat.add_sub_cancel_left, hm]; simp
      · have : decide (p < a + (k + 1)) = decide (p < a + k) := by
          by_cases h2 : p < a + k
          · rw [decide_eq_true h2, decide_eq_true (by omega)]
          · rw [decide_eq_false h2, decide_eq_false (by omega)]
        rw [this]

theorem anyTo_ex (n a : Nat) (m : BitVec 32) (k : Nat) (h : anyTo n a m k = true) : ∃ j, j < k ∧ hit n a m j = true := by
  induction k with
  | zero => simp [anyTo] at h
  | succ k ih =>
    by_cases hh : hit n a m k = true
    · exact ⟨k, by omega, hh⟩
    · rw [anyTo_no (by simpa using hh)] at h
      obtain ⟨j, hj, h2⟩ := ih h
      exact ⟨j, by omega, h2⟩

theorem burst_told (l : List UInt8) (a : Nat) (m : BitVec 32) (h : anyTo l.length a m 32 = true) : Crc.more 0#32 l ≠ Crc.more 0#32 (flipTo l a m 32) := by
  obtain ⟨j, hj, hh⟩ := anyTo_ex _ _ _ _ h
  simp only [hit, Bool.and_eq_true, decide_eq_true_eq] at hh
  refine Crc.more_burst l _ (flipTo_length _ _ _ _) a m ?_ j hj hh.1 hh.2
  intro p hp
  rw [flipTo_bit _ _ _ _ _ hp]
  unfold Crc.burst
  generalize (decide (a ≤ p) && decide (p < a + 32) && m.getLsbD (p - a)) = y
  cases Crc.bitAt l p <;> cases y <;> rfl

end Go.Proofs.YthobocfpfolhiaaDoor.flipw
