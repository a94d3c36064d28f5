import Derived.Test.YticncaoecoehkaaDoorCrcP
namespace Go.Proofs.YticncaoecoehkaaDoor.crcw
open Go.ChangeShapes Go.WideShapes Go.ChangeAt Go.RowKit
open Go.Proofs.YticncaoecoehkaaDoor

theorem byte_shr (c : UInt8) (j : Nat) : (c.toNat : Int) % 4294967296 / 2 ^ j = ((BitVec.ofNat 32 c.toNat >>> j).toNat : Int) := by
  rw [byte_mod, BitVec.toNat_ushiftRight, Nat.shiftRight_eq_div_pow]; simp

theorem byte_bit (c : UInt8) (j : Nat) : bits .and .u32 ((c.toNat : Int) % 4294967296 / 2 ^ j) 1 = if (BitVec.ofNat 32 c.toNat).getLsbD j = true then 1 else 0 := by
  rw [byte_shr, low_bit]; simp only [BitVec.getLsbD_ushiftRight, Nat.add_zero]

theorem shr1 (x : BitVec 32) : (x.toNat : Int) / (2 : Int) = ((x >>> 1).toNat : Int) := by
  rw [BitVec.toNat_ushiftRight, Nat.shiftRight_eq_div_pow]; simp

theorem shr1_b (x : BitVec 32) (b : Bool) : (x ^^^ (if b = true then 1#32 else 0#32)) >>> 1 = x >>> 1 := by
  cases b
  · simp
  · apply BitVec.eq_of_getLsbD_eq; intro i hi
    have : (1#32).getLsbD (1 + i) = false := by rw [BitVec.getLsbD_one]; simp
    simp only [BitVec.getLsbD_ushiftRight, BitVec.getLsbD_xor, if_pos, this]; simp

theorem b_low (b : Bool) : (if b = true then 1#32 else 0#32).getLsbD 0 = b := by cases b <;> decide

theorem bit_yes (X : BitVec 32) (c : UInt8) (j : Nat) (h : (bits .and .u32 (X.toNat : Int) 1 != bits .and .u32 ((c.toNat : Int) % 4294967296 / 2 ^ j) 1) = true) :
    bits .xor .u32 ((X.toNat : Int) / 2) 3988292384 = ((Crc.z (X ^^^ (if (BitVec.ofNat 32 c.toNat).getLsbD j = true then 1#32 else 0#32))).toNat : Int) := by
  rw [low_bit, byte_bit] at h
  have e : (3988292384 : Int) = (Crc.poly.toNat : Int) := by decide
  rw [shr1, e, bits_xor]
  unfold Crc.z
  rw [shr1_b, BitVec.getLsbD_xor, b_low]
  have hx : (X.getLsbD 0 ^^ (BitVec.ofNat 32 c.toNat).getLsbD j) = true := by
    cases h1 : X.getLsbD 0 <;> cases h2 : (BitVec.ofNat 32 c.toNat).getLsbD j <;> rw [h1, h2] at h <;> simp at h ⊢
  rw [if_pos hx]

theorem bit_no (X : BitVec 32) (c : UInt8) (j : Nat) (h : (bits .and .u32 (X.toNat : Int) 1 != bits .and .u32 ((c.toNat : Int) % 4294967296 / 2 ^ j) 1) = false) :
    ((X.toNat : Int) / 2) = ((Crc.z (X ^^^ (if (BitVec.ofNat 32 c.toNat).getLsbD j = true then 1#32 else 0#32))).toNat : Int) := by
  rw [low_bit, byte_bit] at h
  rw [shr1]
  unfold Crc.z
  rw [shr1_b, BitVec.getLsbD_xor, b_low]
  have hx : ¬ (X.getLsbD 0 ^^ (BitVec.ofNat 32 c.toNat).getLsbD j) = true := by
    cases h1 : X.getLsbD 0 <;> cases h2 : (BitVec.ofNat 32 c.toNat).getLsbD j <;> rw [h1, h2] at h <;> simp at h ⊢
  rw [if_neg hx]; simp

theorem int_eq {k : IntKind} {a b : Int} (h : a = b) : Value.int k a = Value.int k b := by rw [h]

set_option maxHeartbeats 400000 in
theorem taken_any (r : BitVec 32) (s : ByteArray) (w : World) (hs : s.size ≤ maxLen) :
    Calls Tryd.prog 87 #[V r, .string s] w fun e w' => e = .returned (V (Crc.all r s.data.toList)) ∧ w' = w := by
  unfold maxLen at hs
  go_enter Tryd.func87, Tryd.ntmps87
  go_wp2
  go_loop [0, 5] (fun q i => ∃ k : Nat, k ≤ s.size ∧ i = .int .i64 k ∧ q = V (Crc.all r (s.data.toList.take k))) (fun _ i => s.size - (intOf i).toNat)
  case atStart => exact ⟨0, Nat.zero_le _, rfl, rfl⟩
  case round =>
    obtain ⟨k, hk, rfl, rfl⟩ := hrel
    by_cases hlt : k < s.size
    · have hts := hide (Crc.all_snoc r (s.data.toList.take k) s[k])
      have hsn := hide (take_snoc s k hlt)
      generalize Crc.all r (s.data.toList.take k) = R at *
      go_wp2
      go_loop [0, 7] (fun q i => ∃ j : Nat, j ≤ 8 ∧ i = .int .i64 j ∧ q = V (Crc.upto R (BitVec.ofNat 32 s[k].toNat) j)) (fun _ i => 8 - (intOf i).toNat)
      case atStart => exact ⟨0, Nat.zero_le _, rfl, rfl⟩
      case round =>
        obtain ⟨j, hj, rfl, rfl⟩ := hrel
        by_cases hj8 : j < 8
        · go_wp2
          · exact ⟨⟨j + 1, by omega, by go_num, int_eq (bit_yes _ _ _ (by assumption))⟩, by simp [intOf]; omega⟩
          · exact ⟨⟨j + 1, by omega, by go_num, int_eq (bit_no _ _ _ (by assumption))⟩, by simp [intOf]; omega⟩
        · obtain rfl : j = 8 := by omega
          go_wp2
          go_round
          case rel => exact ⟨k + 1, by omega, by go_num, by rw [hsn.out, hts.out, Crc.byte_bits]⟩
          case measure => simp [intOf]; omega
    · go_wp2
      go_ret
      exact ⟨ret_v (by rw [List.take_of_length_le (by simp; omega)]), rfl⟩

theorem inv_right (a : BitVec 32) : bits .xor .u32 (a.toNat : Int) 4294967295 = ((Crc.inv a).toNat : Int) := by
  have h := bits_xor a 4294967295#32
  have e : ((4294967295#32).toNat : Int) = 4294967295 := by decide
  rw [e] at h
  rw [h, BitVec.xor_comm, ← bits_xor, e]
  exact not_all a

theorem inv_zero : Crc.inv 0#32 = 4294967295#32 := by decide

theorem refCrc_any (s : ByteArray) (w : World) (hs : s.size ≤ maxLen) :
    Calls Tryd.prog 86 #[.string s] w fun e w' => e = .returned (V (Crc.more 0#32 s.data.toList)) ∧ w' = w := by
  have HS := hide hs
  clear hs
  have n1 := inv_right (Crc.all (Crc.inv 0#32) s.data.toList)
  go_enter Tryd.func86, Tryd.ntmps86
  go_wp2_with (go_at_call 87; refine (taken_any (Crc.inv 0#32) _ _ HS.out).mono ?_; rintro e w' ⟨rfl, rfl⟩)
  go_ret
  exact ⟨rfl, rfl⟩

end Go.Proofs.YticncaoecoehkaaDoor.crcw
