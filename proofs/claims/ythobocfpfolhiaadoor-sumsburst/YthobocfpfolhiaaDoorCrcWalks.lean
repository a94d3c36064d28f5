import Derived.Test.YthobocfpfolhiaaDoorRows
import Derived.Test.YthobocfpfolhiaaDoorCrcMath
import Derived.WalkKit
import Derived.ProofKit
import Derived.OpenShut
import Derived.WalkSpells
import Derived.WalkLawsBesides
import Derived.Outline
import Derived.Lib.LaidTab
import Derived.Laws.BitsAllLaws
namespace Go.Proofs.YthobocfpfolhiaaDoor.crcw
open Go.ChangeShapes Go.WideShapes Go.ChangeAt Go.RowKit
open Go.Proofs.YthobocfpfolhiaaDoor

theorem max32 : IntKind.u32.max = 4294967295 := by decide

theorem hide {p : Prop} (h : p) : Hid p := h

/-- a word as a value -/
abbrev V (x : BitVec 32) : Value := .int .u32 (x.toNat : Int)

theorem bits_xor (a b : BitVec 32) : bits .xor .u32 (a.toNat : Int) (b.toNat : Int) = ((a ^^^ b).toNat : Int) := by
  have h := u32_xor_nat a.toNat b.toNat (by have := a.isLt; omega) (by have := b.isLt; omega)
  rw [h, BitVec.toNat_xor]
theorem bits_and (a b : BitVec 32) : bits .and .u32 (a.toNat : Int) (b.toNat : Int) = ((a &&& b).toNat : Int) := by
  have h := u32_and_nat a.toNat b.toNat (by have := a.isLt; omega) (by have := b.isLt; omega)
  rw [h, BitVec.toNat_and]
theorem not_all (a : BitVec 32) : bits .xor .u32 4294967295 (a.toNat : Int) = ((~~~a).toNat : Int) := by
  have h := bits_xor 4294967295#32 a
  have e : ((4294967295#32).toNat : Int) = 4294967295 := by decide
  rw [e] at h
  rw [h]
  have : 4294967295#32 ^^^ a = ~~~a := by
    apply BitVec.eq_of_getLsbD_eq; intro i hi
    have f : (4294967295#32).getLsbD i = true := by
      have : ∀ k : Fin 32, (4294967295#32).getLsbD k.val = true := by decide
      exact this ⟨i, hi⟩
    simp only [BitVec.getLsbD_xor, f, BitVec.getLsbD_not, hi]; simp
  rw [this]

theorem not_max (a : BitVec 32) : bits .xor .u32 IntKind.u32.max (a.toNat : Int) = ((Crc.inv a).toNat : Int) := by
  rw [max32]; exact not_all a

set_option maxHeartbeats 400000 in
theorem takeByte_core (r c x n1 t1 s1 y n2 t2 s2 o : Nat) (w : World) (h1 : bits .xor .u32 (r : Int) ((c : Int) % 4294967296) = (x : Int)) (h2 : bits .and .u32 (x : Int) 15 = (n1 : Int)) (hn1 : n1 < 16)
    (h3 : (x : Int) / 16 = (s1 : Int)) (hc1 : w.cell? ⟨19, n1, none⟩ = some (.int .u32 (t1 : Int))) (h4 : bits .xor .u32 (s1 : Int) (t1 : Int) = (y : Int))
    (g2 : bits .and .u32 (y : Int) 15 = (n2 : Int)) (hn2 : n2 < 16) (g3 : (y : Int) / 16 = (s2 : Int)) (hc2 : w.cell? ⟨19, n2, none⟩ = some (.int .u32 (t2 : Int))) (g4 : bits .xor .u32 (s2 : Int) (t2 : Int) = (o : Int)) :
    Calls Tryd.prog 19 #[.int .u32 (r : Int), .int .u8 (c : Int)] w fun e w' => e = .returned (.int .u32 (o : Int)) ∧ w' = w := by
  go_enter Tryd.func19, Tryd.ntmps19
  go_wp2
  go_ret
  exact ⟨rfl, rfl⟩

/-- the table lies in memory -/
def Tab (w : World) : Prop := ∀ i : Nat, i < 16 → w.cell? ⟨19, i, none⟩ = some (V (Crc.table.getD i 0#32))

theorem shr4 (x : BitVec 32) : (x.toNat : Int) / (16 : Int) = ((x >>> 4).toNat : Int) := by
  rw [BitVec.toNat_ushiftRight, Nat.shiftRight_eq_div_pow]; simp

theorem byte_mod (c : UInt8) : ((c.toNat : Int) % 4294967296) = ((BitVec.ofNat 32 c.toNat).toNat : Int) := by
  rw [BitVec.toNat_ofNat]; have := c.toNat_lt; omega

theorem fifteen : (15 : Int) = ((15#32).toNat : Int) := by decide

theorem takeByte_at (r : BitVec 32) (c : UInt8) (w : World) (ht : Tab w) (X Y : BitVec 32) (hX : X = r ^^^ BitVec.ofNat 32 c.toNat) (hY : Y = X >>> 4 ^^^ Crc.table.getD (X &&& 15#32).toNat 0#32) :
    Calls Tryd.prog 19 #[V r, .int .u8 (c.toNat : Int)] w fun e w' => e = .returned (V (Y >>> 4 ^^^ Crc.table.getD (Y &&& 15#32).toNat 0#32)) ∧ w' = w :=
  takeByte_core r.toNat c.toNat X.toNat (X &&& 15#32).toNat (Crc.table.getD (X &&& 15#32).toNat 0#32).toNat (X >>> 4).toNat Y.toNat (Y &&& 15#32).toNat (Crc.table.getD (Y &&& 15#32).toNat 0#32).toNat (Y >>> 4).toNat _ w
    (by rw [byte_mod, bits_xor, hX]) (by rw [fifteen, bits_and]) (Crc.and15_lt _) (shr4 _) (ht _ (Crc.and15_lt _)) (by rw [bits_xor, hY]) (by rw [fifteen, bits_and]) (Crc.and15_lt _) (shr4 _) (ht _ (Crc.and15_lt _)) (bits_xor _ _)

theorem takeByte_any (r : BitVec 32) (c : UInt8) (w : World) (ht : Tab w) :
    Calls Tryd.prog 19 #[V r, .int .u8 (c.toNat : Int)] w fun e w' => e = .returned (V (Crc.byte r c)) ∧ w' = w := by
  have h := takeByte_at r c w ht _ _ rfl rfl
  rw [Crc.byte_table]
  exact h

theorem take_snoc (s : ByteArray) (k : Nat) (h : k < s.size) : s.data.toList.take (k + 1) = s.data.toList.take k ++ [s[k]] := by
  rw [List.take_succ_eq_append_getElem (by simpa using h)]; rfl

theorem ret_v {a b : BitVec 32} (h : a = b) : Ending.returned (V a) = .returned (V b) := by rw [h]

set_option maxHeartbeats 400000 in
theorem crcMore_any (r : BitVec 32) (s : ByteArray) (w : World) (hs : s.size ≤ maxLen) (ht : Tab w) :
    Calls Tryd.prog 11 #[V r, .string s] w fun e w' => e = .returned (V (Crc.more r s.data.toList)) ∧ w' = w := by
  unfold maxLen at hs
  have HT := hide ht
  clear ht
  have n0 := not_max r
  go_enter Tryd.func11, Tryd.ntmps11
  go_wp2
  go_loop [5, 6] (fun q i => ∃ k : Nat, k ≤ s.size ∧ i = .int .i64 k ∧ q = V (Crc.all (Crc.inv r) (s.data.toList.take k))) (fun _ i => s.size - (intOf i).toNat)
  case atStart => exact ⟨0, Nat.zero_le _, rfl, rfl⟩
  case round =>
    obtain ⟨k, hk, rfl, rfl⟩ := hrel
    by_cases hlt : k < s.size
    · have hts := hide (Crc.all_snoc (Crc.inv r) (s.data.toList.take k) s[k])
      have hsn := hide (take_snoc s k hlt)
      go_wp2_with (go_at_call 19; refine (takeByte_any _ _ _ HT.out).mono ?_; rintro e w' ⟨rfl, rfl⟩)
      go_round
      case rel => exact ⟨k + 1, by omega, by go_num, by rw [hsn.out, hts.out]⟩
      case measure => simp [intOf]; omega
    · have n1 := not_max (Crc.all (Crc.inv r) (s.data.toList.take k))
      go_wp2
      go_ret
      exact ⟨ret_v (by rw [List.take_of_length_le (by simp; omega)]; rfl), rfl⟩

theorem crc_any (s : ByteArray) (w : World) (hs : s.size ≤ maxLen) (ht : Tab w) :
    Calls Tryd.prog 9 #[.string s] w fun e w' => e = .returned (V (Crc.more 0#32 s.data.toList)) ∧ w' = w := by
  have HT := hide ht
  have HS := hide hs
  clear ht hs
  go_enter Tryd.func9, Tryd.ntmps9
  go_wp2_with (go_at_call 11; refine (crcMore_any 0#32 _ _ HS.out HT.out).mono ?_; rintro e w' ⟨rfl, rfl⟩)
  go_ret
  exact ⟨rfl, rfl⟩

theorem low_bit (x : BitVec 32) : bits .and .u32 (x.toNat : Int) 1 = if x.getLsbD 0 = true then 1 else 0 := by
  have e : (1 : Int) = ((1#32).toNat : Int) := by decide
  rw [e, bits_and]
  have h : x &&& 1#32 = if x.getLsbD 0 = true then 1#32 else 0#32 := by
    apply BitVec.eq_of_getLsbD_eq; intro i hi
    cases hx : x.getLsbD 0
    · rw [BitVec.getLsbD_and, BitVec.getLsbD_one]
      by_cases h0 : i = 0
      · subst h0; rw [hx]; rfl
      · simp [h0]
    · rw [BitVec.getLsbD_and, BitVec.getLsbD_one]
      by_cases h0 : i = 0
      · subst h0; rw [hx]; rfl
      · simp [h0]
  rw [h]
  cases x.getLsbD 0 <;> rfl

theorem byte_shr (c : UInt8) (j : Nat) : (c.toNat : Int) % 4294967296 / 2 ^ j = ((BitVec.ofNat 32 c.toNat >>> j).toNat : Int) := by
  rw [byte_mod, BitVec.toNat_ushiftRight, Nat.shiftRight_eq_div_pow]; simp

theorem byte_bit (c : UInt8) (j : Nat) : bits .and .u32 ((c.toNat : Int) % 4294967296 / 2 ^ j) 1 = if (BitVec.ofNat 32 c.toNat).getLsbD j = true then 1 else 0 := by
  rw [byte_shr, low_bit]; simp only [BitVec.getLsbD_ushiftRight, Nat.add_zero]

theorem shr1 (x : BitVec 32) : (x.toNat : Int) / (2 : Int) = ((x >>> 1).toNat : Int) := by
  rw [BitVec.toNat_ushiftRight, Nat.shiftRight_eq_div_pow]; simp

theorem shr1_b (x : BitVec 32) (b : Bool) : (x ^^^ (if b = true then 1#32 else 0#32)) >>> 1 = x >>> 1 := by
  cases b
  · simp
  · apply BitVec.eq_of_getLsbD_eq; intro i hi
    have : (1#32).getLsbD (1 + i) = false := by rw [BitVec.getLsbD_one]; simp
    simp only [BitVec.getLsbD_ushiftRight, BitVec.getLsbD_xor, if_pos, this]; simp

theorem b_low (b : Bool) : (if b = true then 1#32 else 0#32).getLsbD 0 = b := by cases b <;> decide

theorem bit_yes (X : BitVec 32) (c : UInt8) (j : Nat) (h : (bits .and .u32 (X.toNat : Int) 1 != bits .and .u32 ((c.toNat : Int) % 4294967296 / 2 ^ j) 1) = true) :
    bits .xor .u32 ((X.toNat : Int) / 2) 3988292384 = ((Crc.z (X ^^^ (if (BitVec.ofNat 32 c.toNat).getLsbD j = true then 1#32 else 0#32))).toNat : Int) := by
  rw [low_bit, byte_bit] at h
  have e : (3988292384 : Int) = (Crc.poly.toNat : Int) := by decide
  rw [shr1, e, bits_xor]
  unfold Crc.z
  rw [shr1_b, BitVec.getLsbD_xor, b_low]
  have hx : (X.getLsbD 0 ^^ (BitVec.ofNat 32 c.toNat).getLsbD j) = true := by
    cases h1 : X.getLsbD 0 <;> cases h2 : (BitVec.ofNat 32 c.toNat).getLsbD j <;> rw [h1, h2] at h <;> simp at h ⊢
  rw [if_pos hx]

theorem bit_no (X : BitVec 32) (c : UInt8) (j : Nat) (h : (bits .and .u32 (X.toNat : Int) 1 != bits .and .u32 ((c.toNat : Int) % 4294967296 / 2 ^ j) 1) = false) :
    ((X.toNat : Int) / 2) = ((Crc.z (X ^^^ (if (BitVec.ofNat 32 c.toNat).getLsbD j = true then 1#32 else 0#32))).toNat : Int) := by
  rw [low_bit, byte_bit] at h
  rw [shr1]
  unfold Crc.z
  rw [shr1_b, BitVec.getLsbD_xor, b_low]
  have hx : ¬ (X.getLsbD 0 ^^ (BitVec.ofNat 32 c.toNat).getLsbD j) = true := by
    cases h1 : X.getLsbD 0 <;> cases h2 : (BitVec.ofNat 32 c.toNat).getLsbD j <;> rw [h1, h2] at h <;> simp at h ⊢
  rw [if_neg hx]; simp

theorem int_eq {k : IntKind} {a b : Int} (h : a = b) : Value.int k a = Value.int k b := by rw [h]

set_option maxHeartbeats 400000 in
theorem taken_any (r : BitVec 32) (s : ByteArray) (w : World) (hs : s.size ≤ maxLen) :
    Calls Tryd.prog 18 #[V r, .string s] w fun e w' => e = .returned (V (Crc.all r s.data.toList)) ∧ w' = w := by
  unfold maxLen at hs
  go_enter Tryd.func18, Tryd.ntmps18
  go_wp2
  go_loop [0, 5] (fun q i => ∃ k : Nat, k ≤ s.size ∧ i = .int .i64 k ∧ q = V (Crc.all r (s.data.toList.take k))) (fun _ i => s.size - (intOf i).toNat)
  case atStart => exact ⟨0, Nat.zero_le _, rfl, rfl⟩
  case round =>
    obtain ⟨k, hk, rfl, rfl⟩ := hrel
    by_cases hlt : k < s.size
    · have hts := hide (Crc.all_snoc r (s.data.toList.take k) s[k])
      have hsn := hide (take_snoc s k hlt)
      generalize Crc.all r (s.data.toList.take k) = R at *
      go_wp2
      go_loop [0, 7] (fun q i => ∃ j : Nat, j ≤ 8 ∧ i = .int .i64 j ∧ q = V (Crc.upto R (BitVec.ofNat 32 s[k].toNat) j)) (fun _ i => 8 - (intOf i).toNat)
      case atStart => exact ⟨0, Nat.zero_le _, rfl, rfl⟩
      case round =>
        obtain ⟨j, hj, rfl, rfl⟩ := hrel
        by_cases hj8 : j < 8
        · go_wp2
          · exact ⟨⟨j + 1, by omega, by go_num, int_eq (bit_yes _ _ _ (by assumption))⟩, by simp [intOf]; omega⟩
          · exact ⟨⟨j + 1, by omega, by go_num, int_eq (bit_no _ _ _ (by assumption))⟩, by simp [intOf]; omega⟩
        · obtain rfl : j = 8 := by omega
          go_wp2
          go_round
          case rel => exact ⟨k + 1, by omega, by go_num, by rw [hsn.out, hts.out, Crc.byte_bits]⟩
          case measure => simp [intOf]; omega
    · go_wp2
      go_ret
      exact ⟨ret_v (by rw [List.take_of_length_le (by simp; omega)]), rfl⟩

theorem inv_right (a : BitVec 32) : bits .xor .u32 (a.toNat : Int) 4294967295 = ((Crc.inv a).toNat : Int) := by
  have h := bits_xor a 4294967295#32
  have e : ((4294967295#32).toNat : Int) = 4294967295 := by decide
  rw [e] at h
  rw [h, BitVec.xor_comm, ← bits_xor, e]
  exact not_all a

theorem inv_zero : Crc.inv 0#32 = 4294967295#32 := by decide

theorem refCrc_any (s : ByteArray) (w : World) (hs : s.size ≤ maxLen) :
    Calls Tryd.prog 10 #[.string s] w fun e w' => e = .returned (V (Crc.more 0#32 s.data.toList)) ∧ w' = w := by
  have HS := hide hs
  clear hs
  have n1 := inv_right (Crc.all (Crc.inv 0#32) s.data.toList)
  go_enter Tryd.func10, Tryd.ntmps10
  go_wp2_with (go_at_call 18; refine (taken_any (Crc.inv 0#32) _ _ HS.out).mono ?_; rintro e w' ⟨rfl, rfl⟩)
  go_ret
  exact ⟨rfl, rfl⟩

theorem refMore_any (r : BitVec 32) (s : ByteArray) (w : World) (hs : s.size ≤ maxLen) :
    Calls Tryd.prog 12 #[V r, .string s] w fun e w' => e = .returned (V (Crc.more r s.data.toList)) ∧ w' = w := by
  have HS := hide hs
  clear hs
  have n0 := inv_right r
  have n1 := inv_right (Crc.all (Crc.inv r) s.data.toList)
  go_enter Tryd.func12, Tryd.ntmps12
  go_wp2_with (go_at_call 18; refine (taken_any (Crc.inv r) _ _ HS.out).mono ?_; rintro e w' ⟨rfl, rfl⟩)
  go_ret
  exact ⟨rfl, rfl⟩

end Go.Proofs.YthobocfpfolhiaaDoor.crcw
