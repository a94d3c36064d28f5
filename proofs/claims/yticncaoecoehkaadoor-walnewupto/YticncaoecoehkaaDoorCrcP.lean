import Derived.Test.YticncaoecoehkaaDoorRows
import Derived.Test.YticncaoecoehkaaDoorCrcMath
import Derived.WalkKit
import Derived.ProofKit
import Derived.OpenShut
import Derived.WalkSpells
import Derived.WalkLawsBesides
import Derived.Outline
import Derived.Lib.LaidTab
import Derived.Laws.BitsAllLaws
namespace Go.Proofs.YticncaoecoehkaaDoor.crcw
open Go.ChangeShapes Go.WideShapes Go.ChangeAt Go.RowKit
open Go.Proofs.YticncaoecoehkaaDoor

theorem max32 : IntKind.u32.max = 4294967295 := by decide

theorem hide {p : Prop} (h : p) : Hid p := h

/-- a word as a value -/
abbrev V (x : BitVec 32) : Value := .int .u32 (x.toNat : Int)

theorem bits_xor (a b : BitVec 32) : bits .xor .u32 (a.toNat : Int) (b.toNat : Int) = ((a ^^^ b).toNat : Int) := by
  have h := u32_xor_nat a.toNat b.toNat (by have := a.isLt; omega) (by have := b.isLt; omega)
  rw [h, BitVec.toNat_xor]
theorem bits_and (a b : BitVec 32) : bits .and .u32 (a.toNat : Int) (b.toNat : Int) = ((a &&& b).toNat : Int) := by
  have h := u32_and_nat a.toNat b.toNat (by have := a.isLt; omega) (by have := b.isLt; omega)
  rw [h, BitVec.toNat_and]
theorem not_all (a : BitVec 32) : bits .xor .u32 4294967295 (a.toNat : Int) = ((~~~a).toNat : Int) := by
  have h := bits_xor 4294967295#32 a
  have e : ((4294967295#32).toNat : Int) = 4294967295 := by decide
  rw [e] at h
  rw [h]
  have : 4294967295#32 ^^^ a = ~~~a := by
    apply BitVec.eq_of_getLsbD_eq; intro i hi
    have f : (4294967295#32).getLsbD i = true := by
      have : ∀ k : Fin 32, (4294967295#32).getLsbD k.val = true := by decide
      exact this ⟨i, hi⟩
    simp only [BitVec.getLsbD_xor, f, BitVec.getLsbD_not, hi]; simp
  rw [this]

theorem not_max (a : BitVec 32) : bits .xor .u32 IntKind.u32.max (a.toNat : Int) = ((Crc.inv a).toNat : Int) := by
  rw [max32]; exact not_all a

set_option maxHeartbeats 400000 in
theorem takeByte_core (r c x n1 t1 s1 y n2 t2 s2 o : Nat) (w : World) (h1 : bits .xor .u32 (r : Int) ((c : Int) % 4294967296) = (x : Int)) (h2 : bits .and .u32 (x : Int) 15 = (n1 : Int)) (hn1 : n1 < 16)
    (h3 : (x : Int) / 16 = (s1 : Int)) (hc1 : w.cell? ⟨13, n1, none⟩ = some (.int .u32 (t1 : Int))) (h4 : bits .xor .u32 (s1 : Int) (t1 : Int) = (y : Int))
    (g2 : bits .and .u32 (y : Int) 15 = (n2 : Int)) (hn2 : n2 < 16) (g3 : (y : Int) / 16 = (s2 : Int)) (hc2 : w.cell? ⟨13, n2, none⟩ = some (.int .u32 (t2 : Int))) (g4 : bits .xor .u32 (s2 : Int) (t2 : Int) = (o : Int)) :
    Calls Tryd.prog 85 #[.int .u32 (r : Int), .int .u8 (c : Int)] w fun e w' => e = .returned (.int .u32 (o : Int)) ∧ w' = w := by
  go_enter Tryd.func85, Tryd.ntmps85
  go_wp2
  go_ret
  exact ⟨rfl, rfl⟩

/-- the table lies in memory -/
def Tab (w : World) : Prop := ∀ i : Nat, i < 16 → w.cell? ⟨13, i, none⟩ = some (V (Crc.table.getD i 0#32))

theorem shr4 (x : BitVec 32) : (x.toNat : Int) / (16 : Int) = ((x >>> 4).toNat : Int) := by
  rw [BitVec.toNat_ushiftRight, Nat.shiftRight_eq_div_pow]; simp

theorem byte_mod (c : UInt8) : ((c.toNat : Int) % 4294967296) = ((BitVec.ofNat 32 c.toNat).toNat : Int) := by
  rw [BitVec.toNat_ofNat]; have := c.toNat_lt; omega

theorem fifteen : (15 : Int) = ((15#32).toNat : Int) := by decide

theorem takeByte_at (r : BitVec 32) (c : UInt8) (w : World) (ht : Tab w) (X Y : BitVec 32) (hX : X = r ^^^ BitVec.ofNat 32 c.toNat) (hY : Y = X >>> 4 ^^^ Crc.table.getD (X &&& 15#32).toNat 0#32) :
    Calls Tryd.prog 85 #[V r, .int .u8 (c.toNat : Int)] w fun e w' => e = .returned (V (Y >>> 4 ^^^ Crc.table.getD (Y &&& 15#32).toNat 0#32)) ∧ w' = w :=
  takeByte_core r.toNat c.toNat X.toNat (X &&& 15#32).toNat (Crc.table.getD (X &&& 15#32).toNat 0#32).toNat (X >>> 4).toNat Y.toNat (Y &&& 15#32).toNat (Crc.table.getD (Y &&& 15#32).toNat 0#32).toNat (Y >>> 4).toNat _ w
    (by rw [byte_mod, bits_xor, hX]) (by rw [fifteen, bits_and]) (Crc.and15_lt _) (shr4 _) (ht _ (Crc.and15_lt _)) (by rw [bits_xor, hY]) (by rw [fifteen, bits_and]) (Crc.and15_lt _) (shr4 _) (ht _ (Crc.and15_lt _)) (bits_xor _ _)

theorem takeByte_any (r : BitVec 32) (c : UInt8) (w : World) (ht : Tab w) :
    Calls Tryd.prog 85 #[V r, .int .u8 (c.toNat : Int)] w fun e w' => e = .returned (V (Crc.byte r c)) ∧ w' = w := by
  have h := takeByte_at r c w ht _ _ rfl rfl
  rw [Crc.byte_table]
  exact h

theorem take_snoc (s : ByteArray) (k : Nat) (h : k < s.size) : s.data.toList.take (k + 1) = s.data.toList.take k ++ [s[k]] := by
  rw [List.take_succ_eq_append_getElem (by simpa using h)]; rfl

theorem ret_v {a b : BitVec 32} (h : a = b) : Ending.returned (V a) = .returned (V b) := by rw [h]

set_option maxHeartbeats 400000 in
theorem crcMore_any (r : BitVec 32) (s : ByteArray) (w : World) (hs : s.size ≤ maxLen) (ht : Tab w) :
    Calls Tryd.prog 79 #[V r, .string s] w fun e w' => e = .returned (V (Crc.more r s.data.toList)) ∧ w' = w := by
  unfold maxLen at hs
  have HT := hide ht
  clear ht
  have n0 := not_max r
  go_enter Tryd.func79, Tryd.ntmps79
  go_wp2
  go_loop [5, 6] (fun q i => ∃ k : Nat, k ≤ s.size ∧ i = .int .i64 k ∧ q = V (Crc.all (Crc.inv r) (s.data.toList.take k))) (fun _ i => s.size - (intOf i).toNat)
  case atStart => exact ⟨0, Nat.zero_le _, rfl, rfl⟩
  case round =>
    obtain ⟨k, hk, rfl, rfl⟩ := hrel
    by_cases hlt : k < s.size
    · have hts := hide (Crc.all_snoc (Crc.inv r) (s.data.toList.take k) s[k])
      have hsn := hide (take_snoc s k hlt)
      go_wp2_with (go_at_call 85; refine (takeByte_any _ _ _ HT.out).mono ?_; rintro e w' ⟨rfl, rfl⟩)
      go_round
      case rel => exact ⟨k + 1, by omega, by go_num, by rw [hsn.out, hts.out]⟩
      case measure => simp [intOf]; omega
    · have n1 := not_max (Crc.all (Crc.inv r) (s.data.toList.take k))
      go_wp2
      go_ret
      exact ⟨ret_v (by rw [List.take_of_length_le (by simp; omega)]; rfl), rfl⟩

theorem crc_any (s : ByteArray) (w : World) (hs : s.size ≤ maxLen) (ht : Tab w) :
    Calls Tryd.prog 80 #[.string s] w fun e w' => e = .returned (V (Crc.more 0#32 s.data.toList)) ∧ w' = w := by
  have HT := hide ht
  have HS := hide hs
  clear ht hs
  go_enter Tryd.func80, Tryd.ntmps80
  go_wp2_with (go_at_call 79; refine (crcMore_any 0#32 _ _ HS.out HT.out).mono ?_; rintro e w' ⟨rfl, rfl⟩)
  go_ret
  exact ⟨rfl, rfl⟩

theorem low_bit (x : BitVec 32) : bits .and .u32 (x.toNat : Int) 1 = if x.getLsbD 0 = true then 1 else 0 := by
  have e : (1 : Int) = ((1#32).toNat : Int) := by decide
  rw [e, bits_and]
  have h : x &&& 1#32 = if x.getLsbD 0 = true then 1#32 else 0#32 := by
    apply BitVec.eq_of_getLsbD_eq; intro i hi
    cases hx : x.getLsbD 0
    · rw [BitVec.getLsbD_and, BitVec.getLsbD_one]
      by_cases h0 : i = 0
      · subst h0; rw [hx]; rfl
      · simp [h0]
    · rw [BitVec.getLsbD_and, BitVec.getLsbD_one]
      by_cases h0 : i = 0
      · subst h0; rw [hx]; rfl
      · simp [h0]
  rw [h]
  cases x.getLsbD 0 <;> rfl

end Go.Proofs.YticncaoecoehkaaDoor.crcw
