import Derived.Test.YtdldhpncajelmabDoorRadixKit
namespace Go.Proofs.YtdldhpncajelmabDoor.radw
open Go.ChangeShapes Go.WideShapes Go.ChangeAt Go.RowKit Go.Proofs.YtdldhpncajelmabDoor.common

abbrev HexTab (w : World) : Prop := TabAt 9 Rad.hexT w

theorem hi_four (l : List UInt8) (k : Nat) (c : UInt8) (h : Rad.g l k = c.toNat) : ((c.toNat : Int) / 16) = ((Rad.four l (2 * k) : Nat) : Int) := by
  rw [Rad.four0, h]; simp
theorem and15 : ∀ c : Fin 256, c.val &&& 15 = c.val % 16 := by decide +kernel
theorem lo_four (l : List UInt8) (k : Nat) (c : UInt8) (h : Rad.g l k = c.toNat) : bits .and .u8 (c.toNat : Int) 15 = ((Rad.four l (2 * k + 1) : Nat) : Int) := by
  rw [Rad.four1, h, ← and15 ⟨c.toNat, c.toNat_lt⟩]
  exact and_nat c 15 (by decide)

set_option maxHeartbeats 400000 in
theorem hex_any (s : ByteArray) (w : World) (hs : s.size ≤ reachBytes) (ht : HexTab w) :
    Calls Tryd.prog 15 #[.string s] w fun e w' => e = .returned (.string ⟨(Rad.hex s.data.toList).toArray⟩) ∧ Below w.heap.size w w' := by
  unfold reachBytes at hs
  have HT := hide ht
  have hG := ht.lt (by decide)
  clear ht
  obtain ⟨i0, hi, hz0, hz1, hz2⟩ := info_parts info8
  go_enter Tryd.func15, Tryd.ntmps15
  go_wp2_with (refine wpList_make_row _ rfl _ _ 33 rfl 5 i0 (.int .u8 0) Tryd.underlying33 hi hz0 hz1 rfl .i64 .i64 (2 * s.size) ?c1 ?c2 ?c3 ?c4 ?_)
  case c1 => exact int_eq (by omega)
  case c2 => exact int_eq (by omega)
  case c3 => rw [hz2]; omega
  case c4 => omega
  clear hz0 hz1 hz2 hi
  go_loopw [11] (fun i wr => ∃ k : Nat, k ≤ s.size ∧ i = .int .i64 k ∧ Lay wr w.heap.size (upto (fun m => Rad.hexT.getD (Rad.four s.data.toList m) 0) (2 * s.size) (2 * k)) ∧ Below w.heap.size w wr) (fun i _ => s.size - (intOf i).toNat)
  case atStart => exact ⟨0, Nat.zero_le _, rfl, by rw [upto_zero]; exact lay_made _ _ _, (Below.refl _ _).alloc (Nat.le_refl _) _⟩
  case round =>
    obtain ⟨k, hk, rfl, hl, hb⟩ := hrel
    by_cases hlt : k < s.size
    · have hgk := g_at s k hlt
      have e1 := hi_four s.data.toList k s[k] hgk
      have e2 := lo_four s.data.toList k s[k] hgk
      have b1 := Rad.four_lt s.data.toList (2 * k)
      have b2 := Rad.four_lt s.data.toList (2 * k + 1)
      have t := HT.out.below hb hG
      have c1 : wr.cell? ⟨9, Rad.four s.data.toList (2 * k), none⟩ = _ := t _ b1
      have c2 : wr.cell? ⟨9, Rad.four s.data.toList (2 * k + 1), none⟩ = _ := t _ b2
      have f1 := hl.frozen (2 * k) (by rw [upto_len]; omega)
      have f2 := hl.frozen (2 * k + 1) (by rw [upto_len]; omega)
      obtain ⟨v1, hv1⟩ : ∃ v, wr.cell? ⟨w.heap.size, 2 * k, none⟩ = some v := ⟨_, hl.cell (2 * k) (by rw [upto_len]; omega)⟩
      obtain ⟨v2, hv2⟩ : ∃ v, wr.cell? ⟨w.heap.size, 2 * k + 1, none⟩ = some v := ⟨_, hl.cell (2 * k + 1) (by rw [upto_len]; omega)⟩
      have ne1 : (⟨w.heap.size, 2 * k, none⟩ : Addr) ≠ ⟨9, Rad.four s.data.toList (2 * k + 1), none⟩ := fun he => by have := (Addr.mk.inj he).1; omega
      have ne2 : (⟨w.heap.size, 2 * k, none⟩ : Addr) ≠ ⟨w.heap.size, 2 * k + 1, none⟩ := fun he => by have := (Addr.mk.inj he).2.1; omega
      have n0 : (2 * (k : Int)).toNat = 2 * k := by omega
      have n1 : (2 * (k : Int) + 1).toNat = 2 * k + 1 := by omega
      have l0 : (0 : Int) ≤ 2 * (k : Int) := by omega
      have l1 : 2 * (k : Int) + 1 < 2 * (s.size : Int) := by omega
      have l2 : 2 * (k : Int) < 2 * (s.size : Int) := by omega
      have HL := hide hl
      have HB := hide hb
      clear hl hb t hgk
      have E1 : Hid (∀ m, m = 2 * k → Rad.hexT.getD (Rad.four s.data.toList (2 * k)) 0 = (fun m => Rad.hexT.getD (Rad.four s.data.toList m) 0) m) := hide (fun m hm => by subst hm; rfl)
      have E2 : Hid (∀ m, m = 2 * k + 1 → Rad.hexT.getD (Rad.four s.data.toList (2 * k + 1)) 0 = (fun m => Rad.hexT.getD (Rad.four s.data.toList m) 0) m) := hide (fun m hm => by subst hm; rfl)
      generalize Rad.hexT.getD (Rad.four s.data.toList (2 * k)) 0 = x1 at *
      generalize Rad.hexT.getD (Rad.four s.data.toList (2 * k + 1)) 0 = x2 at *
      generalize Rad.four s.data.toList (2 * k) = y1 at *
      generalize Rad.four s.data.toList (2 * k + 1) = y2 at *
      go_wp2
      go_roundw
      case rel =>
        refine ⟨k + 1, by omega, by go_num, ?_, (HB.out.setCell (Nat.le_refl _) _).setCell (Nat.le_refl _) _⟩
        have L1 := HL.out.set (2 * k) (by rw [upto_len]; omega) x1
        rw [upto_set _ _ _ (by omega) (E1.out _ rfl)] at L1
        have L2 := L1.set (2 * k + 1) (by rw [upto_len]; omega) x2
        rw [upto_set _ _ _ (by omega) (E2.out _ rfl)] at L2
        exact L2
      case measure => simp [intOf]; omega
    · obtain rfl : k = s.size := by omega
      rw [upto_all] at hl
      have hconv := hl.conv (cap := 2 * s.size) (n := 2 * s.size) (by simp)
      have e : (List.range (2 * s.size)).map (fun m => Rad.hexT.getD (Rad.four s.data.toList m) 0) = Rad.hex s.data.toList := by unfold Rad.hex; rw [len_list]
      rw [e] at hconv
      have HB := hide hb
      clear hb hl e
      go_wp2
      go_ret
      exact ⟨rfl, HB.out⟩

end Go.Proofs.YtdldhpncajelmabDoor.radw
