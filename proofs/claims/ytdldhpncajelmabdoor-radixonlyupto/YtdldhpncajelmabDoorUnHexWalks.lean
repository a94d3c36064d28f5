import Derived.Test.YtdldhpncajelmabDoorNumbers
import Derived.Test.YtdldhpncajelmabDoorReadHex
import Derived.Test.YtdldhpncajelmabDoorHexWalks
namespace Go.Proofs.YtdldhpncajelmabDoor.radw
open Go.ChangeShapes Go.WideShapes Go.ChangeAt Go.RowKit Go.Proofs.YtdldhpncajelmabDoor.common
attribute [local go_sem ↓] Go.wp_at_zero Go.wp_at_succ

/-- a byte out of two digits -/
def duoB (s : List UInt8) (m : Nat) : UInt8 := UInt8.ofNat (Rad.num Rad.hexT 16 s (2 * m) * 16 + Rad.num Rad.hexT 16 s (2 * m + 1))

theorem numB_val {T : List UInt8} {n : Nat} (h0 : 0 < n) (hn : n ≤ 64) (s : List UInt8) (i : Nat) : (numB T n s i).toNat = Rad.num T n s i := by
  unfold numB; have := Rad.num_lt (T := T) h0 s i; rw [Rad.toNat_of (by omega)]

theorem duo_val (s : List UInt8) (m : Nat) : bits .or .u8 (((numB Rad.hexT 16 s (2 * m)).toNat : Int) * 16 % 256) ((numB Rad.hexT 16 s (2 * m + 1)).toNat : Int) = ((duoB s m).toNat : Int) := by
  have h0 := Rad.num_lt (T := Rad.hexT) (n := 16) (by decide) s (2 * m)
  have h1 := Rad.num_lt (T := Rad.hexT) (n := 16) (by decide) s (2 * m + 1)
  rw [numB_val (by decide) (by decide), numB_val (by decide) (by decide)]
  unfold duoB
  rw [Rad.toNat_of (by omega)]
  exact or_at (Rad.num Rad.hexT 16 s (2 * m)) (Rad.num Rad.hexT 16 s (2 * m + 1)) 4 _ _ _ (by decide) (by omega) rfl (by omega) (by omega) (by omega)

set_option maxRecDepth 100000 in
set_option maxHeartbeats 800000 in
theorem unhex_any (s : ByteArray) (w : World) (hs : s.size ≤ reachBytes) (ea : Addr) (he : Txt w ea) (ht : HexTab w) :
    Calls Tryd.prog 17 #[.string s] w fun x w' => Below w.heap.size w w' ∧
      ((Rad.valid Rad.hexT 16 s.data.toList ∧ s.data.toList.length % 2 = 0 ∧ x = .returned (.tuple #[.string ⟨(Rad.unhex s.data.toList).toArray⟩, .nilIface])) ∨
        (¬ (Rad.valid Rad.hexT 16 s.data.toList ∧ s.data.toList.length % 2 = 0) ∧ x = .returned (.tuple #[.string ⟨#[]⟩, X ea]))) := by
  have HS := hide hs
  unfold reachBytes at hs
  have HE := hide he
  have HT := hide ht
  clear he ht
  obtain ⟨i0, hi, hz0, hz1, hz2⟩ := info_parts info8
  go_enter Tryd.func17, Tryd.ntmps17
  go_wp2_with fail
  refine (hexReading_any w HT.out).mono ?_
  rintro x w1 ⟨rfl, hb1⟩
  have HB1 := hide hb1
  clear hb1
  go_wp2_with fail
  refine (numbers_any Rad.hexT 16 (by decide) s w1 HS.out ea (HE.out.below HB1.out)).mono ?_
  rintro x w2 ⟨hb2, ⟨hval, rfl, hl⟩ | ⟨hval, rfl⟩⟩
  · have hg1 : w.heap.size ≤ w1.heap.size := HB1.out.size
    have hg2 : w1.heap.size + 1 < w2.heap.size ∨ s.size = 0 := by
      by_cases h0 : s.size = 0
      · exact Or.inr h0
      · exact Or.inl (there_lt hl.1 (by simp; omega))
    generalize w1.heap.size + 1 = g at *
    have HB2 := hide (HB1.out.trans (hb2.mono HB1.out.size))
    have HVL := hide hval
    have hll := hide (len_list s)
    have ce : w2.cell? ⟨0, 0, none⟩ = some (X ea) := HE.out.below HB2.out
    clear hb2 hval HB1
    by_cases hev : s.size % 2 = 0
    · have h2 : (s.size : Int) % 2 = 0 := by omega
      have h3 : (s.size : Int) / 2 = ((s.size / 2 : Nat) : Int) := by omega
      have HU : Hid (s.size = 2 * (s.size / 2)) := by show _ = _; omega
      have HN : Hid ((List.range (s.size / 2)).map (duoB s.data.toList) = Rad.unhex s.data.toList) := by show _ = _; unfold Rad.unhex; rw [hll.out]; rfl
      generalize hN : s.size / 2 = N at *
      clear hN ce
      have HL := hide hl
      clear hl
      go_wp2_with (refine wpList_make_row _ rfl _ _ 33 rfl 5 i0 (.int .u8 0) Tryd.underlying33 hi hz0 hz1 rfl .i64 .i64 N ?c1 ?c2 ?c3 ?c4 ?_)
      case c1 => rfl
      case c2 => rfl
      case c3 => rw [hz2]; omega
      case c4 => omega
      clear hz0 hz1 hz2 hi h2 h3
      go_loopw [29] (fun i wr => ∃ k : Nat, k ≤ N ∧ i = .int .i64 k ∧ Lay wr w2.heap.size (upto (duoB s.data.toList) N k) ∧ Below w2.heap.size w2 wr) (fun i _ => N - (intOf i).toNat)
      case atStart => exact ⟨0, Nat.zero_le _, rfl, by rw [upto_zero]; exact lay_made _ _ _, (Below.refl _ _).alloc (Nat.le_refl _) _⟩
      case round =>
        obtain ⟨k, hk, rfl, hl, hb⟩ := hrel
        by_cases hlt : k < N
        · have hus := HU.out
          have hgl : g < w2.heap.size := by omega
          have hlg := HL.out.below hb hgl
          have c0 := hlg.cell (2 * k) (by simp; omega)
          have c1 := hlg.cell (2 * k + 1) (by simp; omega)
          rw [Rad.getD_map, if_pos (by omega)] at c0 c1
          have f1 := hl.frozen k (by rw [upto_len]; exact hlt)
          obtain ⟨v1, hv1⟩ : ∃ v, wr.cell? ⟨w2.heap.size, k, none⟩ = some v := ⟨_, hl.cell k (by rw [upto_len]; exact hlt)⟩
          have hd := duo_val s.data.toList k
          have HD : Hid (duoB s.data.toList k = duoB s.data.toList k) := rfl
          generalize numB Rad.hexT 16 s.data.toList (2 * k) = x0 at *
          generalize numB Rad.hexT 16 s.data.toList (2 * k + 1) = x1 at *
          generalize hy : duoB s.data.toList k = y at hd
          have HY := hide hy
          have n0 : (2 * (k : Int)).toNat = 2 * k := by omega
          have n1 : (2 * (k : Int) + 1).toNat = 2 * k + 1 := by omega
          have l0 : (0 : Int) ≤ 2 * (k : Int) ∧ 2 * (k : Int) + 1 < (s.size : Int) := by omega
          have l1 : 2 * (k : Int) < (s.size : Int) := by omega
          have l2 : (k : Int) < (N : Int) := by omega
          have HL2 := hide hl
          have HB := hide hb
          clear hl hb hlg hy HD hus
          go_wp2_with fail
          go_region
          go_wp2
          go_roundw
          case rel =>
            refine ⟨k + 1, by omega, by go_num, ?_, (HB.out.setCell (Nat.le_refl _) _).drew⟩
            have L1 := HL2.out.set k (by rw [upto_len]; exact hlt) y
            rw [upto_set _ _ _ hlt HY.out.symm] at L1
            exact L1.drew
          case measure => simp [intOf]; omega
        · obtain rfl : k = N := by omega
          rw [upto_all, HN.out] at hl
          have hconv := hl.conv (cap := k) (n := k) (by rw [← HN.out]; simp)
          have HB := hide hb
          clear hb hl
          go_wp2
          go_ret2
          exact ⟨HB2.out.trans (HB.out.mono HB2.out.size), Or.inl ⟨HVL.out, by rw [hll.out]; exact hev, rfl⟩⟩
    · have h2 : (s.size : Int) % 2 = 1 := by omega
      clear hl hz0 hz1 hz2 hi
      go_wp2_with fail
      go_region
      go_wp2
      go_ret2
      exact ⟨HB2.out.drew, Or.inr ⟨fun h => hev (by have := h.2; rw [hll.out] at this; exact this), rfl⟩⟩
  · have HB2 := hide (HB1.out.trans (hb2.mono HB1.out.size))
    have HVL := hide hval
    have ce : w2.cell? ⟨0, 0, none⟩ = some (X ea) := HE.out.below HB2.out
    clear hb2 hval HB1 hz0 hz1 hz2 hi
    go_wp2_with fail
    go_region
    go_wp2
    go_ret2
    exact ⟨HB2.out.drew, Or.inr ⟨fun h => HVL.out h.1, rfl⟩⟩

end Go.Proofs.YtdldhpncajelmabDoor.radw
