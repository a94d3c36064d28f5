import Derived.Test.YtkmhhodapnlkiaaDoorSplit
import Derived.Deep.RegionWith
namespace Go.Proofs.YtkmhhodapnlkiaaDoor.radw
open Go.ChangeShapes Go.WideShapes Go.ChangeAt Go.RowKit Go.Proofs.YtkmhhodapnlkiaaDoor.common
attribute [local go_sem ↓] Go.wp_at_zero Go.wp_at_succ

set_option maxHeartbeats 800000 in
theorem split_any (s : ByteArray) (w : World) (hs : s.size ≤ reachBytes) (W N : Nat) (hW : (s.size : Int) / 3 = (W : Int)) (hN : (8 * (s.size : Int) + 5) / 6 = (N : Int)) :
    Calls Tryd.prog 14 #[.string s] w fun e w' => e = .returned (.slice (some ⟨w.heap.size, 0, none⟩) N N) ∧ Lay w' w.heap.size ((List.range N).map (sixB s.data.toList)) ∧ Below w.heap.size w w' := by
  unfold reachBytes at hs
  have hW1 : 3 * W ≤ s.size := by omega
  have hW2 : s.size < 3 * W + 3 := by omega
  have hN1 : 6 * N ≤ 8 * s.size + 5 := by omega
  have hN2 : 8 * s.size + 5 < 6 * N + 6 := by omega
  obtain ⟨i0, hi, hz0, hz1, hz2⟩ := info_parts info8
  go_enter Tryd.func14, Tryd.ntmps14
  go_wp2_with (refine wpList_make_row _ rfl _ _ 34 rfl 5 i0 (.int .u8 0) Tryd.underlying34 hi hz0 hz1 rfl .i64 .i64 N ?c1 ?c2 ?c3 ?c4 ?_)
  case c1 => exact int_eq hN
  case c2 => exact int_eq hN
  case c3 => rw [hz2]; omega
  case c4 => omega
  clear hz0 hz1 hz2 hi hW hN
  go_loopw [18] (fun i wr => ∃ k : Nat, k ≤ W ∧ i = .int .i64 k ∧ Lay wr w.heap.size (upto (sixB s.data.toList) N (4 * k)) ∧ Below w.heap.size w wr) (fun i _ => W - (intOf i).toNat)
  case atStart => exact ⟨0, Nat.zero_le _, rfl, by rw [upto_zero]; exact lay_made _ _ _, (Below.refl _ _).alloc (Nat.le_refl _) _⟩
  case round =>
    obtain ⟨k, hk, rfl, hl, hb⟩ := hrel
    by_cases hlt : k < W
    · have n0 : (3 * (k : Int)).toNat = 3 * k := by omega
      have n1 : (3 * (k : Int) + 3).toNat = 3 * k + 3 := by omega
      have n2 : (4 * (k : Int)).toNat = 4 * k := by omega
      have n3 : (4 * (k : Int) + 4).toNat = 4 * k + 4 := by omega
      have b0 : (0 : Int) ≤ 3 * (k : Int) ∧ 3 * (k : Int) + 3 ≤ (s.size : Int) := by omega
      have b1 : (0 : Int) ≤ 4 * (k : Int) ∧ 4 * (k : Int) + 4 ≤ (N : Int) := by omega
      have hlen := upto_len (sixB s.data.toList) N (4 * k)
      have c0 := hl.cell (4 * k) (by omega)
      have c1 := hl.cell (4 * k + 1) (by omega)
      have c2 := hl.cell (4 * k + 2) (by omega)
      have c3 := hl.cell (4 * k + 3) (by omega)
      have f0 := hl.frozen (4 * k) (by omega)
      have f1 := hl.frozen (4 * k + 1) (by omega)
      have f2 := hl.frozen (4 * k + 2) (by omega)
      have f3 := hl.frozen (4 * k + 3) (by omega)
      obtain ⟨q0, q1, q2, q3⟩ := quad s.data.toList k _ _ _ (g_at s (3 * k) (by omega)) (g_at s (3 * k + 1) (by omega)) (g_at s (3 * k + 2) (by omega))
      have hts := ext3 s k (by omega)
      have a0 : (s.extract (3 * k) (3 * k + 3)).data.toList.getD 0 0 = s[3 * k] := (ext_at s (3 * k) (3 * k + 3) 0 (by omega)).trans (getD_list s (3 * k) (by omega))
      have a1 : (s.extract (3 * k) (3 * k + 3)).data.toList.getD 1 0 = s[3 * k + 1] := (ext_at s (3 * k) (3 * k + 3) 1 (by omega)).trans (getD_list s (3 * k + 1) (by omega))
      have a2 : (s.extract (3 * k) (3 * k + 3)).data.toList.getD 2 0 = s[3 * k + 2] := (ext_at s (3 * k) (3 * k + 3) 2 (by omega)).trans (getD_list s (3 * k + 2) (by omega))
      have A0 := hide a0
      have A1 := hide a1
      have A2 := hide a2
      clear a0 a1 a2
      have HL := hide hl
      have HB := hide hb
      clear hl hb
      generalize s[3 * k] = x0 at *
      generalize s[3 * k + 1] = x1 at *
      generalize s[3 * k + 2] = x2 at *
      have E0 : Hid (sixB s.data.toList (4 * k) = sixB s.data.toList (4 * k)) := rfl
      have E1 : Hid (sixB s.data.toList (4 * k + 1) = sixB s.data.toList (4 * k + 1)) := rfl
      have E2 : Hid (sixB s.data.toList (4 * k + 2) = sixB s.data.toList (4 * k + 2)) := rfl
      have E3 : Hid (sixB s.data.toList (4 * k + 3) = sixB s.data.toList (4 * k + 3)) := rfl
      generalize hy0 : sixB s.data.toList (4 * k) = y0 at q0
      generalize hy1 : sixB s.data.toList (4 * k + 1) = y1 at q1
      generalize hy2 : sixB s.data.toList (4 * k + 2) = y2 at q2
      generalize hy3 : sixB s.data.toList (4 * k + 3) = y3 at q3
      have Y0 := hide hy0.symm
      have Y1 := hide hy1.symm
      have Y2 := hide hy2.symm
      have Y3 := hide hy3.symm
      clear hy0 hy1 hy2 hy3 E0 E1 E2 E3 hlen
      go_wp2_with fail
      go_region
      generalize s.extract (3 * k) (3 * k + 3) = t at *
      have x0' := byte_of_list (t := t) (i := 0) (by omega) A0.out
      have x1' := byte_of_list (t := t) (i := 1) (by omega) A1.out
      have x2' := byte_of_list (t := t) (i := 2) (by omega) A2.out
      clear A0 A1 A2
      go_wp2_with fail
      go_region
      go_wp2_with fail
      go_region
      go_wp2
      go_roundw
      case rel =>
        refine ⟨k + 1, by omega, by go_num, ?_, ?_⟩
        · have L0 := HL.out.set (4 * k) (by rw [upto_len]; omega) y0
          rw [upto_set _ _ _ (by omega) Y0.out] at L0
          have L1 := L0.set (4 * k + 1) (by rw [upto_len]; omega) y1
          rw [upto_set _ _ _ (by omega) Y1.out] at L1
          have L2 := L1.set (4 * k + 2) (by rw [upto_len]; omega) y2
          rw [upto_set _ _ _ (by omega) Y2.out] at L2
          have L3 := L2.set (4 * k + 3) (by rw [upto_len]; omega) y3
          rw [upto_set _ _ _ (by omega) Y3.out] at L3
          exact L3.drew.drew.drew
        · exact ((((HB.out.setCell (Nat.le_refl _) _).setCell (Nat.le_refl _) _).setCell (Nat.le_refl _) _).setCell (Nat.le_refl _) _).drew.drew.drew
      case measure => simp [intOf]; omega
    · obtain rfl : k = W := by omega
      have hrest := hide (rest_any s k N w.heap.size hW1 hW2 hN1 hN2)
      have n0 : (3 * (k : Int)).toNat = 3 * k := by omega
      have n2 : (4 * (k : Int)).toNat = 4 * k := by omega
      have b0 : (0 : Int) ≤ 3 * (k : Int) ∧ 3 * (k : Int) ≤ (s.size : Int) := by omega
      have b1 : (0 : Int) ≤ 4 * (k : Int) ∧ 4 * (k : Int) ≤ (N : Int) := by omega
      have m0 : IntKind.i64.wrap (3 * (k : Int)) = 3 * (k : Int) := by rw [IntKind.wrap_i64]; omega
      have m1 : IntKind.i64.wrap (4 * (k : Int)) = 4 * (k : Int) := by rw [IntKind.wrap_i64]; omega
      have HL := hide hl
      have HB := hide hb
      clear hl hb
      by_cases hN0 : N = 4 * k
      · subst hN0
        have hz : (s.extract (3 * k) s.size).size = 0 := by rw [ByteArray.size_extract]; omega
        have HZ := hide hz
        clear hz hrest hN1 hN2 hW1 hW2
        go_wp2_with fail
        go_region_with (go_at_call 23; refine (rest0_core _ HZ.out _ _).mono ?_; rintro e w' ⟨rfl, rfl⟩)
        go_wp2
        go_ret
        refine ⟨rfl, ?_, HB.out.drew⟩
        rw [← upto_all]
        exact HL.out.drew
      · clear hN1 hN2 hW1 hW2
        have HR : Hid (∀ w_1 : World, Lay w_1 w.heap.size (upto (sixB s.data.toList) N (4 * k)) → Calls Tryd.prog 23 #[.string (s.extract (3 * k) s.size), .slice (some ⟨w.heap.size, 4 * k, none⟩) (N - 4 * k) (N - 4 * k)] w_1 fun e w' => e = .returned (.tuple #[]) ∧ Lay w' w.heap.size ((List.range N).map (sixB s.data.toList)) ∧ ∀ b, b ≤ w.heap.size → Below b w_1 w') := by
          have := hrest.out
          rw [if_neg hN0] at this
          exact this
        clear hrest
        go_wp2_with fail
        go_region_with (go_at_call 23; refine (HR.out _ HL.out.drew).mono ?_; rintro e w' ⟨rfl, hl2, hb2⟩)
        have HL2 := hide hl2
        have HB2 := hide (HB.out.drew.trans (hb2 _ (Nat.le_refl _)))
        clear hl2 hb2
        go_wp2
        go_ret
        exact ⟨rfl, HL2.out, HB2.out⟩
end Go.Proofs.YtkmhhodapnlkiaaDoor.radw
