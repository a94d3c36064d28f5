import Derived.Test.YtdkbjefphihplabDoorJoinWalks
namespace Go.Proofs.YtdkbjefphihplabDoor.radw
open Go.ChangeShapes Go.WideShapes Go.ChangeAt Go.RowKit Go.Proofs.YtdkbjefphihplabDoor.common
attribute [local go_sem ↓] Go.wp_at_zero Go.wp_at_succ

set_option maxRecDepth 100000 in
set_option maxHeartbeats 1600000 in
theorem joinSixes_rest (T s : List UInt8) (n g : Nat) (hn : n = s.length) (hs : n ≤ 140737488351232) (w : World) (hgw : g < w.heap.size ∨ n = 0) (hl : Lay w g ((List.range (n)).map (numB T 64 s))) (ea : Addr) (he : Txt w ea) (W : Nat) (M : Nat) (hW : (n : Int) / 4 = (W : Int)) (hM : 6 * (n : Int) / 8 = (M : Int)) (hn4 : ¬ n = 4 * W) :
    Calls Tryd.prog 115 #[.slice (some ⟨g, 0, none⟩) (n) (n)] w fun x w' => Below w.heap.size w w' ∧
      ((Rad.restOk T s ∧ x = .returned (.tuple #[.string ⟨(Rad.un64 T s).toArray⟩, .nilIface])) ∨ (¬ Rad.restOk T s ∧ x = .returned (.tuple #[.string ⟨#[]⟩, X ea]))) := by
  have hW1 : 4 * W ≤ n := by omega
  have hW2 : n < 4 * W + 4 := by omega
  have hM1 : 8 * M ≤ 6 * n := by omega
  have hM2 : 6 * n < 8 * M + 8 := by omega
  have HM8 : Hid (M = Rad.n8 s.length) := by show _ = _; rw [← hn]; unfold Rad.n8; omega
  have HMN : Hid (M = Rad.n8 n) := by show _ = _; unfold Rad.n8; omega
  have HL := hide hl
  have HE := hide he
  have HGW := hide hgw
  have HN := hide hn
  clear hl he hgw hn
  obtain ⟨i0, hi, hz0, hz1, hz2⟩ := info_parts info8
  have hco := could_any T s W (n) g HN.out (by omega) (by omega) w HL.out
  rw [if_neg hn4] at hco
  have HCO := hide hco
  clear hco
  have n4 : (4 * (W : Int)).toNat = 4 * W := by omega
  have n3 : (3 * (W : Int)).toNat = 3 * W := by omega
  have ce : w.cell? ⟨1, 0, none⟩ = some (X ea) := HE.out
  go_enter Tryd.func115, Tryd.ntmps115
  go_wp2_with fail
  refine HCO.out.mono ?_
  rintro x w' ⟨⟨hok, rfl⟩ | ⟨hok, rfl⟩, rfl⟩
  · have HOK := hide hok
    have hr4 : n % 4 ≠ 1 := by have := hok.1; rw [← HN.out] at this; exact this
    have hM3 : ¬ M = 3 * W := by omega
    clear hok HCO ce
    go_wp2_with (refine wpList_make_row _ rfl _ _ 84 rfl 5 i0 (.int .u8 0) Tryd.underlying84 hi hz0 hz1 rfl .i64 .i64 (M) ?c1 ?c2 ?c3 ?c4 ?_)
    case c1 => exact int_eq (by omega)
    case c2 => exact int_eq (by omega)
    case c3 => rw [hz2]; omega
    case c4 => omega
    clear hz0 hz1 hz2 hi
    go_loopw [27] (fun i wr => ∃ k : Nat, k ≤ W ∧ i = .int .i64 k ∧ Lay wr w'.heap.size (upto (bytB T s) (M) (3 * k)) ∧ Below w'.heap.size w' wr) (fun i _ => W - (intOf i).toNat)
    case atStart => exact ⟨0, Nat.zero_le _, rfl, by rw [upto_zero]; exact lay_made _ _ _, (Below.refl _ _).alloc (Nat.le_refl _) _⟩
    case round =>
      obtain ⟨k, hk, rfl, hl, hb⟩ := hrel
      have HL2 := hide hl
      have HB := hide hb
      clear hl hb
      by_cases hlt : k < W
      · have hgl : g < w'.heap.size := by
          rcases HGW.out with h | h
          · exact h
          · omega
        have hlg := HL.out.below HB.out hgl
        have hlen : ((List.range (n)).map (numB T 64 s)).length = n := by simp
        have x0 := hlg.cell (4 * k) (by omega)
        have x1 := hlg.cell (4 * k + 1) (by omega)
        have x2 := hlg.cell (4 * k + 2) (by omega)
        have x3 := hlg.cell (4 * k + 3) (by omega)
        rw [Rad.getD_map, if_pos (by omega)] at x0 x1 x2 x3
        have hlen2 := upto_len (bytB T s) (M) (3 * k)
        have f0 := HL2.out.frozen (3 * k) (by omega)
        have f1 := HL2.out.frozen (3 * k + 1) (by omega)
        have f2 := HL2.out.frozen (3 * k + 2) (by omega)
        obtain ⟨v0, hv0⟩ : ∃ v, wr.cell? ⟨w'.heap.size, 3 * k, none⟩ = some v := ⟨_, HL2.out.cell _ (by omega)⟩
        obtain ⟨v1, hv1⟩ : ∃ v, wr.cell? ⟨w'.heap.size, 3 * k + 1, none⟩ = some v := ⟨_, HL2.out.cell _ (by omega)⟩
        obtain ⟨v2, hv2⟩ : ∃ v, wr.cell? ⟨w'.heap.size, 3 * k + 2, none⟩ = some v := ⟨_, HL2.out.cell _ (by omega)⟩
        have t0 := tri0 T s k
        have t1 := tri1 T s k
        have t2 := tri2 T s k
        have hne : ∀ i j, (⟨w'.heap.size, i, none⟩ : Addr) ≠ ⟨g, j, none⟩ := fun i j he => by have := (Addr.mk.inj he).1; omega
        have e01 := hne (3 * k) (4 * k + 1)
        have e02 := hne (3 * k) (4 * k + 2)
        have e03 := hne (3 * k) (4 * k + 3)
        have e12 := hne (3 * k + 1) (4 * k + 2)
        have e13 := hne (3 * k + 1) (4 * k + 3)
        generalize numB T 64 s (4 * k) = z0 at *
        generalize numB T 64 s (4 * k + 1) = z1 at *
        generalize numB T 64 s (4 * k + 2) = z2 at *
        generalize numB T 64 s (4 * k + 3) = z3 at *
        generalize hy0 : bytB T s (3 * k) = y0 at t0
        generalize hy1 : bytB T s (3 * k + 1) = y1 at t1
        generalize hy2 : bytB T s (3 * k + 2) = y2 at t2
        have Y0 := hide hy0.symm
        have Y1 := hide hy1.symm
        have Y2 := hide hy2.symm
        have m0 : (4 * (k : Int)).toNat = 4 * k := by omega
        have m1 : (4 * (k : Int) + 4).toNat = 4 * k + 4 := by omega
        have m2 : (3 * (k : Int)).toNat = 3 * k := by omega
        have m3 : (3 * (k : Int) + 3).toNat = 3 * k + 3 := by omega
        have l0 : (0 : Int) ≤ 4 * (k : Int) ∧ 4 * (k : Int) + 4 ≤ (n : Int) := by omega
        have l1 : (0 : Int) ≤ 3 * (k : Int) ∧ 3 * (k : Int) + 3 ≤ (M : Int) := by omega
        clear hne hlen hlen2 hlg hy0 hy1 hy2 n4 n3 hr4 hM3
        go_wp2_with fail
        go_region
        go_wp2_with fail
        go_region
        go_wp2_with fail
        go_region
        go_wp2_with fail
        go_region
        go_wp2
        go_roundw
        case rel =>
          refine ⟨k + 1, by omega, by go_num, ?_, ?_⟩
          · have L0 := HL2.out.set (3 * k) (by rw [upto_len]; omega) y0
            rw [upto_set _ _ _ (by omega) Y0.out] at L0
            have L1 := L0.set (3 * k + 1) (by rw [upto_len]; omega) y1
            rw [upto_set _ _ _ (by omega) Y1.out] at L1
            have L2 := L1.set (3 * k + 2) (by rw [upto_len]; omega) y2
            rw [upto_set _ _ _ (by omega) Y2.out] at L2
            exact L2.drew.drew.drew.drew
          · exact ((((HB.out.setCell (Nat.le_refl _) _).setCell (Nat.le_refl _) _).setCell (Nat.le_refl _) _).drew.drew.drew.drew)
        case measure => simp [intOf]; omega
      · obtain rfl : k = W := by omega
        have hgl : g < w'.heap.size := by
          rcases HGW.out with h | h
          · exact h
          · omega
        have hj := joinRest_any T s k n M g w'.heap.size (by omega) (by omega) (by omega) hr4 HMN.out wr (HL.out.below HB.out hgl) HL2.out
        rw [if_neg hn4, if_neg hM3] at hj
        have HJ := hide hj
        clear hj
        go_wp2_with fail
        refine HJ.out.mono ?_
        rintro x w2 ⟨rfl, hl3, hb3⟩
        rw [un64_of _ _ _ HM8.out] at hl3
        have hconv := hl3.conv (cap := M) (n := M) (by rw [Rad.un64_len, ← HM8.out])
        have HB3 := hide (HB.out.trans (hb3 _ (Nat.le_refl _)))
        clear hl3 hb3
        go_wp2
        go_ret2
        exact ⟨HB3.out, Or.inl ⟨HOK.out, rfl⟩⟩
  · have HOK := hide hok
    clear hok HCO hz0 hz1 hz2 hi
    go_wp2_with fail
    go_region
    go_wp2
    go_ret2
    exact ⟨(Below.refl _ _).drew, Or.inr ⟨HOK.out, rfl⟩⟩

end Go.Proofs.YtdkbjefphihplabDoor.radw
