import Derived.Test.YtdkbjefphihplabDoorJoinRest
namespace Go.Proofs.YtdkbjefphihplabDoor.radw
open Go.ChangeShapes Go.WideShapes Go.ChangeAt Go.RowKit Go.Proofs.YtdkbjefphihplabDoor.common
attribute [local go_sem ↓] Go.wp_at_zero Go.wp_at_succ

theorem joinRest_any (T s : List UInt8) (W n M g g2 : Nat) (hgg : g2 ≠ g) (hW1 : 4 * W ≤ n) (hW2 : n < 4 * W + 4) (hr : n % 4 ≠ 1) (hM : M = Rad.n8 n) (w : World) (hl : Lay w g ((List.range n).map (numB T 64 s))) (hl2 : Lay w g2 (upto (bytB T s) M (3 * W))) :
    Calls Tryd.prog 134 #[.slice (if n = 4 * W then some ⟨g, 0, none⟩ else some ⟨g, 4 * W, none⟩) (n - 4 * W) (n - 4 * W), .slice (if M = 3 * W then some ⟨g2, 0, none⟩ else some ⟨g2, 3 * W, none⟩) (M - 3 * W) (M - 3 * W)] w
      fun e w' => e = .returned (.tuple #[]) ∧ Lay w' g2 ((List.range M).map (bytB T s)) ∧ ∀ b, b ≤ g2 → Below b w w' := by
  rw [← upto_all]
  have hlen : ((List.range n).map (numB T 64 s)).length = n := by simp
  unfold Rad.n8 at hM
  by_cases h0 : n = 4 * W
  · obtain rfl : M = 3 * W := by omega
    refine (join0 _ _ _ (by omega) _ w).mono ?_
    rintro e w' ⟨rfl, rfl⟩
    exact ⟨rfl, hl2, fun b _ => Below.refl _ _⟩
  · have c0 := hl.cell (4 * W) (by omega)
    have c1 := hl.cell (4 * W + 1) (by omega)
    rw [Rad.getD_map, if_pos (by omega)] at c0 c1
    rw [if_neg h0]
    by_cases h2 : n = 4 * W + 2
    · obtain rfl : M = 3 * W + 1 := by omega
      rw [if_neg (by omega), show n - 4 * W = 2 by omega, show 3 * W + 1 - 3 * W = 1 by omega]
      refine (join2_core g (4 * W) 2 g2 (3 * W) 1 w _ hl2 (by rw [upto_len]; omega) _ _ _ c0 c1 (tri0 T s W)).mono ?_
      rintro e w' ⟨rfl, h, hb⟩
      rw [upto_set _ _ _ (by omega) rfl] at h
      exact ⟨rfl, h, hb⟩
    · obtain rfl : M = 3 * W + 2 := by omega
      have c2 := hl.cell (4 * W + 2) (by omega)
      rw [Rad.getD_map, if_pos (by omega)] at c2
      rw [if_neg (by omega), show n - 4 * W = 3 by omega, show 3 * W + 2 - 3 * W = 2 by omega]
      refine (join3_core g (4 * W) 3 g2 (3 * W) 2 hgg w _ hl2 (by rw [upto_len]; omega) _ _ _ _ _ c0 c1 c2 (tri0 T s W) (tri1 T s W)).mono ?_
      rintro e w' ⟨rfl, h, hb⟩
      rw [fill1] at h
      exact ⟨rfl, h, hb⟩

theorem un64_of (T s : List UInt8) (M : Nat) (h : M = Rad.n8 s.length) : (List.range M).map (bytB T s) = Rad.un64 T s := by
  subst h; rfl


set_option maxRecDepth 100000 in
set_option maxHeartbeats 1600000 in
theorem joinSixes_whole (T s : List UInt8) (W g : Nat) (hn : 4 * W = s.length) (hs : 4 * W ≤ 140737488351232) (w : World) (hgw : g < w.heap.size ∨ 4 * W = 0) (hl : Lay w g ((List.range (4 * W)).map (numB T 64 s))) (ea : Addr) (he : Txt w ea) :
    Calls Tryd.prog 115 #[.slice (some ⟨g, 0, none⟩) (4 * W) (4 * W)] w fun x w' => Below w.heap.size w w' ∧
      ((Rad.restOk T s ∧ x = .returned (.tuple #[.string ⟨(Rad.un64 T s).toArray⟩, .nilIface])) ∨ (¬ Rad.restOk T s ∧ x = .returned (.tuple #[.string ⟨#[]⟩, X ea]))) := by
  have hW0 : 4 * (W : Int) / 4 = (W : Int) := by omega
  have hM0 : 6 * (4 * (W : Int)) / 8 = 3 * (W : Int) := by omega
  have HM8 : Hid (3 * W = Rad.n8 s.length) := by show _ = _; rw [← hn]; unfold Rad.n8; omega
  have HL := hide hl
  have HE := hide he
  have HGW := hide hgw
  have HN := hide hn
  clear hl he hgw hn
  obtain ⟨i0, hi, hz0, hz1, hz2⟩ := info_parts info8
  have hco := could_any T s W (4 * W) g HN.out (by omega) (by omega) w HL.out
  rw [if_pos rfl, show 4 * W - 4 * W = 0 by omega] at hco
  have HCO := hide hco
  clear hco
  have n4 : (4 * (W : Int)).toNat = 4 * W := by omega
  have n3 : (3 * (W : Int)).toNat = 3 * W := by omega
  have ce : w.cell? ⟨1, 0, none⟩ = some (X ea) := HE.out
  go_enter Tryd.func115, Tryd.ntmps115
  go_wp2_with fail
  refine HCO.out.mono ?_
  rintro x w' ⟨⟨hok, rfl⟩ | ⟨hok, rfl⟩, rfl⟩
  · have HOK := hide hok
    clear hok HCO ce
    go_wp2_with (refine wpList_make_row _ rfl _ _ 84 rfl 5 i0 (.int .u8 0) Tryd.underlying84 hi hz0 hz1 rfl .i64 .i64 (3 * W) ?c1 ?c2 ?c3 ?c4 ?_)
    case c1 => exact int_eq (by omega)
    case c2 => exact int_eq (by omega)
    case c3 => rw [hz2]; omega
    case c4 => omega
    clear hz0 hz1 hz2 hi
    go_loopw [27] (fun i wr => ∃ k : Nat, k ≤ W ∧ i = .int .i64 k ∧ Lay wr w'.heap.size (upto (bytB T s) (3 * W) (3 * k)) ∧ Below w'.heap.size w' wr) (fun i _ => W - (intOf i).toNat)
    case atStart => exact ⟨0, Nat.zero_le _, rfl, by rw [upto_zero]; exact lay_made _ _ _, (Below.refl _ _).alloc (Nat.le_refl _) _⟩
    case round =>
      obtain ⟨k, hk, rfl, hl, hb⟩ := hrel
      have HL2 := hide hl
      have HB := hide hb
      clear hl hb
      by_cases hlt : k < W
      · have hgl : g < w'.heap.size := by
          rcases HGW.out with h | h
          · exact h
          · omega
        have hlg := HL.out.below HB.out hgl
        have hlen : ((List.range (4 * W)).map (numB T 64 s)).length = 4 * W := by simp
        have x0 := hlg.cell (4 * k) (by omega)
        have x1 := hlg.cell (4 * k + 1) (by omega)
        have x2 := hlg.cell (4 * k + 2) (by omega)
        have x3 := hlg.cell (4 * k + 3) (by omega)
        rw [Rad.getD_map, if_pos (by omega)] at x0 x1 x2 x3
        have hlen2 := upto_len (bytB T s) (3 * W) (3 * k)
        have f0 := HL2.out.frozen (3 * k) (by omega)
        have f1 := HL2.out.frozen (3 * k + 1) (by omega)
        have f2 := HL2.out.frozen (3 * k + 2) (by omega)
        obtain ⟨v0, hv0⟩ : ∃ v, wr.cell? ⟨w'.heap.size, 3 * k, none⟩ = some v := ⟨_, HL2.out.cell _ (by omega)⟩
        obtain ⟨v1, hv1⟩ : ∃ v, wr.cell? ⟨w'.heap.size, 3 * k + 1, none⟩ = some v := ⟨_, HL2.out.cell _ (by omega)⟩
        obtain ⟨v2, hv2⟩ : ∃ v, wr.cell? ⟨w'.heap.size, 3 * k + 2, none⟩ = some v := ⟨_, HL2.out.cell _ (by omega)⟩
        have t0 := tri0 T s k
        have t1 := tri1 T s k
        have t2 := tri2 T s k
        have hne : ∀ i j, (⟨w'.heap.size, i, none⟩ : Addr) ≠ ⟨g, j, none⟩ := fun i j he => by have := (Addr.mk.inj he).1; omega
        have e01 := hne (3 * k) (4 * k + 1)
        have e02 := hne (3 * k) (4 * k + 2)
        have e03 := hne (3 * k) (4 * k + 3)
        have e12 := hne (3 * k + 1) (4 * k + 2)
        have e13 := hne (3 * k + 1) (4 * k + 3)
        generalize numB T 64 s (4 * k) = z0 at *
        generalize numB T 64 s (4 * k + 1) = z1 at *
        generalize numB T 64 s (4 * k + 2) = z2 at *
        generalize numB T 64 s (4 * k + 3) = z3 at *
        generalize hy0 : bytB T s (3 * k) = y0 at t0
        generalize hy1 : bytB T s (3 * k + 1) = y1 at t1
        generalize hy2 : bytB T s (3 * k + 2) = y2 at t2
        have Y0 := hide hy0.symm
        have Y1 := hide hy1.symm
        have Y2 := hide hy2.symm
        have m0 : (4 * (k : Int)).toNat = 4 * k := by omega
        have m1 : (4 * (k : Int) + 4).toNat = 4 * k + 4 := by omega
        have m2 : (3 * (k : Int)).toNat = 3 * k := by omega
        have m3 : (3 * (k : Int) + 3).toNat = 3 * k + 3 := by omega
        have l0 : (0 : Int) ≤ 4 * (k : Int) ∧ 4 * (k : Int) + 4 ≤ 4 * (W : Int) := by omega
        have l1 : (0 : Int) ≤ 3 * (k : Int) ∧ 3 * (k : Int) + 3 ≤ 3 * (W : Int) := by omega
        clear hne hlen hlen2 hlg hy0 hy1 hy2 n4 n3
        go_wp2_with fail
        go_region
        go_wp2_with fail
        go_region
        go_wp2_with fail
        go_region
        go_wp2_with fail
        go_region
        go_wp2
        go_roundw
        case rel =>
          refine ⟨k + 1, by omega, by go_num, ?_, ?_⟩
          · have L0 := HL2.out.set (3 * k) (by rw [upto_len]; omega) y0
            rw [upto_set _ _ _ (by omega) Y0.out] at L0
            have L1 := L0.set (3 * k + 1) (by rw [upto_len]; omega) y1
            rw [upto_set _ _ _ (by omega) Y1.out] at L1
            have L2 := L1.set (3 * k + 2) (by rw [upto_len]; omega) y2
            rw [upto_set _ _ _ (by omega) Y2.out] at L2
            exact L2.drew.drew.drew.drew
          · exact ((((HB.out.setCell (Nat.le_refl _) _).setCell (Nat.le_refl _) _).setCell (Nat.le_refl _) _).drew.drew.drew.drew)
        case measure => simp [intOf]; omega
      · obtain rfl : k = W := by omega
        have hl := HL2.out
        rw [upto_all, un64_of _ _ _ HM8.out] at hl
        have hconv := hl.conv (cap := 3 * k) (n := 3 * k) (by rw [Rad.un64_len, ← HM8.out])
        clear hl
        go_wp2_with (go_at_call 134; refine (join0 _ _ _ rfl _ _).mono ?_; rintro x w2 ⟨rfl, rfl⟩)
        go_ret2
        exact ⟨HB.out, Or.inl ⟨HOK.out, rfl⟩⟩
  · have HOK := hide hok
    clear hok HCO hz0 hz1 hz2 hi
    go_wp2_with fail
    go_region
    go_wp2
    go_ret2
    exact ⟨(Below.refl _ _).drew, Or.inr ⟨HOK.out, rfl⟩⟩

end Go.Proofs.YtdkbjefphihplabDoor.radw
