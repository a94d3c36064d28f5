import Derived.Test.YtlbhiefamnpphaaDoorJeW5
namespace Go.Proofs.YtlbhiefamnpphaaDoor.je
open Go.ChangeShapes Go.WideShapes Go.ChangeAt Go.RowKit Go.Proofs.YtlbhiefamnpphaaDoor.common Go.Proofs.YtlbhiefamnpphaaDoor.Jc Go.Proofs.YtlbhiefamnpphaaDoor.jc
attribute [local go_sem ↓] Go.wp_at_zero Go.wp_at_succ

set_option maxRecDepth 100000 in
set_option maxHeartbeats 3200000 in
theorem digits_exact (t : TypeId) (tl : List Value) (w : World) (b : Nat) (c : Cs) (k : Nat) (hk : k ≤ 4) (h : Cu t tl w b c) :
    Calls Tryd.prog 38 #[ptr b, .int .i64 (k : Int)] w fun e w' => e = .returned (.int .i64 ((digsS k 0 c).1 : Int)) ∧ Cu t tl w' b (digsS k 0 c).2 ∧ Fk b w w' := by
  obtain ⟨N, hN⟩ : ∃ N, N = digsS k 0 c := ⟨_, rfl⟩
  rw [← hN]
  have HN := hide hN
  clear hN
  go_enter Tryd.func38, Tryd.ntmps38
  go_wp2_with fail
  go_loopw [5, 7] (fun u v wr => ∃ (acc i : Nat) (d : Cs), u = .int .i64 (acc : Int) ∧ v = .int .i64 (i : Int) ∧ i ≤ k ∧ Hid (acc < 10 ^ i) ∧ Hid (N = digsS (k - i) acc d) ∧ Hid (Cu t tl wr b d) ∧ Hid (Fk b w wr)) (fun _ v _ => 5 - (intOf v).toNat)
  case atStart => exact ⟨0, 0, c, rfl, rfl, by omega, by show _ < _; simp, HN, h, Fk.refl _ _⟩
  case round =>
    obtain ⟨acc, i, d, rfl, rfl, ik, HA, HS, HC, HF⟩ := hrel
    have hacc : acc < 10000 := Nat.lt_of_lt_of_le HA.out (Nat.pow_le_pow_right (n := 10) (by decide) (show i ≤ 4 by omega))
    by_cases hik : i < k
    · have hii : (i : Int) < (k : Int) := by omega
      have HD := hide (digit_any t tl wr b d HC.out)
      have hlt := dig_lt d
      have HS2 : Hid (N = digsS (k - (i + 1)) (10 * acc + (digS d).1) (digS d).2) := by
        show _ = _
        rw [HS.out, show k - i = k - (i + 1) + 1 by omega, digs_step]
      have HA2 : Hid (10 * acc + (digS d).1 < 10 ^ (i + 1)) := by show _ < _; have := HA.out; rw [Nat.pow_succ]; omega
      have Hv : Hid (Value.int .i64 (wrap64 ((i : Int) + 1)) = .int .i64 ((i + 1 : Nat) : Int)) := by show _ = _; rw [wrpN i (by omega)]; rfl
      clear HS HA h HN HC
      generalize (digS d).1 = q at *
      generalize (digS d).2 = d2 at *
      go_wp2_with fail
      refine HD.out.mono ?_
      rintro e w1 ⟨rfl, hc1, hf1⟩
      have HC2 := hide hc1
      have HF2 := hide (HF.out.trans hf1)
      clear hc1 hf1
      go_wp2_with fail
      go_roundw
      case rel => exact ⟨10 * acc + q, i + 1, d2, by first | rfl | go_num, by first | exact Hv.out | go_num, by omega, HA2, HS2, HC2, HF2⟩
      case measure => simp [intOf]; omega
    · have ek : i = k := by omega
      subst ek
      have hii : ¬ ((i : Int) < (i : Int)) := by omega
      have e1 : N = (acc, d) := by rw [HS.out, Nat.sub_self]; rfl
      have HE := hide e1
      clear hik e1
      go_wp2_with fail
      go_ret
      exact ⟨by rw [HE.out]; rfl, by rw [HE.out]; exact HC.out, HF.out⟩

theorem fk_drew {b : Nat} {w w' : World} (k : Fk b (World.drew w) w') : Fk b w w' := ⟨k.os, k.tape, k.output, k.size, k.block⟩
theorem digs_lt (c : Cs) : (digsS 2 0 c).1 ≤ 10000 := by
  have h1 := dig_lt c
  have h2 := dig_lt (digS c).2
  show 10 * (10 * 0 + (digS c).1) + (digS (digS c).2).1 ≤ 10000
  omega

set_option maxRecDepth 100000 in
set_option maxHeartbeats 6400000 in
theorem rfc850_any (t : TypeId) (tl : List Value) (w : World) (b : Nat) (c : Cs) (h : Cu t tl w b c) (hN : Nt w b) (L : Nat) (hL1 : 100 ≤ L) (hL2 : L ≤ 9999) (htl : tl = [.int .i64 (L : Int)]) :
    Calls Tryd.prog 26 #[ptr b] w fun e w' => DtP (Rd rfcL (fun x => Fm x ∧ x.y ≤ L ∧ L < x.y + 100)) t tl b c w e w' := by
  have hlt := h.lt
  have BW : Below w.heap.size w ((w.alloc (.cells #[.int .i64 0, .int .i64 0, .int .i64 0, .int .i64 0, .int .i64 0, .int .i64 0, .int .i64 0] 26)).alloc (.cells #[.int .i64 0, .int .i64 0, .int .i64 0, .int .i64 0, .int .i64 0, .int .i64 0, .int .i64 0] 26)) := ((Below.refl _ _).alloc (Nat.le_refl _) _).alloc (by simp) _
  have HD0 : Hid (Da ((w.alloc (.cells #[.int .i64 0, .int .i64 0, .int .i64 0, .int .i64 0, .int .i64 0, .int .i64 0, .int .i64 0] 26)).alloc (.cells #[.int .i64 0, .int .i64 0, .int .i64 0, .int .i64 0, .int .i64 0, .int .i64 0, .int .i64 0] 26)) (w.heap.size + 1) 0 0 0 0 0 0 0) := heap2 w _ _
  have HU0 : Hid (Cu t tl ((w.alloc (.cells #[.int .i64 0, .int .i64 0, .int .i64 0, .int .i64 0, .int .i64 0, .int .i64 0, .int .i64 0] 26)).alloc (.cells #[.int .i64 0, .int .i64 0, .int .i64 0, .int .i64 0, .int .i64 0, .int .i64 0, .int .i64 0] 26)) b c) := (BW.block b hlt).trans h
  have HF0 : Hid (F2 b (w.heap.size + 1) ((w.alloc (.cells #[.int .i64 0, .int .i64 0, .int .i64 0, .int .i64 0, .int .i64 0, .int .i64 0, .int .i64 0] 26)).alloc (.cells #[.int .i64 0, .int .i64 0, .int .i64 0, .int .i64 0, .int .i64 0, .int .i64 0, .int .i64 0] 26)) ((w.alloc (.cells #[.int .i64 0, .int .i64 0, .int .i64 0, .int .i64 0, .int .i64 0, .int .i64 0, .int .i64 0] 26)).alloc (.cells #[.int .i64 0, .int .i64 0, .int .i64 0, .int .i64 0, .int .i64 0, .int .i64 0, .int .i64 0] 26))) := F2.refl _ _ _
  have HRS : Hid (∀ W, F2 b (w.heap.size + 1) ((w.alloc (.cells #[.int .i64 0, .int .i64 0, .int .i64 0, .int .i64 0, .int .i64 0, .int .i64 0, .int .i64 0] 26)).alloc (.cells #[.int .i64 0, .int .i64 0, .int .i64 0, .int .i64 0, .int .i64 0, .int .i64 0, .int .i64 0] 26)) W → W.there w.heap.size 0 7) := fun W hW => by
    have h0 : (((w.alloc (.cells #[.int .i64 0, .int .i64 0, .int .i64 0, .int .i64 0, .int .i64 0, .int .i64 0, .int .i64 0] 26)).alloc (.cells #[.int .i64 0, .int .i64 0, .int .i64 0, .int .i64 0, .int .i64 0, .int .i64 0, .int .i64 0] 26))).heap[w.heap.size]? = some (.cells #[.int .i64 0, .int .i64 0, .int .i64 0, .int .i64 0, .int .i64 0, .int .i64 0, .int .i64 0] 26) := by
      show (Array.push _ _)[w.heap.size]? = _
      rw [Array.getElem?_push, if_neg (by rw [World.size_alloc]; omega)]; exact heap_new w _
    exact there_of ((hW.block w.heap.size (by rw [World.size_alloc, World.size_alloc]; omega) (by omega) (by omega)).trans h0)
  have HNT : Hid (∀ W, F2 b (w.heap.size + 1) ((w.alloc (.cells #[.int .i64 0, .int .i64 0, .int .i64 0, .int .i64 0, .int .i64 0, .int .i64 0, .int .i64 0] 26)).alloc (.cells #[.int .i64 0, .int .i64 0, .int .i64 0, .int .i64 0, .int .i64 0, .int .i64 0, .int .i64 0] 26)) W → Nt W b) := fun W hW => hN.f2 BW hW (by omega)
  have HFK : Hid (∀ W, F2 b (w.heap.size + 1) ((w.alloc (.cells #[.int .i64 0, .int .i64 0, .int .i64 0, .int .i64 0, .int .i64 0, .int .i64 0, .int .i64 0] 26)).alloc (.cells #[.int .i64 0, .int .i64 0, .int .i64 0, .int .i64 0, .int .i64 0, .int .i64 0, .int .i64 0] 26)) W → Fk b w W) := fun W hW => hW.one (Fk.of BW) (by omega)
  have HN : Hid (w.heap.size + 1 ≠ b) := by show _ ≠ _; omega
  have Hlt := hide hlt
  clear BW h hN hlt
  have G1 := hide (weekdayInFull_any t tl _ b _ HU0.out (HNT.out _ HF0.out).ft (HNT.out _ HF0.out).bf)
  go_enter Tryd.func26, Tryd.ntmps26
  go_wp2_with fail
  refine G1.out.mono ?_
  rintro e w1 ⟨n1, c1, rfl, hn1, r1, u1, k1⟩
  have D1 := HD0.out.fk k1 HN.out
  obtain ⟨v1, x1⟩ := D1.cells.2 6 (by decide)
  have f1 := D1.cells.1 6
  have HF1 : Hid (F2 b (w.heap.size + 1) _ (w1.setCell ⟨w.heap.size + 1, 6, none⟩ (.int .i64 (n1 : Int)))) := (HF0.out.fk k1).set 6 _
  have HD1 := hide (D1.put6 (n1 : Int))
  have HU1 := hide (cu_set u1 HN.out 6 (.int .i64 (n1 : Int)))
  have R1 := hide r1
  clear D1 r1 u1 k1 HD0 G1 HF0 HU0
  have G2 : Hid (Calls Tryd.prog 37 #[ptr b, .string ⟨#[44, 32]⟩] _ _) := must_any t tl _ b _ [44, 32] HU1.out
  go_wp2_with fail
  refine G2.out.mono ?_
  rintro e w2 ⟨rfl, u2, k2⟩
  have HF2 := hide (HF1.out.fk k2)
  have HD2 := hide (HD1.out.fk k2 HN.out)
  have HU2 := hide u2
  clear u2 k2 HF1 HD1 HU1 G2
  have G3 := hide ((show Calls Tryd.prog 38 #[ptr b, .int .i64 2] _ _ from digits_any t tl _ b _ 2 (by decide) HU2.out))
  go_wp2_with fail
  refine G3.out.mono ?_
  rintro e w3 ⟨n3, c3, rfl, hn3, r3, u3, k3⟩
  have D3 := HD2.out.fk k3 HN.out
  obtain ⟨v3, x3⟩ := D3.cells.2 2 (by decide)
  have f3 := D3.cells.1 2
  have HF3 : Hid (F2 b (w.heap.size + 1) _ (w3.setCell ⟨w.heap.size + 1, 2, none⟩ (.int .i64 (n3 : Int)))) := (HF2.out.fk k3).set 2 _
  have HD3 := hide (D3.put2 (n3 : Int))
  have HU3 := hide (cu_set u3 HN.out 2 (.int .i64 (n3 : Int)))
  have R3 := hide r3
  clear D3 r3 u3 k3 HD2 G3 HF2 HU2
  have G4 : Hid (Calls Tryd.prog 37 #[ptr b, .string ⟨#[45]⟩] _ _) := must_any t tl _ b _ [45] HU3.out
  go_wp2_with fail
  refine G4.out.mono ?_
  rintro e w4 ⟨rfl, u4, k4⟩
  have HF4 := hide (HF3.out.fk k4)
  have HD4 := hide (HD3.out.fk k4 HN.out)
  have HU4 := hide u4
  clear u4 k4 HF3 HD3 HU3 G4
  have G5 := hide (month_anyP t tl _ b _ HU4.out (HNT.out _ HF4.out).ot (HNT.out _ HF4.out).bo)
  go_wp2_with fail
  refine G5.out.mono ?_
  rintro e w5 ⟨n5, c5, rfl, hn5, r5, u5, k5⟩
  have D5 := HD4.out.fk k5 HN.out
  obtain ⟨v5, x5⟩ := D5.cells.2 1 (by decide)
  have f5 := D5.cells.1 1
  have HF5 : Hid (F2 b (w.heap.size + 1) _ (w5.setCell ⟨w.heap.size + 1, 1, none⟩ (.int .i64 (n5 : Int)))) := (HF4.out.fk k5).set 1 _
  have HD5 := hide (D5.put1 (n5 : Int))
  have HU5 := hide (cu_set u5 HN.out 1 (.int .i64 (n5 : Int)))
  have R5 := hide r5
  clear D5 r5 u5 k5 HD4 G5 HF4 HU4
  have G6 : Hid (Calls Tryd.prog 37 #[ptr b, .string ⟨#[45]⟩] _ _) := must_any t tl _ b _ [45] HU5.out
  go_wp2_with fail
  refine G6.out.mono ?_
  rintro e w6 ⟨rfl, u6, k6⟩
  have HF6 := hide (HF5.out.fk k6)
  have HD6 := hide (HD5.out.fk k6 HN.out)
  have HU6 := hide u6
  clear u6 k6 HF5 HD5 HU5 G6
  have HDG : Hid (∀ W d, Cu t tl W b d → Calls Tryd.prog 38 #[ptr b, .int .i64 2] W fun e w' => e = .returned (.int .i64 ((digsS 2 0 d).1 : Int)) ∧ Cu t tl w' b (digsS 2 0 d).2 ∧ Fk b W w') := fun W d hW => digits_exact t tl W b d 2 (by decide) hW
  have q9 : w6.cell? ⟨b, 2, none⟩ = some (.int .i64 (L : Int)) := by have q8 := HU6.out; unfold Cu at q8; rw [htl] at q8; simp [World.cell?, q8]
  have Htl := hide htl
  have HLL : Hid (∀ W d, Cu t tl W b d → W.cell? ⟨b, 2, none⟩ = some (.int .i64 (L : Int))) := fun W d q8 => by unfold Cu at q8; rw [Htl.out] at q8; simp [World.cell?, q8]
  clear htl
  go_wp2_with fail
  go_region_with (first
    | (go_at_call 38; refine (HDG.out (World.drew w6) _ HU6.out).mono ?_; rintro e w7 ⟨rfl, u7, k7⟩; have q7 := HLL.out _ _ u7; have k8 := fk_drew k7; have f7 := (HD6.out.fk k8 HN.out).cells.1 0; obtain ⟨v7, x7⟩ := (HD6.out.fk k8 HN.out).cells.2 0 (by decide))
    | (go_at_call 42; refine (latestLike_any (digsS 2 0 _).1 L _ (digs_lt _) hL2 hL1).mono ?_; rintro e w8 ⟨rfl, rfl⟩))
  all_goals
    have r7 : RdD 2 (mustS [45] c5) (digsS 2 0 (mustS [45] c5)).1 (digsS 2 0 (mustS [45] c5)).2 := digs0 2 _
    generalize (digsS 2 0 (mustS [45] c5)).1 = m7 at *
    generalize (digsS 2 0 (mustS [45] c5)).2 = c7 at *
    generalize hn7 : lk m7 L = n7 at *
    have HN7 : Hid (n7 = lk m7 L) := hn7.symm
    clear hn7 q7 q9 HDG HLL x7 f7
    have D7 := HD6.out.fk k8 HN.out
    have HF7 : Hid (F2 b (w.heap.size + 1) _ (w8.setCell ⟨w.heap.size + 1, 0, none⟩ (.int .i64 (n7 : Int)))) := (HF6.out.fk k8).set 0 _
    have HD7 := hide (D7.put0 (n7 : Int))
    have HU7 := hide (cu_set u7 HN.out 0 (.int .i64 (n7 : Int)))
    have R7 := hide r7
    clear D7 r7 u7 k8 HD6 HF6 HU6
    have G8 : Hid (Calls Tryd.prog 37 #[ptr b, .string ⟨#[32]⟩] _ _) := must_any t tl _ b _ [32] HU7.out
    go_wp2_with fail
    refine G8.out.mono ?_
    rintro e w8 ⟨rfl, u8, k8⟩
    have HF8 := hide (HF7.out.fk k8)
    have HD8 := hide (HD7.out.fk k8 HN.out)
    have HU8 := hide u8
    clear u8 k8 HF7 HD7 HU7 G8
    have G9 := hide (time_any t tl _ b (w.heap.size + 1) _ _ _ _ _ _ _ _ HU8.out HD8.out HN.out)
    go_wp2_with fail
    refine G9.out.mono ?_
    rintro e w9 ⟨th, ti, ts, c9, rfl, r9, u9, d9, k9⟩
    have HF9 := hide (HF8.out.trans k9)
    have HD9 := hide d9
    have HU9 := hide u9
    have R9 := hide r9
    clear u9 k9 d9 r9 HF8 HD8 HU8 G9
    have G10 : Hid (Calls Tryd.prog 37 #[ptr b, .string ⟨#[32, 71, 77, 84]⟩] _ _) := must_any t tl _ b _ [32, 71, 77, 84] HU9.out
    go_wp2_with fail
    refine G10.out.mono ?_
    rintro e w10 ⟨rfl, u10, k10⟩
    have HF10 := hide (HF9.out.fk k10)
    have HD10 := hide (HD9.out.fk k10 HN.out)
    have HU10 := hide u10
    clear u10 k10 HF9 HD9 HU9 G10
    have y7 := HD10.out
    unfold Da at y7
    have y0 : w10.cell? ⟨w.heap.size + 1, 0, none⟩ = some (.int .i64 (n7 : Int)) := by simp only [World.cell?, y7]; rfl
    have y1 : w10.cell? ⟨w.heap.size + 1, 1, none⟩ = some (.int .i64 (n5 : Int)) := by simp only [World.cell?, y7]; rfl
    have y2 : w10.cell? ⟨w.heap.size + 1, 2, none⟩ = some (.int .i64 (n3 : Int)) := by simp only [World.cell?, y7]; rfl
    have y3 : w10.cell? ⟨w.heap.size + 1, 3, none⟩ = some (.int .i64 (th : Int)) := by simp only [World.cell?, y7]; rfl
    have y4 : w10.cell? ⟨w.heap.size + 1, 4, none⟩ = some (.int .i64 (ti : Int)) := by simp only [World.cell?, y7]; rfl
    have y5 : w10.cell? ⟨w.heap.size + 1, 5, none⟩ = some (.int .i64 (ts : Int)) := by simp only [World.cell?, y7]; rfl
    have y6 : w10.cell? ⟨w.heap.size + 1, 6, none⟩ = some (.int .i64 (n1 : Int)) := by simp only [World.cell?, y7]; rfl
    have HTH : Hid (w10.there w.heap.size 0 (#[.int .i64 (n7 : Int), .int .i64 (n5 : Int), .int .i64 (n3 : Int), .int .i64 (th : Int), .int .i64 (ti : Int), .int .i64 (ts : Int), .int .i64 (n1 : Int)] : Array Value).size) := HRS.out _ HF10.out
    obtain ⟨Z, hZ⟩ : ∃ Z, Z = (w10).setCells w.heap.size 0 (#[.int .i64 (n7 : Int), .int .i64 (n5 : Int), .int .i64 (n3 : Int), .int .i64 (th : Int), .int .i64 (ti : Int), .int .i64 (ts : Int), .int .i64 (n1 : Int)] : Array Value).toList := ⟨_, rfl⟩
    have HZ := hide hZ
    have HZR : Hid (Z.rangeAt w.heap.size 0 [.int .i64 (n7 : Int), .int .i64 (n5 : Int), .int .i64 (n3 : Int), .int .i64 (th : Int), .int .i64 (ti : Int), .int .i64 (ts : Int), .int .i64 (n1 : Int)]) := by rw [hZ]; exact World.rangeAt_setCells_same _ w.heap.size 0 _ HTH.out
    have bZ : Below w.heap.size w10 Z := by rw [hZ]; exact below_setCells (Below.refl _ _) (Nat.le_refl _) _ _
    have HZF := hide ((HFK.out _ HF10.out).bel bZ)
    have HZU : Hid (Cu t tl Z b _) := (bZ.block b Hlt.out).trans HU10.out
    clear y7 hZ bZ HRS HNT HFK
    go_wp2_with (refine wpList_store_mid rfl 26 (.tmp 2) (.tmp 53) rfl w.heap.size 0 #[.int .i64 (n7 : Int), .int .i64 (n5 : Int), .int .i64 (n3 : Int), .int .i64 (th : Int), .int .i64 (ti : Int), .int .i64 (ts : Int), .int .i64 (n1 : Int)] rfl rfl HTH.out sizeD (one7 _ _ _ _ _ _ _) ?_; rw [← HZ.out])
    refine bodyPost_ret (v := .agg #[.int .i64 (n7 : Int), .int .i64 (n5 : Int), .int .i64 (n3 : Int), .int .i64 (th : Int), .int .i64 (ti : Int), .int .i64 (ts : Int), .int .i64 (n1 : Int)]) (results_cell1 (b := w.heap.size) (o := 0) (cs := [.int .i64 (n7 : Int), .int .i64 (n5 : Int), .int .i64 (n3 : Int), .int .i64 (th : Int), .int .i64 (ti : Int), .int .i64 (ts : Int), .int .i64 (n1 : Int)]) Tryd.results26 _ rfl HZR.out Tryd.underlying26 rfl sizeD) rfl ?_
    exact dtP (x := ⟨n7, n5, n3, th, ti, ts, n1⟩) (by simp [dv]) (by obtain ⟨k5, rfl, q5⟩ := R5.out; rw [HN7.out]; exact rfc_of hL1 hL2 R1.out.2 (must_rd _ _) R3.out (must_rd _ _) q5 (must_rd _ _) R7.out (must_rd _ _) R9.out (must_rd _ _)) HZU.out HZF.out
end Go.Proofs.YtlbhiefamnpphaaDoor.je
