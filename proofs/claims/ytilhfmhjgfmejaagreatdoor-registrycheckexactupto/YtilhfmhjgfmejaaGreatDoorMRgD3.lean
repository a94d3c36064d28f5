import Derived.Test.YtilhfmhjgfmejaaGreatDoorMRgD2
namespace Go.Proofs.YtilhfmhjgfmejaaGreatDoor.rg
open Go.ChangeShapes Go.WideShapes Go.ChangeAt Go.RowKit Go.Proofs.YtilhfmhjgfmejaaGreatDoor.common Go.Maps
attribute [local go_sem ↓] Go.wp_at_zero Go.wp_at_succ

set_option maxRecDepth 100000 in
set_option maxHeartbeats 3200000 in
theorem tooMany_any (w : World) (t : Ten) (vC vU : Value) (cs : List Cli) (us : List Usr) (hC : LiesC w vC cs) (hU : LiesU w vU us) :
    Calls Tryz.prog 16 #[.agg #[.int .i64 t.a0, .int .i64 t.a1, .int .i64 t.a2, .int .i64 t.a3, .int .i64 t.a4, .int .i64 t.a5, .int .i64 t.a6, .int .i64 t.a7, .int .i64 t.a8, .int .i64 t.a9, vC, vU]] w fun e w' => e = .returned (.bool (manyB cs us)) ∧ Below w.heap.size w w' := by
  have HLC := hide hC
  obtain ⟨oC, cC, rfl, _⟩ := hC
  obtain ⟨oU, cU, rfl, _⟩ := hU
  have hb := heap_new w (.cells #[.int .i64 t.a0, .int .i64 t.a1, .int .i64 t.a2, .int .i64 t.a3, .int .i64 t.a4, .int .i64 t.a5, .int .i64 t.a6, .int .i64 t.a7, .int .i64 t.a8, .int .i64 t.a9, .slice oC cs.length cC, .slice oU us.length cU] 25)
  have HB : Hid (Below w.heap.size w (w.alloc (.cells #[.int .i64 t.a0, .int .i64 t.a1, .int .i64 t.a2, .int .i64 t.a3, .int .i64 t.a4, .int .i64 t.a5, .int .i64 t.a6, .int .i64 t.a7, .int .i64 t.a8, .int .i64 t.a9, .slice oC cs.length cC, .slice oU us.length cU] 25))) := (Below.refl _ _).alloc (Nat.le_refl _) _
  have p10 : (w.alloc (.cells #[.int .i64 t.a0, .int .i64 t.a1, .int .i64 t.a2, .int .i64 t.a3, .int .i64 t.a4, .int .i64 t.a5, .int .i64 t.a6, .int .i64 t.a7, .int .i64 t.a8, .int .i64 t.a9, .slice oC cs.length cC, .slice oU us.length cU] 25)).cell? ⟨w.heap.size, 10, none⟩ = some (.slice oC cs.length cC) := cell_of hb 10
  have p11 : (w.alloc (.cells #[.int .i64 t.a0, .int .i64 t.a1, .int .i64 t.a2, .int .i64 t.a3, .int .i64 t.a4, .int .i64 t.a5, .int .i64 t.a6, .int .i64 t.a7, .int .i64 t.a8, .int .i64 t.a9, .slice oC cs.length cC, .slice oU us.length cU] 25)).cell? ⟨w.heap.size, 11, none⟩ = some (.slice oU us.length cU) := cell_of hb 11
  have HQ : Hid (manyB cs us = (decide (64 < cs.length) || (decide (64 < us.length) || cs.any tmB))) := rfl
  generalize manyB cs us = r at *
  clear hb
  by_cases h1 : 64 < cs.length
  · have e1 : (64 : Int) < (cs.length : Int) := by omega
    have HT : Hid (r = true) := by show _ = _; rw [HQ.out, decide_eq_true h1]; rfl
    clear h1
    go_enter Tryz.func16, Tryz.ntmps16
    go_wp2_with fail
    go_ret
    exact ⟨by rw [HT.out] <;> rfl, HB.out⟩
  have e1 : ¬ (64 : Int) < (cs.length : Int) := by omega
  by_cases h2 : 64 < us.length
  · have e2 : (64 : Int) < (us.length : Int) := by omega
    have HT : Hid (r = true) := by show _ = _; rw [HQ.out, decide_eq_true h2, Bool.true_or, Bool.or_true]
    clear h1 h2
    go_enter Tryz.func16, Tryz.ntmps16
    go_wp2_with fail
    go_ret
    exact ⟨by rw [HT.out] <;> rfl, HB.out⟩
  have e2 : ¬ (64 : Int) < (us.length : Int) := by omega
  have HT : Hid (r = cs.any tmB) := by show _ = _; rw [HQ.out, decide_eq_false h1, decide_eq_false h2]; rfl
  have HCL := hide (HLC.out.below HB.out)
  go_enter Tryz.func16, Tryz.ntmps16
  go_wp2_with fail
  generalize w.alloc (.cells #[.int .i64 t.a0, .int .i64 t.a1, .int .i64 t.a2, .int .i64 t.a3, .int .i64 t.a4, .int .i64 t.a5, .int .i64 t.a6, .int .i64 t.a7, .int .i64 t.a8, .int .i64 t.a9, .slice oC cs.length cC, .slice oU us.length cU] 25) = V at *
  go_loopw [3] (fun i wr => ∃ k : Nat, k ≤ cs.length ∧ i = .int .i64 k ∧ Hid ((cs.take k).any tmB = false) ∧ Hid (wr = V)) (fun i _ => cs.length - (intOf i).toNat)
  case atStart => exact ⟨0, Nat.zero_le _, rfl, rfl, rfl⟩
  case round =>
    obtain ⟨k, hk, rfl, HA, hV⟩ := hrel
    obtain rfl := hV.out.symm
    clear hV
    by_cases hlt : k < cs.length
    · have k1 : (k : Int) < (cs.length : Int) := by omega
      have k0 : (0 : Int) ≤ (k : Int) := Int.natCast_nonneg _
      obtain ⟨oa, ca, hv, hcc⟩ := HCL.out
      cases hv
      obtain ⟨b, o, vR, vS, rfl, hbl, hca⟩ := hcc k hlt
      obtain ⟨_, _, _, _, c4, c5, hlr, hls⟩ := hca
      have HTK := hide (any_take tmB cs k hlt)
      have HAT := hide (any_at tmB cs k hlt)
      generalize cs[k] = x at *
      obtain ⟨oR, cR, rfl, _⟩ := hlr
      obtain ⟨oS, cS, rfl, _⟩ := hls
      obtain ⟨id, pub, salt, dig, tos, sc⟩ := x
      dsimp only at c4 c5
      have HX : Hid (tmB ⟨id, pub, salt, dig, tos, sc⟩ = (decide (8 < tos.length) || decide (16 < sc.length))) := rfl
      generalize tmB ⟨id, pub, salt, dig, tos, sc⟩ = q at *
      clear hcc
      by_cases g1 : 8 < tos.length
      · have f1 : (8 : Int) < (tos.length : Int) := by omega
        have HR : Hid (r = true) := by show _ = _; rw [HT.out]; exact HAT.out (by rw [HX.out, decide_eq_true g1]; rfl)
        clear g1
        go_wp2_with fail
        go_ret
        exact ⟨by rw [HR.out] <;> rfl, HB.out⟩
      have f1 : ¬ (8 : Int) < (tos.length : Int) := by omega
      by_cases g2 : 16 < sc.length
      · have f2 : (16 : Int) < (sc.length : Int) := by omega
        have HR : Hid (r = true) := by show _ = _; rw [HT.out]; exact HAT.out (by rw [HX.out, decide_eq_true g2, Bool.or_true])
        clear g1 g2
        go_wp2_with fail
        go_ret
        exact ⟨by rw [HR.out] <;> rfl, HB.out⟩
      have f2 : ¬ (16 : Int) < (sc.length : Int) := by omega
      have HN : Hid ((cs.take (k + 1)).any tmB = false) := by show _ = _; rw [HTK.out, HA.out, HX.out, decide_eq_false g1, decide_eq_false g2]; rfl
      clear g1 g2
      go_wp2_with fail
      go_roundw
      case rel => exact ⟨k + 1, by omega, by go_num, HN, hide trivial⟩
      case measure => simp [intOf]; omega
    · have k1 : ¬ (k : Int) < (cs.length : Int) := by omega
      have HR : Hid (r = false) := by
        obtain rfl : k = cs.length := by omega
        have h := HA.out
        rw [List.take_length] at h
        show _ = _
        rw [HT.out, h]
      go_wp2_with fail
      go_ret
      exact ⟨by rw [HR.out] <;> rfl, HB.out⟩

set_option maxRecDepth 100000 in
set_option maxHeartbeats 3200000 in
theorem numbers_any (w : World) (t : Ten) (vC vU : Value) :
    Calls Tryz.prog 22 #[.agg #[.int .i64 t.a0, .int .i64 t.a1, .int .i64 t.a2, .int .i64 t.a3, .int .i64 t.a4, .int .i64 t.a5, .int .i64 t.a6, .int .i64 t.a7, .int .i64 t.a8, .int .i64 t.a9, vC, vU]] w fun e w' => e = .returned (.slice (some ⟨w.heap.size + 1, 0, none⟩) 10 10) ∧ (∀ i : Nat, i < 10 → w'.cell? ⟨w.heap.size + 1, i, none⟩ = some (.int .i64 ((tenL t).getD i 0))) ∧ Below w.heap.size w w' := by
  go_enter Tryz.func22, Tryz.ntmps22
  go_wp2_with fail
  go_ret
  have hn := heap_new (w.alloc (.cells #[.int .i64 t.a0, .int .i64 t.a1, .int .i64 t.a2, .int .i64 t.a3, .int .i64 t.a4, .int .i64 t.a5, .int .i64 t.a6, .int .i64 t.a7, .int .i64 t.a8, .int .i64 t.a9, vC, vU] 25)) (.cells #[.int .i64 t.a0, .int .i64 t.a1, .int .i64 t.a2, .int .i64 t.a3, .int .i64 t.a4, .int .i64 t.a5, .int .i64 t.a6, .int .i64 t.a7, .int .i64 t.a8, .int .i64 t.a9] 3)
  rw [show (w.alloc (.cells #[.int .i64 t.a0, .int .i64 t.a1, .int .i64 t.a2, .int .i64 t.a3, .int .i64 t.a4, .int .i64 t.a5, .int .i64 t.a6, .int .i64 t.a7, .int .i64 t.a8, .int .i64 t.a9, vC, vU] 25)).heap.size = w.heap.size + 1 by simp] at hn
  refine ⟨rfl, fun i hi => ?_, ((Below.refl _ _).alloc (Nat.le_refl _) _).alloc (by simp) _⟩
  match i, hi with
  | 0, _ => exact cell_of hn 0
  | 1, _ => exact cell_of hn 1
  | 2, _ => exact cell_of hn 2
  | 3, _ => exact cell_of hn 3
  | 4, _ => exact cell_of hn 4
  | 5, _ => exact cell_of hn 5
  | 6, _ => exact cell_of hn 6
  | 7, _ => exact cell_of hn 7
  | 8, _ => exact cell_of hn 8
  | 9, _ => exact cell_of hn 9

/-- the document's two tables of the numbers -/
def RTab (w : World) : Prop := ∀ i : Nat, i < 10 → w.cell? ⟨9, i, none⟩ = some (.int .i64 (loL.getD i 0)) ∧ w.cell? ⟨10, i, none⟩ = some (.int .i64 (hiL.getD i 0))
theorem RTab.below {w w' : World} (h : RTab w) (hb : Below w.heap.size w w') : RTab w' := fun i hi => by
  obtain ⟨h1, h2⟩ := h i hi
  exact ⟨(hb.cell (World.block_lt_of_cell? w _ h1)).trans h1, (hb.cell (World.block_lt_of_cell? w _ h2)).trans h2⟩
theorem fitB_is (t : Ten) (cs : List Cli) (us : List Usr) : fitB t cs us = ((List.range 10).all (numB t) && (cs.all cliB && us.all usrB)) := rfl

set_option maxRecDepth 100000 in
set_option maxHeartbeats 3200000 in
theorem mayBe_any (w : World) (t : Ten) (vC vU : Value) (cs : List Cli) (us : List Usr) (hC : LiesC w vC cs) (hU : LiesU w vU us) (hz : SmallF cs us) (ht : RTab w) :
    Calls Tryz.prog 17 #[.agg #[.int .i64 t.a0, .int .i64 t.a1, .int .i64 t.a2, .int .i64 t.a3, .int .i64 t.a4, .int .i64 t.a5, .int .i64 t.a6, .int .i64 t.a7, .int .i64 t.a8, .int .i64 t.a9, vC, vU]] w fun e w' => e = .returned (.bool (fitB t cs us)) ∧ Below w.heap.size w w' := by
  have HLC := hide hC
  have HLU := hide hU
  have HZ := hide hz
  have HT := hide ht
  obtain ⟨oC, cC, rfl, _⟩ := hC
  obtain ⟨oU, cU, rfl, _⟩ := hU
  have hncs := hz.nc
  have hnus := hz.nu
  have hb := heap_new w (.cells #[.int .i64 t.a0, .int .i64 t.a1, .int .i64 t.a2, .int .i64 t.a3, .int .i64 t.a4, .int .i64 t.a5, .int .i64 t.a6, .int .i64 t.a7, .int .i64 t.a8, .int .i64 t.a9, .slice oC cs.length cC, .slice oU us.length cU] 25)
  have HB : Hid (Below w.heap.size w (w.alloc (.cells #[.int .i64 t.a0, .int .i64 t.a1, .int .i64 t.a2, .int .i64 t.a3, .int .i64 t.a4, .int .i64 t.a5, .int .i64 t.a6, .int .i64 t.a7, .int .i64 t.a8, .int .i64 t.a9, .slice oC cs.length cC, .slice oU us.length cU] 25))) := (Below.refl _ _).alloc (Nat.le_refl _) _
  have HX : Hid (∀ Y, Below (w.alloc (.cells #[.int .i64 t.a0, .int .i64 t.a1, .int .i64 t.a2, .int .i64 t.a3, .int .i64 t.a4, .int .i64 t.a5, .int .i64 t.a6, .int .i64 t.a7, .int .i64 t.a8, .int .i64 t.a9, .slice oC cs.length cC, .slice oU us.length cU] 25)).heap.size (w.alloc (.cells #[.int .i64 t.a0, .int .i64 t.a1, .int .i64 t.a2, .int .i64 t.a3, .int .i64 t.a4, .int .i64 t.a5, .int .i64 t.a6, .int .i64 t.a7, .int .i64 t.a8, .int .i64 t.a9, .slice oC cs.length cC, .slice oU us.length cU] 25)) Y → Y.cell? ⟨w.heap.size, 10, none⟩ = some (.slice oC cs.length cC) ∧ Y.cell? ⟨w.heap.size, 11, none⟩ = some (.slice oU us.length cU)) := fun Y hY => by
    have h9 := (hY.block w.heap.size (Array.getElem?_eq_some_iff.1 hb).1).trans hb
    exact ⟨cell_of h9 10, cell_of h9 11⟩
  have HR0 := hide (range_of (l := [.int .i64 t.a0, .int .i64 t.a1, .int .i64 t.a2, .int .i64 t.a3, .int .i64 t.a4, .int .i64 t.a5, .int .i64 t.a6, .int .i64 t.a7, .int .i64 t.a8, .int .i64 t.a9, .slice oC cs.length cC, .slice oU us.length cU]) hb)
  have HNB := hide (numbers_any (w.alloc (.cells #[.int .i64 t.a0, .int .i64 t.a1, .int .i64 t.a2, .int .i64 t.a3, .int .i64 t.a4, .int .i64 t.a5, .int .i64 t.a6, .int .i64 t.a7, .int .i64 t.a8, .int .i64 t.a9, .slice oC cs.length cC, .slice oU us.length cU] 25)) t (.slice oC cs.length cC) (.slice oU us.length cU))
  have HQ := hide (fitB_is t cs us)
  generalize fitB t cs us = r at *
  clear hb hz ht
  go_enter Tryz.func17, Tryz.ntmps17
  go_wp2_with (refine wpList_load_mid rfl 25 _ rfl w.heap.size 0 rfl _ _ HR0.out Tryz.underlying25 rfl sizeCf ?_)
  generalize w.alloc (.cells #[.int .i64 t.a0, .int .i64 t.a1, .int .i64 t.a2, .int .i64 t.a3, .int .i64 t.a4, .int .i64 t.a5, .int .i64 t.a6, .int .i64 t.a7, .int .i64 t.a8, .int .i64 t.a9, .slice oC cs.length cC, .slice oU us.length cU] 25) = V at *
  refine HNB.out.mono ?_
  rintro x w1 ⟨rfl, hcells, b1⟩
  have HC1 := hide hcells
  have HV1 := hide b1
  have HB1 := hide (keepW HB.out b1)
  clear hcells b1 HNB HR0
  go_wp2_with fail
  generalize V.heap.size + 1 = g at *
  go_loopw [4] (fun i wr => ∃ k : Nat, k ≤ 10 ∧ i = .int .i64 k ∧ Hid ((List.range k).all (numB t) = true) ∧ Hid (Below w1.heap.size w1 wr)) (fun i _ => 10 - (intOf i).toNat)
  case atStart => exact ⟨0, by omega, rfl, rfl, Below.refl _ _⟩
  case round =>
    obtain ⟨k, hk, rfl, HA, HBr⟩ := hrel
    by_cases hlt : k < 10
    · have k1 : (k : Int) < 10 := by omega
      have k0 : (0 : Int) ≤ (k : Int) := Int.natCast_nonneg _
      have c0 := (HBr.out.cell (p := ⟨g, k, none⟩) (World.block_lt_of_cell? w1 _ (HC1.out k hlt))).trans (HC1.out k hlt)
      obtain ⟨c1, c2⟩ := (HT.out.below (keepW HB1.out HBr.out)) k hlt
      have HSU : Hid ((List.range (k + 1)).all (numB t) = ((List.range k).all (numB t) && numB t k)) := by show _ = _; rw [List.range_succ, List.all_append]; simp
      have HRT := hide (rng_take (numB t) k 10 hlt)
      have HNM : Hid (numB t k = decide (loL.getD k 0 ≤ (tenL t).getD k 0 ∧ (tenL t).getD k 0 ≤ hiL.getD k 0)) := rfl
      generalize loL.getD k 0 = lo at *
      generalize hiL.getD k 0 = hi at *
      generalize (tenL t).getD k 0 = va at *
      generalize numB t k = q at *
      by_cases g1 : va < lo
      · have f1 : decide (va < lo) = true := decide_eq_true g1
        have HF : Hid (r = false) := by show _ = _; rw [HQ.out, HRT.out (by rw [HSU.out, HNM.out, decide_eq_false (fun h => by omega), Bool.and_false])]; rfl
        go_wp2_with fail
        go_quiet (fail)
        go_wp2_with fail
        go_ret
        exact ⟨by rw [HF.out] <;> rfl, rc.bdN' (keepW HB1.out HBr.out) nq⟩
      have f1 : decide (va < lo) = false := decide_eq_false g1
      by_cases g2 : hi < va
      · have f2 : decide (hi < va) = true := decide_eq_true g2
        have HF : Hid (r = false) := by show _ = _; rw [HQ.out, HRT.out (by rw [HSU.out, HNM.out, decide_eq_false (fun h => by omega), Bool.and_false])]; rfl
        go_wp2_with fail
        go_quiet (fail)
        go_wp2_with fail
        go_ret
        exact ⟨by rw [HF.out] <;> rfl, rc.bdN' (keepW HB1.out HBr.out) nq⟩
      have f2 : decide (hi < va) = false := decide_eq_false g2
      have HN : Hid ((List.range (k + 1)).all (numB t) = true) := by show _ = _; rw [HSU.out, HA.out, HNM.out, decide_eq_true (by omega)]; rfl
      go_wp2_with fail
      go_quiet (fail)
      go_wp2_with fail
      go_roundw
      case rel => exact ⟨k + 1, by omega, by go_num, HN, rc.bdN' HBr.out nq⟩
      case measure => simp [intOf]; omega
    · have k1 : ¬ (k : Int) < 10 := by omega
      have HQ2 : Hid (r = (cs.all cliB && us.all usrB)) := by
        obtain rfl : k = 10 := by omega
        show _ = _
        rw [HQ.out, HA.out]; rfl
      have HBw := hide (keepW HB1.out HBr.out)
      have HVr := hide (keepW HV1.out HBr.out)
      obtain ⟨d10, d11⟩ := HX.out wr HVr.out
      generalize wr = W1 at *
      clear HQ HA hk hlt HC1
      go_wp2_with fail
      go_loopw [5] (fun i wr => ∃ k : Nat, k ≤ cs.length ∧ i = .int .i64 k ∧ Hid ((cs.take k).all cliB = true) ∧ Hid (Below W1.heap.size W1 wr)) (fun i _ => cs.length - (intOf i).toNat)
      case atStart => exact ⟨0, Nat.zero_le _, rfl, (by show _ = _; simp), Below.refl _ _⟩
      case round =>
        obtain ⟨k, hk, rfl, HA, HBr2⟩ := hrel
        obtain ⟨h10, h11⟩ := HX.out wr (keepW HVr.out HBr2.out)
        by_cases hlt : k < cs.length
        · have k1 : (k : Int) < (cs.length : Int) := by omega
          have k0 : (0 : Int) ≤ (k : Int) := Int.natCast_nonneg _
          obtain ⟨oa, ca, hv, hcc⟩ := HLC.out.below (keepW HBw.out HBr2.out)
          cases hv
          obtain ⟨b, o, vR, vS, rfl, hbl, hca⟩ := hcc k hlt
          have hlr := hca.2.2.2.2.2.2.1
          have hls := hca.2.2.2.2.2.2.2
          obtain ⟨z1, z2, z3, z4, z5⟩ := HZ.out.ci cs[k] (List.getElem_mem hlt)
          have HTK := hide (all_take cliB cs k hlt)
          have HSH := hide (all_short cliB cs (k + 1))
          have HMB := hide (clientMayBe_any cs[k] vR vS wr hlr hls z1 z2 z3 z4 z5)
          have HRG := hide (CAt.range hca)
          generalize cs[k] = x at *
          obtain ⟨oR, cR, rfl, _⟩ := hlr
          obtain ⟨oS, cS, rfl, _⟩ := hls
          obtain ⟨id, pub, salt, dig, tos, sc⟩ := x
          dsimp only [c1] at HMB HRG
          clear hcc hca z1 z2 z3 z4 z5
          cases hp : cliB ⟨id, pub, salt, dig, tos, sc⟩ with
          | true =>
            rw [hp] at HMB
            have HN : Hid ((cs.take (k + 1)).all cliB = true) := by show _ = _; rw [HTK.out, HA.out, hp]; rfl
            clear hp
            go_wp2_with (refine wpList_load_mid rfl 45 _ rfl b (o + k * 6) rfl _ _ HRG.out Tryz.underlying45 rfl sizeCl ?_)
            refine HMB.out.mono ?_
            rintro x w2 ⟨rfl, b2⟩
            have HB2 := hide (keepW HBr2.out b2)
            clear b2
            go_wp2_with fail
            go_roundw
            case rel => exact ⟨k + 1, by omega, by go_num, HN, HB2⟩
            case measure => simp [intOf]; omega
          | false =>
            rw [hp] at HMB
            have HF : Hid (r = false) := by show _ = _; rw [HQ2.out, HSH.out (by rw [HTK.out, hp, Bool.and_false])]; rfl
            clear hp
            go_wp2_with (refine wpList_load_mid rfl 45 _ rfl b (o + k * 6) rfl _ _ HRG.out Tryz.underlying45 rfl sizeCl ?_)
            refine HMB.out.mono ?_
            rintro x w2 ⟨rfl, b2⟩
            have HB2 := hide (keepW (keepW HBw.out HBr2.out) b2)
            clear b2
            go_wp2_with fail
            go_ret
            exact ⟨by rw [HF.out] <;> rfl, HB2.out⟩
        · have k1 : ¬ (k : Int) < (cs.length : Int) := by omega
          have HQ3 : Hid (r = us.all usrB) := by
            obtain rfl : k = cs.length := by omega
            have h := HA.out
            rw [List.take_length] at h
            show _ = _
            rw [HQ2.out, h]; rfl
          have HBx := hide (keepW HBw.out HBr2.out)
          have HVx := hide (keepW HVr.out HBr2.out)
          generalize wr = W2 at *
          clear HQ2 HA hk hlt d10 d11 HBr2 HBw HVr
          go_wp2_with fail
          go_loopw [7] (fun i wr => ∃ k : Nat, k ≤ us.length ∧ i = .int .i64 k ∧ Hid ((us.take k).all usrB = true) ∧ Hid (Below W2.heap.size W2 wr)) (fun i _ => us.length - (intOf i).toNat)
          case atStart => exact ⟨0, Nat.zero_le _, rfl, (by show _ = _; simp), Below.refl _ _⟩
          case round =>
            obtain ⟨k, hk, rfl, HA, HBr3⟩ := hrel
            obtain ⟨i10, i11⟩ := HX.out wr (keepW HVx.out HBr3.out)
            by_cases hlt : k < us.length
            · have k1 : (k : Int) < (us.length : Int) := by omega
              have k0 : (0 : Int) ≤ (k : Int) := Int.natCast_nonneg _
              obtain ⟨oa, ca, hv, hcc⟩ := HLU.out.below (keepW HBx.out HBr3.out)
              cases hv
              obtain ⟨b, o, rfl, hbl, c0, c1, c2⟩ := hcc k hlt
              have HTK := hide (all_take usrB us k hlt)
              have HSH := hide (all_short usrB us (k + 1))
              have HMB := hide (userMayBe_any us[k] wr (by have := HZ.out.ui us[k] (List.getElem_mem hlt); omega))
              generalize us[k] = x at *
              obtain ⟨nm, salt, dig⟩ := x
              dsimp only at c0 c1 c2 HMB
              have HRG : Hid (wr.rangeAt b (o + k * 3) [.string nm, .string salt, .string dig]) := fun j u hu => by
                match j, hu with
                | 0, hu => cases hu; exact c0
                | 1, hu => cases hu; exact c1
                | 2, hu => cases hu; exact c2
              clear hcc c0 c1 c2
              cases hp : usrB ⟨nm, salt, dig⟩ with
              | true =>
                rw [hp] at HMB
                have HN : Hid ((us.take (k + 1)).all usrB = true) := by show _ = _; rw [HTK.out, HA.out, hp]; rfl
                clear hp
                go_wp2_with (refine wpList_load_mid rfl 47 _ rfl b (o + k * 3) rfl _ _ HRG.out Tryz.underlying47 rfl sizeUs ?_)
                refine HMB.out.mono ?_
                rintro x w2 ⟨rfl, b2⟩
                have HB2 := hide (keepW HBr3.out b2)
                clear b2
                go_wp2_with fail
                go_roundw
                case rel => exact ⟨k + 1, by omega, by go_num, HN, HB2⟩
                case measure => simp [intOf]; omega
              | false =>
                rw [hp] at HMB
                have HF : Hid (r = false) := by show _ = _; rw [HQ3.out, HSH.out (by rw [HTK.out, hp, Bool.and_false])]
                clear hp
                go_wp2_with (refine wpList_load_mid rfl 47 _ rfl b (o + k * 3) rfl _ _ HRG.out Tryz.underlying47 rfl sizeUs ?_)
                refine HMB.out.mono ?_
                rintro x w2 ⟨rfl, b2⟩
                have HB2 := hide (keepW (keepW HBx.out HBr3.out) b2)
                clear b2
                go_wp2_with fail
                go_ret
                exact ⟨by rw [HF.out] <;> rfl, HB2.out⟩
            · have k1 : ¬ (k : Int) < (us.length : Int) := by omega
              have HF : Hid (r = true) := by
                obtain rfl : k = us.length := by omega
                have h := HA.out
                rw [List.take_length] at h
                show _ = _
                rw [HQ3.out, h]
              go_wp2_with fail
              go_ret
              exact ⟨by rw [HF.out] <;> rfl, keepW HBx.out HBr3.out⟩
end Go.Proofs.YtilhfmhjgfmejaaGreatDoor.rg
