import Derived.Test.YtkibaedocieceaaDoorDkTwin
namespace Go.Proofs.YtkibaedocieceaaDoor.dk
open Go.ChangeShapes Go.WideShapes Go.ChangeAt Go.RowKit Go.Proofs.YtkibaedocieceaaDoor.common

set_option maxRecDepth 100000 in
set_option maxHeartbeats 6400000 in
theorem lawForgets (w : World) (room keep : Int) (vs vm : Value) (ss ms : List Sp) (hs : LiesP w vs ss) (hS : Steps ss) (hm : LiesP w vm ms) (hM : Steps ms) (e : Nat → Addr) (he : errw.Errs w e) :
    Calls Tryd.prog 4 #[hvv room vs keep vm] w fun r' w' => r' = .returned (.bool true) ∧ Below w.heap.size w w' := by
  have HLI := hide hs
  have HMI := hide hm
  obtain ⟨oa, cap, rfl, _⟩ := hs
  obtain ⟨om, cam, rfl, _⟩ := hm
  obtain ⟨W0, hW0⟩ : ∃ W0, W0 = w.alloc (.cells #[.int .i64 room, .slice oa ss.length cap, .int .i64 keep, .slice om ms.length cam] 43) := ⟨_, rfl⟩
  have hB0 : Below w.heap.size w W0 := by rw [hW0]; exact (Below.refl _ _).alloc (Nat.le_refl _) _
  have hX0 : W0.heap[w.heap.size]? = some (.cells #[.int .i64 room, .slice oa ss.length cap, .int .i64 keep, .slice om ms.length cam] 43) := by rw [hW0]; exact heap_alloc_new _ _
  have hz0 : W0.heap.size = w.heap.size + 1 := by rw [hW0]; simp
  have HB0 := hide hB0
  have HX0 := hide hX0
  have HLP := hide (HLI.out.below hB0)
  have HMP := hide (HMI.out.below hB0)
  have HE0 := hide (er_of (he.below hB0))
  have HSS := hide hS
  have HMM := hide hM
  have HW0 := hide hW0
  have hlen : ss.length ≤ 8796093022207 := by have := hS.len; omega
  have hlem : ms.length ≤ 8796093022207 := by have := hM.len; omega
  have x0 : W0.cell? ⟨w.heap.size, 0, none⟩ = some (.int .i64 room) := cell_of hX0 0
  clear hX0 hB0 hS hM he hW0
  go_enter Tryd.func4, Tryd.ntmps4
  go_wp2_with fail
  rw [← HW0.out]
  refine (new_any W0 room).mono ?_
  rintro r' w1 ho
  obtain ⟨pa, Fa, rfl, hRa, hFa, hb1⟩ := opened_run (base := W0.heap.size) ho (Nat.le_refl _) HE0.out (fine_new [] 0 room (Nat.le_refl _) (by decide)) rfl
  have HRa := hide hRa
  have HB1 := hide hb1
  clear hRa hFa hb1 ho x0
  go_wp2_with fail
  go_loopw [4] (fun i wr => ∃ (k : Nat) (Fa : List Nat) (x : St), k ≤ ss.length ∧ i = .int .i64 k ∧ Hid (Run W0.heap.size wr e pa Fa x k) ∧ Hid (x.a = []) ∧ Hid (x.r = roomOf room) ∧ Hid (Dry x) ∧ Hid (Below W0.heap.size W0 wr)) (fun i _ => ss.length - (intOf i).toNat)
  case atStart => exact ⟨0, Fa, _, Nat.zero_le _, rfl, HRa, rfl, rfl, fun hd => (by cases hd), HB1⟩
  case round =>
    clear HRa HB1
    obtain ⟨k, Ga, x, hk, rfl, HRa, HXA, HXR, HDR, HBW⟩ := hrel
    have hX1 := (HBW.out.block _ (by omega)).trans HX0.out
    have x1 : wr.cell? ⟨w.heap.size, 1, none⟩ = some (.slice oa ss.length cap) := cell_of hX1 1
    by_cases hlt : k < ss.length
    · have HPk := hide (HLP.out.below HBW.out)
      obtain ⟨oa', cap', hv', hst⟩ := HPk.out
      cases hv'
      obtain ⟨bs, os, rfl, hbs, hrs⟩ := hst k hlt
      have HRS := hide hrs
      have hsn := HSS.out.num ss[k] (List.getElem_mem hlt)
      have hst2 := HSS.out.text ss[k] (List.getElem_mem hlt)
      have HSN := hide hsn
      have HST := hide hst2
      have hj : (k + 1) * 16 ≤ 140737488355328 := by have := HSS.out.len; omega
      have sk : wr.cell? ⟨bs, os + k * 5, none⟩ = some (.int .i64 ss[k].k) := by have := hrs 0 _ rfl; rwa [Nat.add_zero] at this
      clear hst hrs hsn hst2 HPk hX1
      generalize ss[k] = s at *
      have k0 : (0 : Int) ≤ (k : Int) := Int.natCast_nonneg _
      have k1 : (k : Int) < (ss.length : Int) := by omega
      by_cases h5 : s.k = 5
      · rw [h5] at sk
        have HRa2 : Hid (Run W0.heap.size wr e pa Ga x (k + 1)) := ⟨HRa.out.disk, HRa.out.low, HRa.out.err, HRa.out.fine, Nat.le_succ_of_le HRa.out.arms⟩
        clear h5 HRa
        go_wp2_with fail
        go_roundw
        case rel => exact ⟨k + 1, Ga, x, by omega, by go_num, HRa2, HXA, HXR, HDR, HBW⟩
        case measure => simp [intOf]; omega
      · have h5b : (s.k == 5) = false := beq_false_of_ne h5
        have HQ := hide (step_quiet x s HXA.out h5)
        have HDY := hide (step_dry x s HDR.out HRa.out.fine.ok.syn)
        go_wp2_with (refine wpList_load_mid rfl 34 (.tmp 32) rfl bs (os + k * 5) rfl _ _ HRS.out Tryd.underlying34 rfl sizeStep ?_)
        refine (HRa.out.act s HST.out hj HSN.out.1 HSN.out.2.1 HSN.out.2.2).mono ?_
        rintro r' X2 ⟨va, Ga2, rfl, hA2, hR2, hf2, hs2⟩
        have HB2 : Hid (Below W0.heap.size W0 X2) := HBW.out.trans (hf2.below HRa.out.low HBW.out.size)
        have HR2 := hide hR2
        have HXA2 := hide HQ.out.1
        have HXR2 := hide (HQ.out.2.trans HXR.out)
        clear hA2 hR2 hf2 hs2 HRa HQ HXA HXR HDR
        generalize (x.step s).1 = y at *
        go_wp2_with fail
        go_roundw
        case rel => exact ⟨k + 1, Ga2, y, by omega, by go_num, HR2, HXA2, HXR2, HDY, HB2⟩
        case measure => simp [intOf]; omega
    · obtain rfl : k = ss.length := by omega
      have x2 : wr.cell? ⟨w.heap.size, 2, none⟩ = some (.int .i64 keep) := cell_of hX1 2
      have HBK := hide (back_again x keep (roomOf room) HXA.out HXR.out HDR.out HRa.out.fine.ok.syn)
      have HDD := hide (crash_dead x keep)
      have HCA := hide (crash_arms x keep)
      clear hX1
      go_wp2_with fail
      refine (crash_any wr pa Ga x keep HRa.out.disk HRa.out.fine).mono ?_
      rintro r' X2 ⟨rfl, m2⟩
      obtain ⟨Ga2, hR2, hf2, _⟩ := HRa.out.mv (j' := 0) m2 (HRa.out.fine.crash keep) (by rw [HCA.out.1, HXA.out]; exact Nat.le_refl _)
      have HB2 : Hid (Below W0.heap.size W0 X2) := HBW.out.trans (hf2.below HRa.out.low HBW.out.size)
      have HR2 := hide hR2
      clear m2 hR2 hf2 HRa HBW x1 x2
      go_wp2_with fail
      refine (dead_any X2 pa Ga2 _ HR2.out.disk).mono ?_
      rintro r' w' ⟨rfl, h'⟩
      obtain rfl := h'.symm
      rw [HDD.out]
      go_wp2_with fail
      refine (revive_any X2 pa Ga2 _ HR2.out.disk).mono ?_
      rintro r' X3 ⟨rfl, m3⟩
      obtain ⟨Ga3, hR3, hf3, _⟩ := HR2.out.mv (j' := 0) m3 HR2.out.fine.revive (by show (x.crash keep).a.length ≤ 0; rw [HCA.out.1, HXA.out]; exact Nat.le_refl _)
      rw [HBK.out] at hR3
      have HB3 : Hid (Below W0.heap.size W0 X3) := HB2.out.trans (hf3.below HR2.out.low HB2.out.size)
      have HR3 := hide hR3
      clear m3 hR3 hf3 HR2 HB2 HBK HDD HCA
      generalize (x.crash keep).b = bb at *
      go_wp2_with fail
      refine (lookS_any X3).mono ?_
      rintro r' X4 ⟨rfl, b4⟩
      have HR4 := hide (HR3.out.keep b4)
      have HB4 := hide (keepD HB3.out b4)
      clear b4 HR3 HB3
      go_wp2_with fail
      refine (HR4.out.look (by decide)).mono ?_
      rintro r' X5 ⟨v5, Ga5, rfl, hA5, hR5, hf5, hs5⟩
      have HB5 : Hid (Below W0.heap.size W0 X5) := HB4.out.trans (hf5.below HR4.out.low HB4.out.size)
      have HRV := hide hA5.rd
      obtain ⟨o5, c5, rfl⟩ := hA5.form
      have HR5 := hide hR5
      have hbb : bb.length ≤ 140737488355328 := hR5.fine.ok.most
      clear hA5 hR5 hf5 hs5 HR4 HB4
      dsimp only at HRV
      obtain ⟨X6, hX6⟩ : ∃ X6, X6 = X5.alloc (.cells #[.slice o5 bb.length c5, .int .i64 (bb.length : Int), .int .i64 0] 31) := ⟨_, rfl⟩
      have B6 : Below X5.heap.size X5 X6 := by rw [hX6]; exact (Below.refl _ _).alloc (Nat.le_refl _) _
      have HG6 : Hid (X6.heap[X5.heap.size]? = some (.cells #[.slice o5 bb.length c5, .int .i64 (bb.length : Int), .int .i64 0] 31)) := by rw [hX6]; exact heap_alloc_new _ _
      have HR6 := hide (HR5.out.keep B6)
      have HB6 := hide (keepD HB5.out B6)
      have HRV6 := hide (HRV.out.below B6)
      have hz6 : X5.heap.size < X6.heap.size := (Array.getElem?_eq_some_iff.1 HG6.out).1
      have HX6 := hide hX6
      clear B6 hX6 HR5 HB5 HRV
      go_wp2_with fail
      rw [← HX6.out]
      have hbz := HB6.out.size
      have g0 : ∀ X, Below X6.heap.size X6 X → X.cell? ⟨X5.heap.size, 0, none⟩ = some (.slice o5 bb.length c5) := fun X hX => cell_of ((hX.block _ hz6).trans HG6.out) 0
      have g1 : ∀ X, Below X6.heap.size X6 X → X.cell? ⟨w.heap.size, 0, none⟩ = some (.int .i64 room) := fun X hX => cell_of ((hX.block _ (by omega)).trans ((HB6.out.block _ (by omega)).trans HX0.out)) 0
      go_region_held3 (fun X => Below X6.heap.size X6 X)
        (first
          | exact Below.refl _ _
          | assumption
          | exact keepD (by assumption) (by assumption)
          | exact Below.drew (by assumption)
          | exact (Below.refl _ _).drew)
        (first
          | (go_at_call 20; refine (copy_any _ _ bb (HRV6.out.below (by assumption)) hbb).mono ?_; rintro x' w8 ⟨v8, rfl, o8, b8⟩)
          | (go_at_call 10; refine (open_any _ _ bb room (rd_own (by assumption)) (by omega)).mono ?_; rintro x' w9 ⟨pb, Fb, rfl, d9, f9, b9⟩))
      have HB9 : Hid (Below X6.heap.size X6 w9) := by assumption
      have HRa9 := hide (HR6.out.keep HB9.out)
      have HBZ := hide (keepD HB6.out HB9.out)
      have h68 : X6.heap.size ≤ w8.heap.size := b8.size
      have HRb9 : Hid (Run W0.heap.size w9 e pb Fb ⟨bb, bb.length, roomOf room, [], false⟩ 0) := ⟨d9, fun q hq => Nat.le_trans (Nat.le_trans hbz h68) (f9 q hq), HE0.out.below HBZ.out, fine_new _ _ room (Nat.le_refl _) hbb, Nat.le_refl _⟩
      have HT9 : Hid (Twin W0.heap.size W0 w9 e pa pb Ga5 Fb ⟨bb, bb.length, roomOf room, [], false⟩ ⟨bb, bb.length, roomOf room, [], false⟩ 0) := ⟨HRa9.out, HRb9.out, fun q hq hm => by
        have h1 := HR6.out.disk.lt q hq
        have h2 := f9 q hm
        omega, HBZ.out⟩
      have hz9 := HB9.out.size
      have g9 := (HB9.out.block _ hz6).trans HG6.out
      have t0 : w9.cell? ⟨X5.heap.size, 0, none⟩ = some (.slice o5 bb.length c5) := cell_of g9 0
      have t1 : w9.cell? ⟨X5.heap.size, 1, none⟩ = some (.int .i64 (bb.length : Int)) := cell_of g9 1
      have HDA := hide (dead_any w9 pa Ga5 _ HRa9.out.disk)
      clear b8 o8 d9 f9 b9 g9 HR6 HB6 HRV6 HG6 g0 g1 HRa9 HRb9 HBZ HB9 HXA HXR HDR
      go_wp2_with fail
      refine HDA.out.mono ?_
      rintro r' w' ⟨rfl, h'⟩
      obtain rfl := h'.symm
      clear HDA
      go_wp2_with fail
      go_loopw [7] (fun i wr => ∃ (k : Nat) (Ha Hb : List Nat) (x : St), k ≤ ms.length ∧ i = .int .i64 k ∧ Hid (Twin W0.heap.size W0 wr e pa pb Ha Hb x x k)) (fun i _ => ms.length - (intOf i).toNat)
      case atStart => exact ⟨0, Ga5, Fb, _, Nat.zero_le _, rfl, HT9⟩
      case round =>
        clear HT9 t0 t1
        obtain ⟨k, Ha, Hb, x, hk, rfl, HT⟩ := hrel
        have hzw := HT.out.low.size
        have hX1 := (HT.out.low.block _ (by omega)).trans HX0.out
        have x3 : wr.cell? ⟨w.heap.size, 3, none⟩ = some (.slice om ms.length cam) := cell_of hX1 3
        clear hX1
        by_cases hlt : k < ms.length
        · have HPk := hide (HMP.out.below HT.out.low)
          obtain ⟨oa', cap', hv', hst⟩ := HPk.out
          cases hv'
          obtain ⟨bs, os, rfl, hbs, hrs⟩ := hst k hlt
          have HRS := hide hrs
          have hsn := HMM.out.num ms[k] (List.getElem_mem hlt)
          have hst2 := HMM.out.text ms[k] (List.getElem_mem hlt)
          have HSN := hide hsn
          have HST := hide hst2
          have hj : (k + 1) * 16 ≤ 140737488355328 := by have := HMM.out.len; omega
          clear hst hrs hsn hst2 HPk
          generalize ms[k] = s at *
          have k0 : (0 : Int) ≤ (k : Int) := Int.natCast_nonneg _
          have k1 : (k : Int) < (ms.length : Int) := by omega
          obtain ⟨X1, hX1⟩ : ∃ X1, X1 = wr.alloc (stc s) := ⟨_, rfl⟩
          have B1 : Below wr.heap.size wr X1 := by rw [hX1]; exact (Below.refl _ _).alloc (Nat.le_refl _) _
          have HS1 : Hid (X1.heap[wr.heap.size]? = some (stc s)) := by rw [hX1]; exact heap_alloc_new _ _
          have hz1 : X1.heap.size = wr.heap.size + 1 := by rw [hX1]; simp
          have HT1 := hide (HT.out.keep B1 hzw)
          have HNS : Hid (wr.heap.size ∉ Ha) := fun hm => by have := HT.out.a.disk.lt _ hm; omega
          have hT1d := HT1.out.keep ((Below.refl X1.heap.size X1).drew) (by omega)
          have HBO := hide (Twin.both hT1d (by show _ ≤ X1.heap.size; omega) s HST.out hj HSN.out.1 HSN.out.2.1 HSN.out.2.2 wr.heap.size HS1.out HNS.out (by show _ < X1.heap.size; omega))
          have HLL := hide (step_list x s HT.out.a.fine)
          have s0 : X1.cell? ⟨wr.heap.size, 0, none⟩ = some (.int .i64 s.k) := cell_of HS1.out 0
          have s1 : X1.cell? ⟨wr.heap.size, 0 + 1, none⟩ = some (.int .i64 s.o) := cell_of HS1.out 1
          have s2 : X1.cell? ⟨wr.heap.size, 0 + 2, none⟩ = some (.int .i64 s.n) := cell_of HS1.out 2
          have s3 : X1.cell? ⟨wr.heap.size, 0 + 3, none⟩ = some (.int .i64 s.m) := cell_of HS1.out 3
          have s4 : X1.cell? ⟨wr.heap.size, 0 + 4, none⟩ = some (.string s.t) := cell_of HS1.out 4
          have HX1 := hide hX1
          clear B1 hX1 hT1d HT1 HT
          obtain ⟨an, han⟩ : ∃ an, x.step s = an := ⟨_, rfl⟩
          rw [han] at HBO HLL
          clear han
          obtain ⟨y, la, na, ea⟩ := an
          dsimp only at HBO HLL
          go_wp2_with (refine wpList_load_mid rfl 34 (.tmp 77) rfl bs (os + k * 5) rfl _ _ HRS.out Tryd.underlying34 rfl sizeStep ?_)
          rw [← HX1.out]
          go_region_with (first
            | (go_at_call 12; refine hnb.mono ?_; rintro r' Y2 ⟨ow, cw, Ha2, Hb2, rfl, hr1, hr2, ht2⟩)
            | (go_at_call 12; refine HBO.out.mono ?_; rintro r' Y1 ⟨ov, cv, rfl, hg1, hnb⟩; have q0 : Y1.cell? ⟨wr.heap.size, 0, none⟩ = some (.int .i64 s.k) := cell_of hg1 0; have q1 : Y1.cell? ⟨wr.heap.size, 0 + 1, none⟩ = some (.int .i64 s.o) := cell_of hg1 1; have q2 : Y1.cell? ⟨wr.heap.size, 0 + 2, none⟩ = some (.int .i64 s.n) := cell_of hg1 2; have q3 : Y1.cell? ⟨wr.heap.size, 0 + 3, none⟩ = some (.int .i64 s.m) := cell_of hg1 3; have q4 : Y1.cell? ⟨wr.heap.size, 0 + 4, none⟩ = some (.string s.t) := cell_of hg1 4)
            | (go_at_call 17; refine (same_eq _ _ _ ⟨la, na, ea⟩ hr1 hr2 HLL.out).mono ?_; rintro r' Y3 ⟨rfl, b3⟩; have ht3 := ht2.keep b3 ht2.low.size)
            | (go_at_call 15; have hdB := hdA; refine (dead_any _ pb _ _ ht3.b.disk).mono ?_; rintro r' w5 ⟨rfl, rfl⟩)
            | (go_at_call 15; refine (dead_any _ pa _ _ ht3.a.disk).mono ?_; rintro r' w4 ⟨rfl, rfl⟩; have hdA := trivial))
          all_goals
            have HTN := hide ht3
            clear hr1 hr2 ht2 ht3 hg1 hnb b3 q0 q1 q2 q3 q4 s0 s1 s2 s3 s4 HBO
            go_wp2_with fail
            go_roundw
            case rel => exact ⟨k + 1, Ha2, Hb2, y, by omega, by go_num, HTN⟩
            case measure => simp [intOf]; omega
        · obtain rfl : k = ms.length := by omega
          have HLB : Hid (x.b.length ≤ 4611686018427387904) := by have := HT.out.a.fine.ok.most; show _ ≤ _; omega
          have hj : (ms.length + 1) * 16 ≤ 140737488355328 := HMM.out.len
          have HRa := hide HT.out.a
          have HRb := hide HT.out.b
          have HAB := hide HT.out.ap
          have HBW := hide HT.out.low
          clear HT
          go_wp2_with fail
          refine (lookS_any wr).mono ?_
          rintro r' X1 ⟨rfl, b1⟩
          clear x3
          have HRa1 := hide (HRa.out.keep b1)
          have HRb1 := hide (HRb.out.keep b1)
          have HB1 := hide (keepD HBW.out b1)
          clear b1 HRa HRb HBW
          go_wp2_with fail
          refine (HRa1.out.look hj).mono ?_
          rintro r' X2 ⟨va, Ga2, rfl, hA2, hR2, hf2, hs2⟩
          have HRb2 := hide (HRb1.out.other hf2 (fun q hq hm => HAB.out q hm hq) HRa1.out.low)
          have HB2 : Hid (Below W0.heap.size W0 X2) := HB1.out.trans (hf2.below HRa1.out.low HB1.out.size)
          have HVF := hide (hA2.away (G := Hb) (fun q hq => Or.inr (Or.inl (HRb1.out.disk.lt q hq))))
          have HRV := hide hA2.rd
          obtain ⟨ova, cva, rfl⟩ := hA2.form
          clear hA2 hR2 hf2 hs2 HRa1 HRb1 HB1 HAB
          go_wp2_with fail
          refine (lookS_any X2).mono ?_
          rintro r' X3 ⟨rfl, b3⟩
          have HRb3 := hide (HRb2.out.keep b3)
          have HB3 := hide (keepD HB2.out b3)
          have HRV3 := hide (HRV.out.below b3)
          have HVF3 : Hid (∀ a n c, Value.slice ova x.b.length cva = .slice (some a) n c → a.block < X3.heap.size) := fun a n c h => Nat.lt_of_lt_of_le (HVF.out.2 a n c h) b3.size
          clear b3 HRb2 HB2 HRV
          go_wp2_with fail
          refine (HRb3.out.look hj).mono ?_
          rintro r' X4 ⟨vb, Gb4, rfl, hA4, hR4, hf4, hs4⟩
          have HB4 : Hid (Below W0.heap.size W0 X4) := HB3.out.trans (hf4.below HRb3.out.low HB3.out.size)
          have HRV4 := hide (HRV3.out.fr hf4 HVF.out.1 HVF3.out)
          have HRVb := hide hA4.rd
          obtain ⟨ovb, cvb, rfl⟩ := hA4.form
          clear hA4 hR4 hf4 hs4 HRb3 HB3 HRV3 HVF HVF3
          go_wp2_with fail
          refine (same_eq X4 _ _ ⟨x.b, x.s, 0⟩ HRV4.out HRVb.out HLB.out).mono ?_
          rintro r' X5' ⟨rfl, b5⟩
          have HB5 := hide (keepD HB4.out b5)
          clear b5 HB4 HRV4 HRVb
          go_wp2
          go_ret
          exact ⟨rfl, HB0.out.trans (HB5.out.mono HB0.out.size)⟩
end Go.Proofs.YtkibaedocieceaaDoor.dk
