import Derived.Test.YtjfpjgialdkhkaaDoorDrQd
import Derived.Deep.RegionHeld3
namespace Go.Proofs.YtjfpjgialdkhkaaDoor.dr
open Go.ChangeShapes Go.WideShapes Go.ChangeAt Go.RowKit Go.Proofs.YtjfpjgialdkhkaaDoor.common Go.Proofs.YtjfpjgialdkhkaaDoor.dk

abbrev scvQ (room : Int) (data : ByteArray) (other : Int) (vs : Value) : Value := .agg #[.int .i64 room, .string data, .int .i64 other, vs]
theorem step_listQ (x : St) (s : Sp) (h : Fine x) : (x.step s).2.l.length ≤ 4611686018427387904 := by
  have h1 := h.ok.most
  unfold St.step
  repeat' split
  · exact Nat.zero_le _
  · exact Nat.zero_le _
  · show x.readL.length ≤ _
    unfold St.readL
    split
    · omega
    · exact Nat.zero_le _
  · exact Nat.zero_le _
  · exact Nat.zero_le _
  · exact Nat.zero_le _
  · exact Nat.zero_le _
  · exact Nat.zero_le _
  · show x.b.length ≤ _; omega
  · exact Nat.zero_le _

theorem sq_new (l : List UInt8) (r : Nat) : sq ⟨l, l.length, r, [], false⟩ = ⟨l, [], r, [], false⟩ := by
  unfold sq
  dsimp only
  rw [List.take_length, List.drop_length]

set_option maxRecDepth 100000 in
set_option maxHeartbeats 12800000 in
theorem lawPlays (w : World) (room : Int) (data : ByteArray) (other : Int) (vs : Value) (ss : List Sp) (hs : LiesP w vs ss) (hS : dk.Steps ss) (hdt : data.size ≤ reachBytes) (e : Nat → Addr) (he : errw.Errs w e) :
    Calls Tryd.prog 4 #[scvQ room data other vs] w fun r' w' => r' = .returned (.bool true) ∧ Below w.heap.size w w' := by
  have HLI := hide hs
  obtain ⟨oa, cap, rfl, _⟩ := hs
  obtain ⟨W0, hW0⟩ : ∃ W0, W0 = w.alloc (.cells #[.int .i64 room, .string data, .int .i64 other, .slice oa ss.length cap] 24) := ⟨_, rfl⟩
  have hB0 : Below w.heap.size w W0 := by rw [hW0]; exact (Below.refl _ _).alloc (Nat.le_refl _) _
  have hX0 : W0.heap[w.heap.size]? = some (.cells #[.int .i64 room, .string data, .int .i64 other, .slice oa ss.length cap] 24) := by rw [hW0]; exact heap_alloc_new _ _
  have hz0 : W0.heap.size = w.heap.size + 1 := by rw [hW0]; simp
  have HB0 := hide hB0
  have HX0 := hide hX0
  have HLP := hide (HLI.out.below hB0)
  have HE0 := hide (er_of (he.below hB0))
  have HSS := hide hS
  have HW0 := hide hW0
  have hlen : ss.length ≤ 8796093022207 := by have := hS.len; omega
  have x0 : W0.cell? ⟨w.heap.size, 0, none⟩ = some (.int .i64 room) := cell_of hX0 0
  obtain ⟨D, hD⟩ : ∃ D, D = data.data.toList := ⟨_, rfl⟩
  have hDl : D.length = data.size := by rw [hD, Array.length_toList]; rfl
  have hdl : D.length ≤ 140737488351232 := by rw [hDl]; exact hdt
  have HDT := hide hdt
  have HD := hide hD
  have HDL := hide hDl
  clear hX0 hB0 hS he hW0 hdt hD hDl
  go_enter Tryd.func4, Tryd.ntmps4
  go_wp2_with fail
  rw [← HW0.out]
  refine (new_any W0 room).mono ?_
  rintro r' w1 ho
  obtain ⟨pa, Fa, rfl, hRa, hFa, hb1⟩ := opened_run (base := W0.heap.size) ho (Nat.le_refl _) HE0.out (fine_new [] 0 room (Nat.le_refl _) (by decide)) rfl
  have HRa := hide hRa
  have HFA := hide hFa
  have HB1 := hide hb1
  have hz1 := hb1.size
  have v1 : ∀ X, Below w1.heap.size w1 X → X.cell? ⟨w.heap.size, 1, none⟩ = some (.string data) := fun X hX => cell_of (((hX.block _ (by omega)).trans (hb1.block _ (by omega))).trans HX0.out) 1
  have v2 : ∀ X, Below w1.heap.size w1 X → X.cell? ⟨w.heap.size, 2, none⟩ = some (.int .i64 other) := fun X hX => cell_of (((hX.block _ (by omega)).trans (hb1.block _ (by omega))).trans HX0.out) 2
  clear hRa hFa hb1 ho x0
  go_wp2_with fail
  go_region_held3 (fun X => Below w1.heap.size w1 X)
    (first
      | exact Below.refl _ _
      | assumption
      | exact keepD (by assumption) (by assumption)
      | exact Below.drew (by assumption)
      | exact (Below.refl _ _).drew)
    (first
      | (go_at_call 7; refine (kitw.bytes_any data _ HDT.out).mono ?_; rintro x' w8 ⟨v8, rfl, o8, n8, b8⟩)
      | (go_at_call 6; refine (open_any _ _ D other (rd_own (by rw [HDL.out, HD.out]; assumption)) (by omega)).mono ?_; rintro x' w9 ⟨pb, Fb, rfl, d9, f9, b9⟩))
  have hB9 : Below w1.heap.size w1 w9 := by assumption
  have hw8 : w1.heap.size ≤ w8.heap.size := b8.size
  have HB9 : Hid (Below W0.heap.size W0 w9) := keepD HB1.out hB9
  have HRa9 := hide (HRa.out.keep hB9)
  have HRb9 : Hid (Run W0.heap.size w9 e pb Fb ⟨D, D.length, roomOf other, [], false⟩ 0) := ⟨d9, fun q hq => Nat.le_trans (Nat.le_trans hz1 hw8) (f9 q hq), HE0.out.below HB9.out, fine_new _ _ other (Nat.le_refl _) (by omega), Nat.le_refl _⟩
  have HAB : Hid (∀ q ∈ Fa, q ∉ Fb) := fun q hq hm => by
    have k1 := HRa.out.disk.lt q hq
    have k2 := f9 q hm
    omega
  obtain ⟨o88, c88, rfl⟩ : ∃ o c, v8 = .slice o data.size c := by
    obtain ⟨o, c, e8, _⟩ := own_slice o8
    exact ⟨o, c, e8⟩
  have x09 : w9.cell? ⟨w.heap.size, 0, none⟩ = some (.int .i64 room) := cell_of ((HB9.out.block _ (by omega)).trans HX0.out) 0
  clear o8 n8 b8 d9 f9 b9 v1 v2 HRa
  go_wp2_with fail
  refine (dnew_any w9 room).mono ?_
  rintro r' w10 ⟨pc, Fc, rfl, hc, hFc, b10⟩
  have HBX : Hid (Below W0.heap.size W0 w10) := keepD HB9.out b10
  have HRa10 := hide (HRa9.out.keep b10)
  have HRb10 := hide (HRb9.out.keep b10)
  have HC10 := hide hc
  have HFC : Hid (∀ q ∈ Fc, w9.heap.size ≤ q) := hFc
  have hz10 := HBX.out.size
  have hz9 : W0.heap.size ≤ w9.heap.size := HB9.out.size
  have HAC : Hid (∀ q ∈ Fa, q ∉ Fc) := fun q hq hm => by
    have k1 := HRa9.out.disk.lt q hq
    have k2 := hFc q hm
    omega
  have HBC : Hid (∀ q ∈ Fb, q ∉ Fc) := fun q hq hm => by
    have k1 := HRb9.out.disk.lt q hq
    have k2 := hFc q hm
    omega
  have v1 : ∀ X, Below w10.heap.size w10 X → X.cell? ⟨w.heap.size, 1, none⟩ = some (.string data) := fun X hX => cell_of (((hX.block _ (by omega)).trans (HBX.out.block _ (by omega))).trans HX0.out) 1
  have v2 : ∀ X, Below w10.heap.size w10 X → X.cell? ⟨w.heap.size, 2, none⟩ = some (.int .i64 other) := fun X hX => cell_of (((hX.block _ (by omega)).trans (HBX.out.block _ (by omega))).trans HX0.out) 2
  clear hc hFc b10 HRa9 HRb9 x09
  go_wp2_with fail
  go_region_held3 (fun X => Below w10.heap.size w10 X)
    (first
      | exact Below.refl _ _
      | assumption
      | exact keepD (by assumption) (by assumption)
      | exact Below.drew (by assumption)
      | exact (Below.refl _ _).drew)
    (first
      | (go_at_call 7; refine (kitw.bytes_any data _ HDT.out).mono ?_; rintro x' w12 ⟨v12, rfl, o12, n12, b12⟩)
      | (go_at_call 16; refine (dopen_any _ _ D other (rd_own (by rw [HDL.out, HD.out]; assumption)) (by omega)).mono ?_; rintro x' w13 ⟨pd, Fd, rfl, d13, f13, b13⟩))
  have hB13 : Below w10.heap.size w10 w13 := by assumption
  have hw12 : w10.heap.size ≤ w12.heap.size := b12.size
  have HQD : Hid (Qd W0.heap.size W0 w13 e pa pb pc pd Fa Fb Fc Fd ⟨[], 0, roomOf room, [], false⟩ ⟨D, D.length, roomOf other, [], false⟩ 0) := by
    have hd : ∀ {G : List Nat}, (∀ q ∈ G, q < w10.heap.size) → ∀ q ∈ G, q ∉ Fd := fun {G} k q hq hm => by
      have k1 := k q hq
      have k2 := f13 q hm
      omega
    refine ⟨HRa10.out.keep hB13, HRb10.out.keep hB13, HC10.out.below hB13, by rw [sq_new]; exact d13, fun q hq => Nat.le_trans hz9 (HFC.out q hq), fun q hq => Nat.le_trans (Nat.le_trans hz10 hw12) (f13 q hq), HAB.out, HAC.out, hd HRa10.out.disk.lt, HBC.out, hd HRb10.out.disk.lt, hd HC10.out.lt, keepD HBX.out hB13⟩
  obtain ⟨o77, c77, rfl⟩ : ∃ o c, v12 = .slice o data.size c := by
    obtain ⟨o, c, e8, _⟩ := own_slice o12
    exact ⟨o, c, e8⟩
  clear o12 n12 b12 d13 f13 b13 hB13 hw12 v1 v2 HRa10 HRb10 HC10 HFC HAB HAC HBC hz9 hz10 HBX HB9 hB9 hw8
  go_wp2_with fail
  go_loopw [7] (fun i wr => ∃ (k : Nat) (Fa Fb Fc Fd : List Nat) (x y : St), k ≤ ss.length ∧ i = .int .i64 k ∧ Hid (Qd W0.heap.size W0 wr e pa pb pc pd Fa Fb Fc Fd x y k)) (fun i _ => ss.length - (intOf i).toNat)
  case atStart => exact ⟨0, Fa, Fb, Fc, Fd, _, _, Nat.zero_le _, rfl, HQD⟩
  case round =>
    clear HQD
    obtain ⟨k, Fa, Fb, Fc, Fd, x, y, hk, rfl, HT⟩ := hrel
    have hzw := HT.out.low.size
    have hX1 := (HT.out.low.block _ (by omega)).trans HX0.out
    have x3 : wr.cell? ⟨w.heap.size, 3, none⟩ = some (.slice oa ss.length cap) := cell_of hX1 3
    clear hX1
    by_cases hlt : k < ss.length
    · have HPk := hide (HLP.out.below HT.out.low)
      obtain ⟨oa', cap', hv', hst⟩ := HPk.out
      cases hv'
      obtain ⟨bs, os, rfl, hbs, hrs⟩ := hst k hlt
      have HRS := hide hrs
      have HSN := hide (HSS.out.num ss[k] (List.getElem_mem hlt))
      have HST := hide (HSS.out.text ss[k] (List.getElem_mem hlt))
      have hj : (k + 1) * 16 ≤ 140737488355328 := by have := HSS.out.len; omega
      clear hst hrs HPk
      generalize ss[k] = s at *
      have k0 : (0 : Int) ≤ (k : Int) := Int.natCast_nonneg _
      have k1 : (k : Int) < (ss.length : Int) := by omega
      obtain ⟨X1, hX1⟩ : ∃ X1, X1 = wr.alloc (stcQ s) := ⟨_, rfl⟩
      have B1 : Below wr.heap.size wr X1 := by rw [hX1]; exact (Below.refl _ _).alloc (Nat.le_refl _) _
      have HS1 : Hid (X1.heap[wr.heap.size]? = some (stcQ s)) := by rw [hX1]; exact heap_alloc_new _ _
      have hz1' : X1.heap.size = wr.heap.size + 1 := by rw [hX1]; simp
      have hT1d := HT.out.keep (B1.drew)
      have HLL := hide (step_listQ x s HT.out.a.fine)
      have HLY := hide (step_listQ y s HT.out.b.fine)
      have s0 : X1.cell? ⟨wr.heap.size, 0, none⟩ = some (.int .i64 s.k) := cell_of HS1.out 0
      have s1 : X1.cell? ⟨wr.heap.size, 0 + 1, none⟩ = some (.int .i64 s.o) := cell_of HS1.out 1
      have s1' : X1.cell? ⟨wr.heap.size, 1, none⟩ = some (.int .i64 s.o) := cell_of HS1.out 1
      have s2 : X1.cell? ⟨wr.heap.size, 0 + 2, none⟩ = some (.int .i64 s.n) := cell_of HS1.out 2
      have s3 : X1.cell? ⟨wr.heap.size, 0 + 3, none⟩ = some (.int .i64 s.m) := cell_of HS1.out 3
      have s4 : X1.cell? ⟨wr.heap.size, 0 + 4, none⟩ = some (.string s.t) := cell_of HS1.out 4
      have HX1 := hide hX1
      by_cases ho : s.o.tmod 2 = 0
      · have HBO := hide (hT1d.both s HST.out hj HSN.out.1 HSN.out.2.1 HSN.out.2.2)
        have HNS : Hid (wr.heap.size ∉ Fa) := fun hm => by have := HT.out.a.disk.lt _ hm; omega
        clear B1 hX1 hT1d HT HLY
        obtain ⟨an, han⟩ : ∃ an, x.step s = an := ⟨_, rfl⟩
        rw [han] at HBO HLL
        clear han
        obtain ⟨y', la, na, ea⟩ := an
        dsimp only at HBO HLL
        go_wp2_with (refine wpList_load_mid rfl 33 (.tmp 46) rfl bs (os + k * 5) rfl _ _ HRS.out Tryd.underlying33 rfl sizeStep ?_)
        rw [← HX1.out]
        go_region_with (first
          | (go_at_call 18; refine (hnb _ (Below.refl _ _)).mono ?_; rintro r' Y2 ⟨ow, cw, Fa2, Fc2, rfl, hr1, hr2, ht2⟩)
          | (go_at_call 8; refine HBO.out.mono ?_; rintro r' Y1 ⟨ov, cv, rfl, hfr1, hnb⟩; have hg1 : Y1.heap[wr.heap.size]? = some (stcQ s) := (hfr1.block _ (by show _ < X1.heap.size; omega) HNS.out).trans HS1.out; have q0 : Y1.cell? ⟨wr.heap.size, 0, none⟩ = some (.int .i64 s.k) := cell_of hg1 0; have q1 : Y1.cell? ⟨wr.heap.size, 0 + 1, none⟩ = some (.int .i64 s.o) := cell_of hg1 1; have q2 : Y1.cell? ⟨wr.heap.size, 0 + 2, none⟩ = some (.int .i64 s.n) := cell_of hg1 2; have q3 : Y1.cell? ⟨wr.heap.size, 0 + 3, none⟩ = some (.int .i64 s.m) := cell_of hg1 3; have q4 : Y1.cell? ⟨wr.heap.size, 0 + 4, none⟩ = some (.string s.t) := cell_of hg1 4)
          | (go_at_call 17; refine (same_eq _ _ _ ⟨la, na, ea⟩ hr1 hr2 HLL.out).mono ?_; rintro r' Y3 ⟨rfl, b3⟩; have ht3 := ht2.keep b3))
        all_goals
          have HTN := hide ht3
          clear hr1 hr2 ht2 ht3 hg1 hfr1 hnb b3 q0 q1 q2 q3 q4 s0 s1 s1' s2 s3 s4 HBO
          go_wp2_with fail
          go_roundw
          case rel => exact ⟨k + 1, Fa2, Fb, Fc2, Fd, y', y, by omega, by go_num, HTN⟩
          case measure => simp [intOf]; omega
      · have HBO := hide (hT1d.swap.both s HST.out hj HSN.out.1 HSN.out.2.1 HSN.out.2.2)
        have HNS : Hid (wr.heap.size ∉ Fb) := fun hm => by have := HT.out.b.disk.lt _ hm; omega
        clear B1 hX1 hT1d HT HLL
        obtain ⟨an, han⟩ : ∃ an, y.step s = an := ⟨_, rfl⟩
        rw [han] at HBO HLY
        clear han
        obtain ⟨y', la, na, ea⟩ := an
        dsimp only at HBO HLY
        go_wp2_with (refine wpList_load_mid rfl 33 (.tmp 46) rfl bs (os + k * 5) rfl _ _ HRS.out Tryd.underlying33 rfl sizeStep ?_)
        rw [← HX1.out]
        go_region_with (first
          | (go_at_call 18; refine (hnb _ (Below.refl _ _)).mono ?_; rintro r' Y2 ⟨ow, cw, Fa2, Fc2, rfl, hr1, hr2, ht2⟩)
          | (go_at_call 8; refine HBO.out.mono ?_; rintro r' Y1 ⟨ov, cv, rfl, hfr1, hnb⟩; have hg1 : Y1.heap[wr.heap.size]? = some (stcQ s) := (hfr1.block _ (by show _ < X1.heap.size; omega) HNS.out).trans HS1.out; have q0 : Y1.cell? ⟨wr.heap.size, 0, none⟩ = some (.int .i64 s.k) := cell_of hg1 0; have q1 : Y1.cell? ⟨wr.heap.size, 0 + 1, none⟩ = some (.int .i64 s.o) := cell_of hg1 1; have q2 : Y1.cell? ⟨wr.heap.size, 0 + 2, none⟩ = some (.int .i64 s.n) := cell_of hg1 2; have q3 : Y1.cell? ⟨wr.heap.size, 0 + 3, none⟩ = some (.int .i64 s.m) := cell_of hg1 3; have q4 : Y1.cell? ⟨wr.heap.size, 0 + 4, none⟩ = some (.string s.t) := cell_of hg1 4)
          | (go_at_call 17; refine (same_eq _ _ _ ⟨la, na, ea⟩ hr1 hr2 HLY.out).mono ?_; rintro r' Y3 ⟨rfl, b3⟩; have ht3 := ht2.keep b3))
        all_goals
          have HTN := hide ht3
          clear hr1 hr2 ht2 ht3 hg1 hfr1 hnb b3 q0 q1 q2 q3 q4 s0 s1 s1' s2 s3 s4 HBO
          go_wp2_with fail
          go_roundw
          case rel => exact ⟨k + 1, Fa, Fa2, Fc, Fc2, x, y', by omega, by go_num, HTN.out.swap⟩
          case measure => simp [intOf]; omega
    · obtain rfl : k = ss.length := by omega
      have hj : (ss.length + 1) * 16 ≤ 140737488355328 := HSS.out.len
      have k1 : ¬ ((ss.length : Nat) : Int) < ((ss.length : Nat) : Int) := by omega
      have HXA : Hid (x.a.length ≤ ss.length) := HT.out.a.arms
      have HYA : Hid (y.a.length ≤ ss.length) := HT.out.b.arms
      have HXL : Hid (x.b.length ≤ 4611686018427387904) := by have := HT.out.a.fine.ok.most; show _ ≤ _; omega
      have HYL : Hid (y.b.length ≤ 4611686018427387904) := by have := HT.out.b.fine.ok.most; show _ ≤ _; omega
      go_wp2_with fail
      refine (lookS_any wr).mono ?_
      rintro r' u1 ⟨rfl, b1⟩
      have HT1 := hide (HT.out.keep b1)
      have HBO := hide (HT1.out.both lk (by decide) hj (by decide) (by decide) (by decide))
      rw [look_step] at HBO
      dsimp only at HBO
      clear b1 HT
      go_wp2_with fail
      refine HBO.out.mono ?_
      rintro r' u2 ⟨ov, cv, rfl, _, hnb⟩
      have HNB := hide hnb
      clear hnb HBO HT1
      go_wp2_with fail
      refine (lookS_any u2).mono ?_
      rintro r' u3 ⟨rfl, b3⟩
      have HTO := hide (HNB.out u3 b3)
      clear b3 HNB
      go_wp2_with fail
      refine HTO.out.mono ?_
      rintro r' u4 ⟨ow, cw, Fa2, Fc2, rfl, hr1, hr2, ht2⟩
      have HQ4 := hide (ht2.down (j := ss.length) HXA.out HYA.out)
      have HSM := hide (same_eq u4 _ _ ⟨x.b, x.s, 0⟩ hr1 hr2 HXL.out)
      clear hr1 hr2 ht2 HTO
      go_wp2_with fail
      refine HSM.out.mono ?_
      rintro r' u5 ⟨rfl, b5⟩
      have HQ5 := hide (HQ4.out.keep b5).swap
      clear b5 HSM HQ4
      go_wp2_with fail
      refine (lookS_any u5).mono ?_
      rintro r' u6 ⟨rfl, b6⟩
      have HT6 := hide (HQ5.out.keep b6)
      have HBO := hide (HT6.out.both lk (by decide) hj (by decide) (by decide) (by decide))
      rw [look_step] at HBO
      dsimp only at HBO
      clear b6 HQ5
      go_wp2_with fail
      refine HBO.out.mono ?_
      rintro r' u7 ⟨ov2, cv2, rfl, _, hnb⟩
      have HNB := hide hnb
      clear hnb HBO HT6
      go_wp2_with fail
      refine (lookS_any u7).mono ?_
      rintro r' u8 ⟨rfl, b8⟩
      have HTO := hide (HNB.out u8 b8)
      clear b8 HNB
      go_wp2_with fail
      refine HTO.out.mono ?_
      rintro r' u9 ⟨ow2, cw2, Fa3, Fc3, rfl, hr1, hr2, ht2⟩
      have HSM := hide (same_eq u9 _ _ ⟨y.b, y.s, 0⟩ hr1 hr2 HYL.out)
      have HLO := hide ht2.low
      clear hr1 hr2 ht2 HTO
      go_wp2_with fail
      refine HSM.out.mono ?_
      rintro r' u10 ⟨rfl, b10⟩
      have HFIN : Hid (Below w.heap.size w u10) := HB0.out.trans ((HLO.out.trans (b10.mono HLO.out.size)).mono HB0.out.size)
      clear b10 HSM
      go_wp2_with fail
      go_ret
      exact ⟨rfl, HFIN.out⟩
end Go.Proofs.YtjfpjgialdkhkaaDoor.dr
