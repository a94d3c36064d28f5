import Derived.Test.YtkibaedocieceaaDoorDkArmC
namespace Go.Proofs.YtkibaedocieceaaDoor.dk
open Go.ChangeShapes Go.WideShapes Go.ChangeAt Go.RowKit Go.Proofs.YtkibaedocieceaaDoor.common

abbrev amv (room : Int) (vs : Value) (after keep : Int) : Value := .agg #[.int .i64 room, vs, .int .i64 after, .int .i64 keep]
theorem Run.lower {base : Nat} {w : World} {e : Nat → Addr} {p : Nat} {F : List Nat} {x : St} {j : Nat} (h : Run base w e p F x j) (j' : Nat) (ha : x.a.length ≤ j') : Run base w e p F x j' := ⟨h.disk, h.low, h.err, h.fine, ha⟩
/-- how the two disks stand to one another -/
structure Rel2 (u : Bool) (lf keep : Int) (r : Nat) (x y : St) : Prop where
  no : u = false → x = y.with [(lf.toNat, keep)]
  yes : u = true → x = y
  arms : y.a = []
  room : y.r = r
theorem Rel2.len {u : Bool} {lf keep : Int} {r : Nat} {x y : St} (h : Rel2 u lf keep r x y) : x.a.length ≤ 1 ∧ y.a.length ≤ 1 := by
  refine ⟨?_, by rw [h.arms]; exact Nat.zero_le _⟩
  cases u with
  | false => rw [h.no rfl]; exact Nat.le_refl _
  | true => rw [h.yes rfl, h.arms]; exact Nat.zero_le _
theorem Rel2.like {u : Bool} {lf keep : Int} {r : Nat} {x y : St} (h : Rel2 u lf keep r x y) : x.b = y.b ∧ x.s = y.s ∧ x.d = y.d := by
  cases u with
  | false => rw [h.no rfl]; exact ⟨rfl, rfl, rfl⟩
  | true => rw [h.yes rfl]; exact ⟨rfl, rfl, rfl⟩
theorem oper_room {x : St} {dying on : St → St} {err : Nat} (h1 : ∀ y, (dying y).r = y.r) (h2 : ∀ y, (on y).r = y.r) : (x.oper dying on err).1.r = x.r := by
  unfold St.oper
  split
  · rfl
  · split
    · rw [h2]
    · show (dying _).r = _; rw [h1]
    · rw [h2]
theorem step_room (x : St) (s : Sp) : (x.step s).1.r = x.r := by
  unfold St.step
  repeat' split
  · exact oper_room (fun y => put_room y _) (fun y => put_room y _)
  · exact oper_room (dying := id) (on := St.sync) (err := 0) (fun y => rfl) (fun y => rfl)
  · exact oper_room (dying := id) (on := id) (err := 0) (fun y => rfl) (fun y => rfl)
  · show (x.trunc s.n).1.r = x.r
    unfold St.trunc
    split
    · rfl
    · exact oper_room (dying := id) (on := fun y => y.cut s.n.toNat) (err := 0) (fun y => rfl) (fun y => rfl)
  · rfl
  · exact (crash_arms x s.n).2
  · rfl
  · rfl
  · rfl
  · rfl
/-- a step that both take alike -/
theorem Rel2.same {u : Bool} {lf keep : Int} {r : Nat} {x y : St} (h : Rel2 u lf keep r x y) (s : Sp) (h5 : s.k ≠ 5) (hc : u = false → cnt y s = false) : (x.step s).2 = (y.step s).2 ∧ Rel2 u lf keep r (x.step s).1 (y.step s).1 := by
  cases u with
  | true =>
    rw [h.yes rfl]
    exact ⟨rfl, ⟨fun e => (by cases e), fun _ => rfl, (step_quiet y s h.arms h5).1, (step_room y s).trans h.room⟩⟩
  | false =>
    rw [h.no rfl]
    obtain ⟨e1, e2⟩ := step_not y s [(lf.toNat, keep)] (hc rfl) h5
    rw [e1]
    exact ⟨rfl, ⟨fun _ => rfl, fun e => (by cases e), e2.trans h.arms, (step_room y s).trans h.room⟩⟩
theorem Rel2.goes {lf keep : Int} {r : Nat} {x y : St} (h : Rel2 false lf keep r x y) (s : Sp) (hc : cnt y s = true) (hl : 0 < lf) : (x.step s).2 = (y.step s).2 ∧ Rel2 false (lf - 1) keep r (x.step s).1 (y.step s).1 := by
  obtain ⟨n, hn⟩ : ∃ n, lf.toNat = n + 1 := ⟨lf.toNat - 1, by omega⟩
  rw [h.no rfl, hn]
  obtain ⟨e1, e2⟩ := step_goes y s n keep h.arms hc
  rw [e1]
  have e3 : (lf - 1).toNat = n := by omega
  exact ⟨rfl, ⟨fun _ => by rw [e3], fun e => (by cases e), e2, (step_room y s).trans h.room⟩⟩
theorem cutAs_arms (y : St) (s : Sp) (keep : Int) : (y.cutAs s keep).a = y.a ∧ (y.cutAs s keep).r = y.r := by
  unfold St.cutAs
  split
  · exact ⟨put_arms y _, put_room y _⟩
  · exact ⟨rfl, rfl⟩
theorem Rel2.dies {lf keep : Int} {r : Nat} {x y : St} (h : Rel2 false lf keep r x y) (s : Sp) (hc : cnt y s = true) (hl : lf ≤ 0) (lf' : Int) : x.step s = (y.cutAs s keep, ⟨[], 0, 10⟩) ∧ Rel2 true lf' keep r (y.cutAs s keep) (y.cutAs s keep) := by
  have hn : lf.toNat = 0 := by omega
  rw [h.no rfl, hn]
  exact ⟨step_dies y s keep h.arms hc, ⟨fun e => (by cases e), fun _ => rfl, (cutAs_arms y s keep).1.trans h.arms, (cutAs_arms y s keep).2.trans h.room⟩⟩
theorem cnt_alive {y : St} {s : Sp} (h : cnt y s = true) : y.d = false := by
  unfold cnt at h
  cases hd : y.d with
  | true => rw [hd] at h; cases h
  | false => rfl

set_option maxRecDepth 100000 in
set_option maxHeartbeats 12800000 in
theorem lawArmed (w : World) (room after keep : Int) (vs : Value) (ss : List Sp) (hs : LiesP w vs ss) (hS : Steps ss) (e : Nat → Addr) (he : errw.Errs w e) (ha1 : after ≤ 9223372036854775807) (hk1 : -9223372036854775808 ≤ keep ∧ keep ≤ 9223372036854775807) :
    Calls Tryd.prog 5 #[amv room vs after keep] w fun r' w' => r' = .returned (.bool true) ∧ Below w.heap.size w w' := by
  have HLI := hide hs
  obtain ⟨oa, cap, rfl, _⟩ := hs
  obtain ⟨W0, hW0⟩ : ∃ W0, W0 = w.alloc (.cells #[.int .i64 room, .slice oa ss.length cap, .int .i64 after, .int .i64 keep] 48) := ⟨_, rfl⟩
  have hB0 : Below w.heap.size w W0 := by rw [hW0]; exact (Below.refl _ _).alloc (Nat.le_refl _) _
  have hX0 : W0.heap[w.heap.size]? = some (.cells #[.int .i64 room, .slice oa ss.length cap, .int .i64 after, .int .i64 keep] 48) := by rw [hW0]; exact heap_alloc_new _ _
  have hz0 : W0.heap.size = w.heap.size + 1 := by rw [hW0]; simp
  have HB0 := hide hB0
  have HX0 := hide hX0
  have HLP := hide (HLI.out.below hB0)
  have HE0 := hide (er_of (he.below hB0))
  have HSS := hide hS
  have HW0 := hide hW0
  have hlen : ss.length ≤ 8796093022207 := by have := hS.len; omega
  have x0 : W0.cell? ⟨w.heap.size, 0, none⟩ = some (.int .i64 room) := cell_of hX0 0
  clear hX0 hB0 hS he hW0
  go_enter Tryd.func5, Tryd.ntmps5
  go_wp2_with fail
  rw [← HW0.out]
  refine (new_any W0 room).mono ?_
  rintro r' w1 ho
  obtain ⟨pa, Fa, rfl, hRa, hFa, hb1⟩ := opened_run (base := W0.heap.size) ho (Nat.le_refl _) HE0.out (fine_new [] 0 room (Nat.le_refl _) (by decide)) rfl
  have x1 : w1.cell? ⟨w.heap.size, 0, none⟩ = some (.int .i64 room) := cell_of ((hb1.block _ (by omega)).trans HX0.out) 0
  have HRa := hide hRa
  have HB1 := hide hb1
  clear hRa hFa hb1 ho x0
  go_wp2_with fail
  refine (new_any w1 room).mono ?_
  rintro r' w2 ho
  obtain ⟨pb, Fb, rfl, hRb, hFb, hb2⟩ := opened_run (base := W0.heap.size) ho HB1.out.size (HE0.out.below HB1.out) (fine_new [] 0 room (Nat.le_refl _) (by decide)) rfl
  have HRa2 := hide (HRa.out.keep hb2)
  have HRb := hide hRb
  have HAP : Hid (∀ k ∈ Fa, k ∉ Fb) := fun k hk hk2 => by
    have h1 := HRa.out.disk.lt k hk
    have h2 := hFb k hk2
    omega
  have HB2 := hide (keepD HB1.out hb2)
  have hz2 := HB2.out.size
  have hX2 := (HB2.out.block _ (by omega)).trans HX0.out
  have y2 : w2.cell? ⟨w.heap.size, 2, none⟩ = some (.int .i64 after) := cell_of hX2 2
  have y3 : w2.cell? ⟨w.heap.size, 3, none⟩ = some (.int .i64 keep) := cell_of hX2 3
  clear hRb hFb hb2 ho HRa HB1 x1 hX2
  go_wp2_with fail
  refine (arm_any w2 pa Fa _ after keep HRa2.out.disk (by show (0 + 1) * 16 ≤ _; decide)).mono ?_
  rintro r' w3 ⟨rfl, m3⟩
  obtain ⟨Fa3, hR3, hf3, hs3⟩ := HRa2.out.mv (j' := 1) m3 ⟨HRa2.out.fine.ok.arms _ _, fun a ha => by
    rw [show a = (after.toNat, keep) from List.mem_singleton.1 ha]; show after.toNat ≤ _; omega, fun a ha => by
    rw [show a = (after.toNat, keep) from List.mem_singleton.1 ha]; exact hk1⟩ (Nat.le_refl _)
  have HB3 : Hid (Below W0.heap.size W0 w3) := HB2.out.trans (hf3.below HRa2.out.low HB2.out.size)
  have HT3 : Hid (Twin W0.heap.size W0 w3 e pa pb Fa3 Fb (St.arm ⟨[], 0, roomOf room, [], false⟩ after keep) ⟨[], 0, roomOf room, [], false⟩ 1) := ⟨hR3, (HRb.out.other hf3 (fun q hq hm => HAP.out q hm hq) HRa2.out.low).up, fun q hq hm => by
    rcases hs3 q hq with h | h
    · exact HAP.out q h hm
    · have := HRb.out.disk.lt q hm; omega, HB3.out⟩
  have HRL3 : Hid (Rel2 false after keep (roomOf room) (St.arm ⟨[], 0, roomOf room, [], false⟩ after keep) ⟨[], 0, roomOf room, [], false⟩) := ⟨fun _ => rfl, fun e => (by cases e), rfl, rfl⟩
  have hz3 := HB3.out.size
  have hX3 := (HB3.out.block _ (by omega)).trans HX0.out
  have z2 : w3.cell? ⟨w.heap.size, 2, none⟩ = some (.int .i64 after) := cell_of hX3 2
  clear m3 hR3 hf3 hs3 HRa2 HRb HAP HB2 HB3 y2 y3 hX3 hz3 hz2
  go_wp2_with fail
  go_loopw [5, 6, 7] (fun l u i wr => ∃ (k : Nat) (Ha Hb : List Nat) (x y : St) (ub : Bool) (lf : Int), k ≤ ss.length ∧ i = .int .i64 k ∧ u = .bool ub ∧ l = .int .i64 lf ∧ Hid (ub = false → lf ≤ 9223372036854775807) ∧ Hid (Rel2 ub lf keep (roomOf room) x y) ∧ Hid (Twin W0.heap.size W0 wr e pa pb Ha Hb x y 1)) (fun _ _ i _ => ss.length - (intOf i).toNat)
  case atStart => exact ⟨0, Fa3, Fb, _, _, false, after, Nat.zero_le _, rfl, rfl, rfl, fun _ => ha1, HRL3, HT3⟩
  case round =>
    clear HT3 z2 HRL3
    obtain ⟨k, Ha, Hb, x, y, ub, lf, hk, rfl, rfl, rfl, HLF, HRL, HT⟩ := hrel
    have hzw := HT.out.low.size
    have hX1 := (HT.out.low.block _ (by omega)).trans HX0.out
    have x1 : wr.cell? ⟨w.heap.size, 1, none⟩ = some (.slice oa ss.length cap) := cell_of hX1 1
    clear hX1
    by_cases hlt : k < ss.length
    · have HPk := hide (HLP.out.below HT.out.low)
      obtain ⟨oa', cap', hv', hst⟩ := HPk.out
      cases hv'
      obtain ⟨bs, os, rfl, hbs, hrs⟩ := hst k hlt
      have HRS := hide hrs
      have HSN := hide (HSS.out.num ss[k] (List.getElem_mem hlt))
      have HST := hide (HSS.out.text ss[k] (List.getElem_mem hlt))
      clear hst hrs HPk
      generalize ss[k] = s at *
      have k0 : (0 : Int) ≤ (k : Int) := Int.natCast_nonneg _
      have k1 : (k : Int) < (ss.length : Int) := by omega
      obtain ⟨X1, hX1⟩ : ∃ X1, X1 = wr.alloc (stc s) := ⟨_, rfl⟩
      have B1 : Below wr.heap.size wr X1 := by rw [hX1]; exact (Below.refl _ _).alloc (Nat.le_refl _) _
      have HS1 : Hid (X1.heap[wr.heap.size]? = some (stc s)) := by rw [hX1]; exact heap_alloc_new _ _
      have hz1 : X1.heap.size = wr.heap.size + 1 := by rw [hX1]; simp
      have HT1 := hide (HT.out.keep B1 hzw)
      have HNS : Hid (wr.heap.size ∉ Ha ∧ wr.heap.size ∉ Hb) := ⟨fun hm => by have := HT.out.a.disk.lt _ hm; omega, fun hm => by have := HT.out.b.disk.lt _ hm; omega⟩
      have HFX := hide HT.out.a.fine
      have HX1 := hide hX1
      clear B1 hX1 HT
      by_cases h5 : s.k = 5
      · have e5 : (s.k == 5) = true := by rw [h5]; rfl
        clear h5
        go_wp2_with (refine wpList_load_mid rfl 34 (.tmp 41) rfl bs (os + k * 5) rfl _ _ HRS.out Tryd.underlying34 rfl sizeStep ?_)
        rw [← HX1.out]
        go_roundw
        case rel => exact ⟨k + 1, Ha, Hb, x, y, ub, lf, by omega, by go_num, rfl, rfl, HLF, HRL, HT1⟩
        case measure => simp [intOf]; omega
      have e5 : (s.k == 5) = false := beq_false_of_ne h5
      cases ub with
      | true =>
        have HRQ := hide (HRL.out.same s h5 (fun e => (by cases e)))
        have hzz : X1.heap.size ≤ X1.heap.size := Nat.le_refl _
        have HT2 := HT1
        have HS2 := HS1
        have HNS2 := HNS
        clear HT1 HS1 HNS
        go_wp2_with (refine wpList_load_mid rfl 34 (.tmp 41) rfl bs (os + k * 5) rfl _ _ HRS.out Tryd.underlying34 rfl sizeStep ?_)
        rw [← HX1.out]
        refine (HT2.out.actA (by have := HT2.out.low.size; omega) s HST.out (by decide) HSN.out.1 HSN.out.2.1 HSN.out.2.2).mono ?_
        rintro r' Y ⟨ova, cva, Ha3, rfl, hA3, hRa3, hRb3, hap3, hlow3, hf3, hlt3⟩
        have HS3 := hide ((hf3.block _ (by omega) HNS2.out.1).trans HS2.out)
        have HVF := hide (hA3.away (G := Hb) (fun q hq => Or.inr (Or.inl (hlt3 q hq))))
        have HRV := hide hA3.rd
        have hzy := hf3.size
        have HNB : Hid (Y.heap.size ∉ Hb) := fun hm => by have := hRb3.disk.lt _ hm; omega
        have HRa3 := hide hRa3
        have HRb3 := hide hRb3
        have HAP3 := hide hap3
        have HLO3 := hide hlow3
        clear hA3 hRa3 hRb3 hap3 hlow3 hf3 hlt3 HT2 HS2
        obtain ⟨an, han⟩ : ∃ an, x.step s = an := ⟨_, rfl⟩
        have HLL0 := hide (step_list x s HFX.out)
        obtain ⟨hq1, hq2⟩ := HRQ.out
        have hyq : (y.step s).2 = an.2 := by rw [← han]; exact hq1.symm
        rw [han] at HLL0 HRV HVF HRa3 hq2
        rw [han]
        clear han hq1
        obtain ⟨x', la, na, ea⟩ := an
        dsimp only at HLL0 HRV HVF HRa3 hyq hq2 ⊢
        have HLL : Hid (la.length ≤ 4611686018427387904) := HLL0.out
        have HYQ := hide hyq
        have HRQ2 := hide hq2
        clear hyq HLL0 hq2 HRQ
        obtain ⟨X3, hX3⟩ : ∃ X3, X3 = Y.alloc (.cells #[.slice ova la.length cva, .int .i64 na, .int .i64 (ea : Int)] 31) := ⟨_, rfl⟩
        have B3 : Below Y.heap.size Y X3 := by rw [hX3]; exact (Below.refl _ _).alloc (Nat.le_refl _) _
        have HG3 : Hid (X3.heap[Y.heap.size]? = some (.cells #[.slice ova la.length cva, .int .i64 na, .int .i64 (ea : Int)] 31)) := by rw [hX3]; exact heap_alloc_new _ _
        have HX3 := hide hX3
        have hz3 : Y.heap.size < X3.heap.size := (Array.getElem?_eq_some_iff.1 HG3.out).1
        have hs3c := (B3.block _ (by omega)).trans HS3.out
        have HACT : Hid (Calls Tryd.prog 12 #[ptr pb, spv s] X3.drew fun r' w' => ∃ ovb cvb Gb5, r' = .returned (sdv (.slice ovb la.length cvb) na ea) ∧ Rd w' (.slice ovb la.length cvb) la ∧ Rd w' (.slice ova la.length cva) la ∧ Twin W0.heap.size W0 w' e pa pb Ha3 Gb5 x' (y.step s).1 2 ∧ w'.heap[Y.heap.size]? = some (.cells #[.slice ova la.length cva, .int .i64 na, .int .i64 (ea : Int)] 31)) := by
          have b3d : Below Y.heap.size Y X3.drew := B3.drew
          have hact := Twin.actB (HRa3.out.keep b3d) (HRb3.out.keep b3d) HAP3.out (keepD HLO3.out b3d) (Nat.le_trans HLO3.out.size b3d.size) s HST.out (by decide) HSN.out.1 HSN.out.2.1 HSN.out.2.2
          rw [HYQ.out] at hact
          refine hact.mono ?_
          rintro r' w' ⟨ovb, cvb, Gb5, rfl, hA5, hT5, hf5⟩
          exact ⟨ovb, cvb, Gb5, rfl, hA5.rd, (HRV.out.below b3d).fr hf5 HVF.out.1 (fun a n c h => Nat.lt_of_lt_of_le (HVF.out.2 a n c h) b3d.size), hT5, (hf5.block _ (Nat.lt_of_lt_of_le hz3 (Nat.le_refl _)) HNB.out).trans HG3.out⟩
        have g0 : X3.cell? ⟨Y.heap.size, 0, none⟩ = some (.slice ova la.length cva) := cell_of HG3.out 0
        have g1 : X3.cell? ⟨Y.heap.size, 0 + 1, none⟩ = some (.int .i64 na) := cell_of HG3.out 1
        have g2 : X3.cell? ⟨Y.heap.size, 0 + 2, none⟩ = some (.int .i64 (ea : Int)) := cell_of HG3.out 2
        have p0 : X3.cell? ⟨wr.heap.size, 0, none⟩ = some (.int .i64 s.k) := cell_of hs3c 0
        have p1 : X3.cell? ⟨wr.heap.size, 0 + 1, none⟩ = some (.int .i64 s.o) := cell_of hs3c 1
        have p2 : X3.cell? ⟨wr.heap.size, 0 + 2, none⟩ = some (.int .i64 s.n) := cell_of hs3c 2
        have p3 : X3.cell? ⟨wr.heap.size, 0 + 3, none⟩ = some (.int .i64 s.m) := cell_of hs3c 3
        have p4 : X3.cell? ⟨wr.heap.size, 0 + 4, none⟩ = some (.string s.t) := cell_of hs3c 4
        have hll : la.length ≤ 4611686018427387904 := HLL.out
        clear B3 hX3 hs3c HRa3 HRb3 HAP3 HLO3 HRV HVF
        go_wp2_with fail
        rw [← HX3.out]
        go_region_with (first
          | (go_at_call 12; refine HACT.out.mono ?_; rintro r' X5 ⟨ovb, cvb, Gb5, rfl, h51, h52, h53, h57⟩; have t0 : X5.cell? ⟨Y.heap.size, 0, none⟩ = some (.slice ova la.length cva) := cell_of h57 0; have t1 : X5.cell? ⟨Y.heap.size, 0 + 1, none⟩ = some (.int .i64 na) := cell_of h57 1; have t2 : X5.cell? ⟨Y.heap.size, 0 + 2, none⟩ = some (.int .i64 (ea : Int)) := cell_of h57 2)
          | (go_at_call 17; refine (same_eq _ _ _ ⟨la, na, ea⟩ h52 h51 hll).mono ?_; rintro r' X6 ⟨rfl, b6⟩))
        all_goals
          have HTZ := hide (h53.keep b6 h53.low.size)
          have HRZ := HRQ2
          clear h51 h52 h53 h57 b6 t0 t1 t2 g0 g1 g2 p0 p1 p2 p3 p4 HACT
          generalize (y.step s).1 = y' at *
          have hlk := HRZ.out.like
          have hln := HRZ.out.len
          have HLB : Hid (y'.b.length ≤ 4611686018427387904) := by have := HTZ.out.b.fine.ok.most; show _ ≤ _; omega
          have HRa := hide (HTZ.out.a.lower 1 hln.1)
          have HRb := hide (HTZ.out.b.lower 1 hln.2)
          have HAB := hide HTZ.out.ap
          have HBW := hide HTZ.out.low
          have HLK := hide hlk
          clear hlk hln HTZ
          go_wp2_with fail
          refine (dead_any _ pa _ x' HRa.out.disk).mono ?_
          rintro r' w' ⟨rfl, h'⟩
          obtain rfl := h'.symm
          rw [HLK.out.2.2]
          go_wp2_with fail
          refine (dead_any _ pb _ y' HRb.out.disk).mono ?_
          rintro r' w' ⟨rfl, h'⟩
          obtain rfl := h'.symm
          go_wp2_with fail
          refine (lookS_any _).mono ?_
          rintro r' Z1 ⟨rfl, b1⟩
          have HRa1 := hide (HRa.out.keep b1)
          have HRb1 := hide (HRb.out.keep b1)
          have HB1 := hide (keepD HBW.out b1)
          clear b1 HRa HRb HBW
          go_wp2_with fail
          refine (HRa1.out.look (by decide)).mono ?_
          rintro r' Z2 ⟨va, Ja, rfl, hA2, hR2, hf2, hs2⟩
          have HRb2 := hide (HRb1.out.other hf2 (fun q hq hm => HAB.out q hm hq) HRa1.out.low)
          have HB2 : Hid (Below W0.heap.size W0 Z2) := HB1.out.trans (hf2.below HRa1.out.low HB1.out.size)
          have HVA := hide (hA2.away (G := Gb5) (fun q hq => Or.inr (Or.inl (HRb1.out.disk.lt q hq))))
          have HAB2 : Hid (∀ q ∈ Ja, q ∉ Gb5) := fun q hq hm => by
            rcases hs2 q hq with h | h
            · exact HAB.out q h hm
            · have := HRb1.out.disk.lt q hm; omega
          rw [HLK.out.1] at hA2
          have HRVA := hide hA2.rd
          obtain ⟨ofa, cfa, rfl⟩ := hA2.form
          have HRa2 := hide hR2
          clear hA2 hR2 hf2 hs2 HRa1 HRb1 HB1 HAB
          rw [HLK.out.2.1]
          go_wp2_with fail
          refine (lookS_any Z2).mono ?_
          rintro r' Z3 ⟨rfl, b3⟩
          have HRa3' := hide (HRa2.out.keep b3)
          have HRb3' := hide (HRb2.out.keep b3)
          have HB3 := hide (keepD HB2.out b3)
          have HRVA3 := hide (HRVA.out.below b3)
          have HVA3 : Hid (∀ a n c, Value.slice ofa y'.b.length cfa = .slice (some a) n c → a.block < Z3.heap.size) := fun a n c h => Nat.lt_of_lt_of_le (HVA.out.2 a n c h) b3.size
          clear b3 HRa2 HRb2 HB2 HRVA
          go_wp2_with fail
          refine (HRb3'.out.look (by decide)).mono ?_
          rintro r' Z4 ⟨vb, Jb, rfl, hA4, hR4, hf4, hs4⟩
          have HRa4 := hide (HRa3'.out.other hf4 HAB2.out HRb3'.out.low)
          have HRb4 := hide hR4
          have HAB4 : Hid (∀ q ∈ Ja, q ∉ Jb) := fun q hq hm => by
            rcases hs4 q hm with h | h
            · exact HAB2.out q hq h
            · have := HRa3'.out.disk.lt q hq; omega
          have HB4 : Hid (Below W0.heap.size W0 Z4) := HB3.out.trans (hf4.below HRb3'.out.low HB3.out.size)
          have HRVA4 := hide (HRVA3.out.fr hf4 HVA.out.1 HVA3.out)
          have HRVB := hide hA4.rd
          obtain ⟨ofb, cfb, rfl⟩ := hA4.form
          clear hA4 hR4 hf4 hs4 HRa3' HRb3' HB3 HRVA3 HVA HVA3 HAB2
          go_wp2_with fail
          refine (same_eq Z4 _ _ ⟨y'.b, y'.s, 0⟩ HRVA4.out HRVB.out HLB.out).mono ?_
          rintro r' Z5 ⟨rfl, b5⟩
          have HTN : Hid (Twin W0.heap.size W0 Z5 e pa pb Ja Jb x' y' 1) := ⟨HRa4.out.keep b5, HRb4.out.keep b5, HAB4.out, keepD HB4.out b5⟩
          clear b5 HRa4 HRb4 HB4 HRVA4 HRVB HAB4
          go_wp2_with fail
          go_roundw
          case rel => exact ⟨k + 1, Ja, Jb, x', y', true, lf, by omega, by go_num, rfl, by rfl, (fun e => (by cases e)), HRZ, HTN⟩
          case measure => simp [intOf]; omega
      | false =>
        have HLF9 : Hid (lf ≤ 9223372036854775807) := HLF.out rfl
        cases hcn : cnt y s with
        | false =>
          have HRQ := hide (HRL.out.same s h5 (fun _ => hcn))
          go_wp2_with (refine wpList_load_mid rfl 34 (.tmp 41) rfl bs (os + k * 5) rfl _ _ HRS.out Tryd.underlying34 rfl sizeStep ?_)
          rw [← HX1.out]
          refine (counts_any X1 W0.heap.size e pb Hb y 1 HT1.out.b (by decide) s).mono ?_
          rintro r' X2 ⟨rfl, Hb2, hRb2, hfb2, hsb2⟩
          rw [hcn]
          have HT2 : Hid (Twin W0.heap.size W0 X2 e pa pb Ha Hb2 x y 1) := ⟨HT1.out.a.other hfb2 HT1.out.ap HT1.out.b.low, hRb2, fun q hq hm => by
            rcases hsb2 q hm with h | h
            · exact HT1.out.ap q hq h
            · have := HT1.out.a.disk.lt q hq; omega, HT1.out.low.trans (hfb2.below HT1.out.b.low (by omega))⟩
          have HS2 := hide ((hfb2.block _ (by omega) HNS.out.2).trans HS1.out)
          have hzz := hfb2.size
          have HNS2 : Hid (wr.heap.size ∉ Ha ∧ wr.heap.size ∉ Hb2) := ⟨HNS.out.1, fun hm => by
            rcases hsb2 _ hm with h | h
            · exact HNS.out.2 h
            · omega⟩
          clear hRb2 hfb2 hsb2 HT1 HS1 HNS
          have s0 : X2.cell? ⟨wr.heap.size, 0, none⟩ = some (.int .i64 s.k) := cell_of HS2.out 0
          have s1 : X2.cell? ⟨wr.heap.size, 0 + 1, none⟩ = some (.int .i64 s.o) := cell_of HS2.out 1
          have s2 : X2.cell? ⟨wr.heap.size, 0 + 2, none⟩ = some (.int .i64 s.n) := cell_of HS2.out 2
          have s3 : X2.cell? ⟨wr.heap.size, 0 + 3, none⟩ = some (.int .i64 s.m) := cell_of HS2.out 3
          have s4 : X2.cell? ⟨wr.heap.size, 0 + 4, none⟩ = some (.string s.t) := cell_of HS2.out 4
          go_wp2_with fail
          refine (HT2.out.actA (by have := HT2.out.low.size; omega) s HST.out (by decide) HSN.out.1 HSN.out.2.1 HSN.out.2.2).mono ?_
          rintro r' Y ⟨ova, cva, Ha3, rfl, hA3, hRa3, hRb3, hap3, hlow3, hf3, hlt3⟩
          have HS3 := hide ((hf3.block _ (by omega) HNS2.out.1).trans HS2.out)
          have HVF := hide (hA3.away (G := Hb2) (fun q hq => Or.inr (Or.inl (hlt3 q hq))))
          have HRV := hide hA3.rd
          have hzy := hf3.size
          have HNB : Hid (Y.heap.size ∉ Hb2) := fun hm => by have := hRb3.disk.lt _ hm; omega
          have HRa3 := hide hRa3
          have HRb3 := hide hRb3
          have HAP3 := hide hap3
          have HLO3 := hide hlow3
          clear hA3 hRa3 hRb3 hap3 hlow3 hf3 hlt3 HT2 HS2
          obtain ⟨an, han⟩ : ∃ an, x.step s = an := ⟨_, rfl⟩
          have HLL0 := hide (step_list x s HFX.out)
          obtain ⟨hq1, hq2⟩ := HRQ.out
          have hyq : (y.step s).2 = an.2 := by rw [← han]; exact hq1.symm
          rw [han] at HLL0 HRV HVF HRa3 hq2
          rw [han]
          clear han hq1
          obtain ⟨x', la, na, ea⟩ := an
          dsimp only at HLL0 HRV HVF HRa3 hyq hq2 ⊢
          have HLL : Hid (la.length ≤ 4611686018427387904) := HLL0.out
          have HYQ := hide hyq
          have HRQ2 := hide hq2
          clear hyq HLL0 hq2 HRQ
          obtain ⟨X3, hX3⟩ : ∃ X3, X3 = Y.alloc (.cells #[.slice ova la.length cva, .int .i64 na, .int .i64 (ea : Int)] 31) := ⟨_, rfl⟩
          have B3 : Below Y.heap.size Y X3 := by rw [hX3]; exact (Below.refl _ _).alloc (Nat.le_refl _) _
          have HG3 : Hid (X3.heap[Y.heap.size]? = some (.cells #[.slice ova la.length cva, .int .i64 na, .int .i64 (ea : Int)] 31)) := by rw [hX3]; exact heap_alloc_new _ _
          have HX3 := hide hX3
          have hz3 : Y.heap.size < X3.heap.size := (Array.getElem?_eq_some_iff.1 HG3.out).1
          have hs3c := (B3.block _ (by omega)).trans HS3.out
          have HACT : Hid (Calls Tryd.prog 12 #[ptr pb, spv s] X3.drew fun r' w' => ∃ ovb cvb Gb5, r' = .returned (sdv (.slice ovb la.length cvb) na ea) ∧ Rd w' (.slice ovb la.length cvb) la ∧ Rd w' (.slice ova la.length cva) la ∧ Twin W0.heap.size W0 w' e pa pb Ha3 Gb5 x' (y.step s).1 2 ∧ w'.heap[Y.heap.size]? = some (.cells #[.slice ova la.length cva, .int .i64 na, .int .i64 (ea : Int)] 31)) := by
            have b3d : Below Y.heap.size Y X3.drew := B3.drew
            have hact := Twin.actB (HRa3.out.keep b3d) (HRb3.out.keep b3d) HAP3.out (keepD HLO3.out b3d) (Nat.le_trans HLO3.out.size b3d.size) s HST.out (by decide) HSN.out.1 HSN.out.2.1 HSN.out.2.2
            rw [HYQ.out] at hact
            refine hact.mono ?_
            rintro r' w' ⟨ovb, cvb, Gb5, rfl, hA5, hT5, hf5⟩
            exact ⟨ovb, cvb, Gb5, rfl, hA5.rd, (HRV.out.below b3d).fr hf5 HVF.out.1 (fun a n c h => Nat.lt_of_lt_of_le (HVF.out.2 a n c h) b3d.size), hT5, (hf5.block _ (Nat.lt_of_lt_of_le hz3 (Nat.le_refl _)) HNB.out).trans HG3.out⟩
          have g0 : X3.cell? ⟨Y.heap.size, 0, none⟩ = some (.slice ova la.length cva) := cell_of HG3.out 0
          have g1 : X3.cell? ⟨Y.heap.size, 0 + 1, none⟩ = some (.int .i64 na) := cell_of HG3.out 1
          have g2 : X3.cell? ⟨Y.heap.size, 0 + 2, none⟩ = some (.int .i64 (ea : Int)) := cell_of HG3.out 2
          have p0 : X3.cell? ⟨wr.heap.size, 0, none⟩ = some (.int .i64 s.k) := cell_of hs3c 0
          have p1 : X3.cell? ⟨wr.heap.size, 0 + 1, none⟩ = some (.int .i64 s.o) := cell_of hs3c 1
          have p2 : X3.cell? ⟨wr.heap.size, 0 + 2, none⟩ = some (.int .i64 s.n) := cell_of hs3c 2
          have p3 : X3.cell? ⟨wr.heap.size, 0 + 3, none⟩ = some (.int .i64 s.m) := cell_of hs3c 3
          have p4 : X3.cell? ⟨wr.heap.size, 0 + 4, none⟩ = some (.string s.t) := cell_of hs3c 4
          have hll : la.length ≤ 4611686018427387904 := HLL.out
          clear B3 hX3 hs3c HRa3 HRb3 HAP3 HLO3 HRV HVF
          go_wp2_with fail
          rw [← HX3.out]
          go_region_with (first
            | (go_at_call 12; refine HACT.out.mono ?_; rintro r' X5 ⟨ovb, cvb, Gb5, rfl, h51, h52, h53, h57⟩; have t0 : X5.cell? ⟨Y.heap.size, 0, none⟩ = some (.slice ova la.length cva) := cell_of h57 0; have t1 : X5.cell? ⟨Y.heap.size, 0 + 1, none⟩ = some (.int .i64 na) := cell_of h57 1; have t2 : X5.cell? ⟨Y.heap.size, 0 + 2, none⟩ = some (.int .i64 (ea : Int)) := cell_of h57 2)
            | (go_at_call 17; refine (same_eq _ _ _ ⟨la, na, ea⟩ h52 h51 hll).mono ?_; rintro r' X6 ⟨rfl, b6⟩))
          all_goals
            have HTZ := hide (h53.keep b6 h53.low.size)
            have HRZ := HRQ2
            clear h51 h52 h53 h57 b6 t0 t1 t2 g0 g1 g2 p0 p1 p2 p3 p4 HACT
            generalize (y.step s).1 = y' at *
            have hlk := HRZ.out.like
            have hln := HRZ.out.len
            have HLB : Hid (y'.b.length ≤ 4611686018427387904) := by have := HTZ.out.b.fine.ok.most; show _ ≤ _; omega
            have HRa := hide (HTZ.out.a.lower 1 hln.1)
            have HRb := hide (HTZ.out.b.lower 1 hln.2)
            have HAB := hide HTZ.out.ap
            have HBW := hide HTZ.out.low
            have HLK := hide hlk
            clear hlk hln HTZ
            go_wp2_with fail
            refine (dead_any _ pa _ x' HRa.out.disk).mono ?_
            rintro r' w' ⟨rfl, h'⟩
            obtain rfl := h'.symm
            rw [HLK.out.2.2]
            go_wp2_with fail
            refine (dead_any _ pb _ y' HRb.out.disk).mono ?_
            rintro r' w' ⟨rfl, h'⟩
            obtain rfl := h'.symm
            go_wp2_with fail
            refine (lookS_any _).mono ?_
            rintro r' Z1 ⟨rfl, b1⟩
            have HRa1 := hide (HRa.out.keep b1)
            have HRb1 := hide (HRb.out.keep b1)
            have HB1 := hide (keepD HBW.out b1)
            clear b1 HRa HRb HBW
            go_wp2_with fail
            refine (HRa1.out.look (by decide)).mono ?_
            rintro r' Z2 ⟨va, Ja, rfl, hA2, hR2, hf2, hs2⟩
            have HRb2 := hide (HRb1.out.other hf2 (fun q hq hm => HAB.out q hm hq) HRa1.out.low)
            have HB2 : Hid (Below W0.heap.size W0 Z2) := HB1.out.trans (hf2.below HRa1.out.low HB1.out.size)
            have HVA := hide (hA2.away (G := Gb5) (fun q hq => Or.inr (Or.inl (HRb1.out.disk.lt q hq))))
            have HAB2 : Hid (∀ q ∈ Ja, q ∉ Gb5) := fun q hq hm => by
              rcases hs2 q hq with h | h
              · exact HAB.out q h hm
              · have := HRb1.out.disk.lt q hm; omega
            rw [HLK.out.1] at hA2
            have HRVA := hide hA2.rd
            obtain ⟨ofa, cfa, rfl⟩ := hA2.form
            have HRa2 := hide hR2
            clear hA2 hR2 hf2 hs2 HRa1 HRb1 HB1 HAB
            rw [HLK.out.2.1]
            go_wp2_with fail
            refine (lookS_any Z2).mono ?_
            rintro r' Z3 ⟨rfl, b3⟩
            have HRa3' := hide (HRa2.out.keep b3)
            have HRb3' := hide (HRb2.out.keep b3)
            have HB3 := hide (keepD HB2.out b3)
            have HRVA3 := hide (HRVA.out.below b3)
            have HVA3 : Hid (∀ a n c, Value.slice ofa y'.b.length cfa = .slice (some a) n c → a.block < Z3.heap.size) := fun a n c h => Nat.lt_of_lt_of_le (HVA.out.2 a n c h) b3.size
            clear b3 HRa2 HRb2 HB2 HRVA
            go_wp2_with fail
            refine (HRb3'.out.look (by decide)).mono ?_
            rintro r' Z4 ⟨vb, Jb, rfl, hA4, hR4, hf4, hs4⟩
            have HRa4 := hide (HRa3'.out.other hf4 HAB2.out HRb3'.out.low)
            have HRb4 := hide hR4
            have HAB4 : Hid (∀ q ∈ Ja, q ∉ Jb) := fun q hq hm => by
              rcases hs4 q hm with h | h
              · exact HAB2.out q hq h
              · have := HRa3'.out.disk.lt q hq; omega
            have HB4 : Hid (Below W0.heap.size W0 Z4) := HB3.out.trans (hf4.below HRb3'.out.low HB3.out.size)
            have HRVA4 := hide (HRVA3.out.fr hf4 HVA.out.1 HVA3.out)
            have HRVB := hide hA4.rd
            obtain ⟨ofb, cfb, rfl⟩ := hA4.form
            clear hA4 hR4 hf4 hs4 HRa3' HRb3' HB3 HRVA3 HVA HVA3 HAB2
            go_wp2_with fail
            refine (same_eq Z4 _ _ ⟨y'.b, y'.s, 0⟩ HRVA4.out HRVB.out HLB.out).mono ?_
            rintro r' Z5 ⟨rfl, b5⟩
            have HTN : Hid (Twin W0.heap.size W0 Z5 e pa pb Ja Jb x' y' 1) := ⟨HRa4.out.keep b5, HRb4.out.keep b5, HAB4.out, keepD HB4.out b5⟩
            clear b5 HRa4 HRb4 HB4 HRVA4 HRVB HAB4
            go_wp2_with fail
            go_roundw
            case rel => exact ⟨k + 1, Ja, Jb, x', y', false, lf, by omega, by go_num, rfl, by rfl, (fun _ => HLF9.out), HRZ, HTN⟩
            case measure => simp [intOf]; omega
        | true =>
          by_cases hl0 : lf ≤ 0
          · have HRZ0 := hide (fun l => HRL.out.dies s hcn hl0 l)
            have HAL := hide (cnt_alive hcn)
            have HYA := hide HRL.out.arms
            have HYR := hide HRL.out.room
            go_wp2_with (refine wpList_load_mid rfl 34 (.tmp 41) rfl bs (os + k * 5) rfl _ _ HRS.out Tryd.underlying34 rfl sizeStep ?_)
            rw [← HX1.out]
            refine (counts_any X1 W0.heap.size e pb Hb y 1 HT1.out.b (by decide) s).mono ?_
            rintro r' X2 ⟨rfl, Hb2, hRb2, hfb2, hsb2⟩
            rw [hcn]
            have HT2 : Hid (Twin W0.heap.size W0 X2 e pa pb Ha Hb2 x y 1) := ⟨HT1.out.a.other hfb2 HT1.out.ap HT1.out.b.low, hRb2, fun q hq hm => by
              rcases hsb2 q hm with h | h
              · exact HT1.out.ap q hq h
              · have := HT1.out.a.disk.lt q hq; omega, HT1.out.low.trans (hfb2.below HT1.out.b.low (by omega))⟩
            have HS2 := hide ((hfb2.block _ (by omega) HNS.out.2).trans HS1.out)
            have hzz := hfb2.size
            have HNS2 : Hid (wr.heap.size ∉ Ha ∧ wr.heap.size ∉ Hb2) := ⟨HNS.out.1, fun hm => by
              rcases hsb2 _ hm with h | h
              · exact HNS.out.2 h
              · omega⟩
            clear hRb2 hfb2 hsb2 HT1 HS1 HNS
            have s0 : X2.cell? ⟨wr.heap.size, 0, none⟩ = some (.int .i64 s.k) := cell_of HS2.out 0
            have s1 : X2.cell? ⟨wr.heap.size, 0 + 1, none⟩ = some (.int .i64 s.o) := cell_of HS2.out 1
            have s2 : X2.cell? ⟨wr.heap.size, 0 + 2, none⟩ = some (.int .i64 s.n) := cell_of HS2.out 2
            have s3 : X2.cell? ⟨wr.heap.size, 0 + 3, none⟩ = some (.int .i64 s.m) := cell_of HS2.out 3
            have s4 : X2.cell? ⟨wr.heap.size, 0 + 4, none⟩ = some (.string s.t) := cell_of HS2.out 4
            go_wp2_with fail
            refine (HT2.out.actA (by have := HT2.out.low.size; omega) s HST.out (by decide) HSN.out.1 HSN.out.2.1 HSN.out.2.2).mono ?_
            rintro r' Y ⟨ova, cva, Ha3, rfl, hA3, hRa3, hRb3, hap3, hlow3, hf3, hlt3⟩
            have HS3 := hide ((hf3.block _ (by omega) HNS2.out.1).trans HS2.out)
            have hzy := hf3.size
            have HRa3 := hide hRa3
            have HRb3 := hide hRb3
            have HAP3 := hide hap3
            have HLO3 := hide hlow3
            clear hA3 hRa3 hRb3 hap3 hlow3 hf3 hlt3 HT2 HS2
            rw [(HRZ0.out 0).1] at HRa3 ⊢
            dsimp only at HRa3 ⊢
            obtain ⟨X3, hX3⟩ : ∃ X3, X3 = Y.alloc (.cells #[.slice ova 0 cva, .int .i64 0, .int .i64 10] 31) := ⟨_, rfl⟩
            have B3 : Below Y.heap.size Y X3 := by rw [hX3]; exact (Below.refl _ _).alloc (Nat.le_refl _) _
            have HG3 : Hid (X3.heap[Y.heap.size]? = some (.cells #[.slice ova 0 cva, .int .i64 0, .int .i64 10] 31)) := by rw [hX3]; exact heap_alloc_new _ _
            have HX3 := hide hX3
            have hz3 : Y.heap.size < X3.heap.size := (Array.getElem?_eq_some_iff.1 HG3.out).1
            have hs3c := (B3.block _ (by omega)).trans HS3.out
            have hlw3 := keepD HLO3.out B3
            have hbx := (hlw3.block _ (by omega)).trans HX0.out
            have HCUT : Hid (Calls Tryd.prog 23 #[ptr pb, spv s, .int .i64 (roomOf room : Int), .int .i64 keep] X3.drew fun r' w' => r' = .returned (.bool true) ∧ ∃ Gb5, Twin W0.heap.size W0 w' e pa pb Ha3 Gb5 (y.cutAs s keep) (y.cutAs s keep) 2) := by
              have b3d : Below Y.heap.size Y X3.drew := B3.drew
              have hc := cutL_any X3.drew W0.heap.size e pb Hb2 y 1 (HRb3.out.keep b3d) (by decide) s keep HAL.out HYA.out HST.out HSN.out.1 HSN.out.2.1 HSN.out.2.2
              rw [HYR.out] at hc
              refine hc.mono ?_
              rintro r' w' ⟨rfl, F', hR, hf, hs⟩
              refine ⟨rfl, F', (HRa3.out.keep b3d).other hf HAP3.out (HRb3.out.keep b3d).low, hR, fun q hq hm => ?_, (keepD HLO3.out b3d).trans (hf.below (HRb3.out.keep b3d).low (Nat.le_trans HLO3.out.size b3d.size))⟩
              rcases hs q hm with h | h
              · exact HAP3.out q hq h
              · have h1 := HRa3.out.disk.lt q hq
                have h2 := b3d.size
                omega
            have g0 : X3.cell? ⟨Y.heap.size, 0, none⟩ = some (.slice ova 0 cva) := cell_of HG3.out 0
            have g2 : X3.cell? ⟨Y.heap.size, 2, none⟩ = some (.int .i64 10) := cell_of HG3.out 2
            have p0 : X3.cell? ⟨wr.heap.size, 0, none⟩ = some (.int .i64 s.k) := cell_of hs3c 0
            have p1 : X3.cell? ⟨wr.heap.size, 0 + 1, none⟩ = some (.int .i64 s.o) := cell_of hs3c 1
            have p2 : X3.cell? ⟨wr.heap.size, 0 + 2, none⟩ = some (.int .i64 s.n) := cell_of hs3c 2
            have p3 : X3.cell? ⟨wr.heap.size, 0 + 3, none⟩ = some (.int .i64 s.m) := cell_of hs3c 3
            have p4 : X3.cell? ⟨wr.heap.size, 0 + 4, none⟩ = some (.string s.t) := cell_of hs3c 4
            have r0 : X3.cell? ⟨w.heap.size, 0, none⟩ = some (.int .i64 room) := cell_of hbx 0
            have r3 : X3.cell? ⟨w.heap.size, 3, none⟩ = some (.int .i64 keep) := cell_of hbx 3
            clear B3 hX3 hs3c hlw3 hbx HRa3 HRb3 HAP3 HLO3 HS3
            go_wp2_with fail
            rw [← HX3.out]
            go_region_with (first
              | (go_at_call 24; refine (roomy_any _ room).mono ?_; rintro r' w' ⟨rfl, rfl⟩)
              | (go_at_call 23; refine HCUT.out.mono ?_; rintro r' X6 ⟨rfl, Gb5, h6⟩))
            all_goals
              have HTZ := hide h6
              clear h6 g0 g2 p0 p1 p2 p3 p4 r0 r3 HCUT
              obtain ⟨x', hx'⟩ : ∃ x', y.cutAs s keep = x' := ⟨_, rfl⟩
              have HRZ1 := HRZ0
              rw [hx'] at HTZ HRZ1
              obtain ⟨y', hy'⟩ : ∃ y', x' = y' := ⟨_, rfl⟩
              have HTZ' : Hid (Twin W0.heap.size W0 X6 e pa pb Ha3 Gb5 x' y' 2) := by rw [← hy']; exact HTZ.out
              have HRZA : Hid (∀ l, Rel2 true l keep (roomOf room) x' y') := fun l => by rw [← hy']; exact (HRZ1.out l).2
              have HRZ := hide (HRZA.out 0)
              clear HTZ HRZ1 hx' hy'
              have HTZ := HTZ'
              clear HTZ'
              have hlk := HRZ.out.like
              have hln := HRZ.out.len
              have HLB : Hid (y'.b.length ≤ 4611686018427387904) := by have := HTZ.out.b.fine.ok.most; show _ ≤ _; omega
              have HRa := hide (HTZ.out.a.lower 1 hln.1)
              have HRb := hide (HTZ.out.b.lower 1 hln.2)
              have HAB := hide HTZ.out.ap
              have HBW := hide HTZ.out.low
              have HLK := hide hlk
              clear hlk hln HTZ
              go_wp2_with fail
              refine (dead_any _ pa _ x' HRa.out.disk).mono ?_
              rintro r' w' ⟨rfl, h'⟩
              obtain rfl := h'.symm
              rw [HLK.out.2.2]
              go_wp2_with fail
              refine (dead_any _ pb _ y' HRb.out.disk).mono ?_
              rintro r' w' ⟨rfl, h'⟩
              obtain rfl := h'.symm
              go_wp2_with fail
              refine (lookS_any _).mono ?_
              rintro r' Z1 ⟨rfl, b1⟩
              have HRa1 := hide (HRa.out.keep b1)
              have HRb1 := hide (HRb.out.keep b1)
              have HB1 := hide (keepD HBW.out b1)
              clear b1 HRa HRb HBW
              go_wp2_with fail
              refine (HRa1.out.look (by decide)).mono ?_
              rintro r' Z2 ⟨va, Ja, rfl, hA2, hR2, hf2, hs2⟩
              have HRb2 := hide (HRb1.out.other hf2 (fun q hq hm => HAB.out q hm hq) HRa1.out.low)
              have HB2 : Hid (Below W0.heap.size W0 Z2) := HB1.out.trans (hf2.below HRa1.out.low HB1.out.size)
              have HVA := hide (hA2.away (G := Gb5) (fun q hq => Or.inr (Or.inl (HRb1.out.disk.lt q hq))))
              have HAB2 : Hid (∀ q ∈ Ja, q ∉ Gb5) := fun q hq hm => by
                rcases hs2 q hq with h | h
                · exact HAB.out q h hm
                · have := HRb1.out.disk.lt q hm; omega
              rw [HLK.out.1] at hA2
              have HRVA := hide hA2.rd
              obtain ⟨ofa, cfa, rfl⟩ := hA2.form
              have HRa2 := hide hR2
              clear hA2 hR2 hf2 hs2 HRa1 HRb1 HB1 HAB
              rw [HLK.out.2.1]
              go_wp2_with fail
              refine (lookS_any Z2).mono ?_
              rintro r' Z3 ⟨rfl, b3⟩
              have HRa3' := hide (HRa2.out.keep b3)
              have HRb3' := hide (HRb2.out.keep b3)
              have HB3 := hide (keepD HB2.out b3)
              have HRVA3 := hide (HRVA.out.below b3)
              have HVA3 : Hid (∀ a n c, Value.slice ofa y'.b.length cfa = .slice (some a) n c → a.block < Z3.heap.size) := fun a n c h => Nat.lt_of_lt_of_le (HVA.out.2 a n c h) b3.size
              clear b3 HRa2 HRb2 HB2 HRVA
              go_wp2_with fail
              refine (HRb3'.out.look (by decide)).mono ?_
              rintro r' Z4 ⟨vb, Jb, rfl, hA4, hR4, hf4, hs4⟩
              have HRa4 := hide (HRa3'.out.other hf4 HAB2.out HRb3'.out.low)
              have HRb4 := hide hR4
              have HAB4 : Hid (∀ q ∈ Ja, q ∉ Jb) := fun q hq hm => by
                rcases hs4 q hm with h | h
                · exact HAB2.out q hq h
                · have := HRa3'.out.disk.lt q hq; omega
              have HB4 : Hid (Below W0.heap.size W0 Z4) := HB3.out.trans (hf4.below HRb3'.out.low HB3.out.size)
              have HRVA4 := hide (HRVA3.out.fr hf4 HVA.out.1 HVA3.out)
              have HRVB := hide hA4.rd
              obtain ⟨ofb, cfb, rfl⟩ := hA4.form
              clear hA4 hR4 hf4 hs4 HRa3' HRb3' HB3 HRVA3 HVA HVA3 HAB2
              go_wp2_with fail
              refine (same_eq Z4 _ _ ⟨y'.b, y'.s, 0⟩ HRVA4.out HRVB.out HLB.out).mono ?_
              rintro r' Z5 ⟨rfl, b5⟩
              have HTN : Hid (Twin W0.heap.size W0 Z5 e pa pb Ja Jb x' y' 1) := ⟨HRa4.out.keep b5, HRb4.out.keep b5, HAB4.out, keepD HB4.out b5⟩
              clear b5 HRa4 HRb4 HB4 HRVA4 HRVB HAB4
              go_wp2_with fail
              go_roundw
              case rel => exact ⟨k + 1, Ja, Jb, x', y', true, _, by omega, by go_num, rfl, rfl, (fun e => (by cases e)), HRZA.out _, HTN⟩
              case measure => simp [intOf]; omega
          · have hl1 : 0 < lf := by omega
            have HRQ := hide (HRL.out.goes s hcn hl1)
            have hlf9 : lf ≤ 9223372036854775807 := HLF9.out
            go_wp2_with (refine wpList_load_mid rfl 34 (.tmp 41) rfl bs (os + k * 5) rfl _ _ HRS.out Tryd.underlying34 rfl sizeStep ?_)
            rw [← HX1.out]
            refine (counts_any X1 W0.heap.size e pb Hb y 1 HT1.out.b (by decide) s).mono ?_
            rintro r' X2 ⟨rfl, Hb2, hRb2, hfb2, hsb2⟩
            rw [hcn]
            have HT2 : Hid (Twin W0.heap.size W0 X2 e pa pb Ha Hb2 x y 1) := ⟨HT1.out.a.other hfb2 HT1.out.ap HT1.out.b.low, hRb2, fun q hq hm => by
              rcases hsb2 q hm with h | h
              · exact HT1.out.ap q hq h
              · have := HT1.out.a.disk.lt q hq; omega, HT1.out.low.trans (hfb2.below HT1.out.b.low (by omega))⟩
            have HS2 := hide ((hfb2.block _ (by omega) HNS.out.2).trans HS1.out)
            have hzz := hfb2.size
            have HNS2 : Hid (wr.heap.size ∉ Ha ∧ wr.heap.size ∉ Hb2) := ⟨HNS.out.1, fun hm => by
              rcases hsb2 _ hm with h | h
              · exact HNS.out.2 h
              · omega⟩
            clear hRb2 hfb2 hsb2 HT1 HS1 HNS
            have s0 : X2.cell? ⟨wr.heap.size, 0, none⟩ = some (.int .i64 s.k) := cell_of HS2.out 0
            have s1 : X2.cell? ⟨wr.heap.size, 0 + 1, none⟩ = some (.int .i64 s.o) := cell_of HS2.out 1
            have s2 : X2.cell? ⟨wr.heap.size, 0 + 2, none⟩ = some (.int .i64 s.n) := cell_of HS2.out 2
            have s3 : X2.cell? ⟨wr.heap.size, 0 + 3, none⟩ = some (.int .i64 s.m) := cell_of HS2.out 3
            have s4 : X2.cell? ⟨wr.heap.size, 0 + 4, none⟩ = some (.string s.t) := cell_of HS2.out 4
            go_wp2_with fail
            refine (HT2.out.actA (by have := HT2.out.low.size; omega) s HST.out (by decide) HSN.out.1 HSN.out.2.1 HSN.out.2.2).mono ?_
            rintro r' Y ⟨ova, cva, Ha3, rfl, hA3, hRa3, hRb3, hap3, hlow3, hf3, hlt3⟩
            have HS3 := hide ((hf3.block _ (by omega) HNS2.out.1).trans HS2.out)
            have HVF := hide (hA3.away (G := Hb2) (fun q hq => Or.inr (Or.inl (hlt3 q hq))))
            have HRV := hide hA3.rd
            have hzy := hf3.size
            have HNB : Hid (Y.heap.size ∉ Hb2) := fun hm => by have := hRb3.disk.lt _ hm; omega
            have HRa3 := hide hRa3
            have HRb3 := hide hRb3
            have HAP3 := hide hap3
            have HLO3 := hide hlow3
            clear hA3 hRa3 hRb3 hap3 hlow3 hf3 hlt3 HT2 HS2
            obtain ⟨an, han⟩ : ∃ an, x.step s = an := ⟨_, rfl⟩
            have HLL0 := hide (step_list x s HFX.out)
            obtain ⟨hq1, hq2⟩ := HRQ.out
            have hyq : (y.step s).2 = an.2 := by rw [← han]; exact hq1.symm
            rw [han] at HLL0 HRV HVF HRa3 hq2
            rw [han]
            clear han hq1
            obtain ⟨x', la, na, ea⟩ := an
            dsimp only at HLL0 HRV HVF HRa3 hyq hq2 ⊢
            have HLL : Hid (la.length ≤ 4611686018427387904) := HLL0.out
            have HYQ := hide hyq
            have HRQ2 := hide hq2
            clear hyq HLL0 hq2 HRQ
            obtain ⟨X3, hX3⟩ : ∃ X3, X3 = Y.alloc (.cells #[.slice ova la.length cva, .int .i64 na, .int .i64 (ea : Int)] 31) := ⟨_, rfl⟩
            have B3 : Below Y.heap.size Y X3 := by rw [hX3]; exact (Below.refl _ _).alloc (Nat.le_refl _) _
            have HG3 : Hid (X3.heap[Y.heap.size]? = some (.cells #[.slice ova la.length cva, .int .i64 na, .int .i64 (ea : Int)] 31)) := by rw [hX3]; exact heap_alloc_new _ _
            have HX3 := hide hX3
            have hz3 : Y.heap.size < X3.heap.size := (Array.getElem?_eq_some_iff.1 HG3.out).1
            have hs3c := (B3.block _ (by omega)).trans HS3.out
            have HACT : Hid (Calls Tryd.prog 12 #[ptr pb, spv s] X3.drew fun r' w' => ∃ ovb cvb Gb5, r' = .returned (sdv (.slice ovb la.length cvb) na ea) ∧ Rd w' (.slice ovb la.length cvb) la ∧ Rd w' (.slice ova la.length cva) la ∧ Twin W0.heap.size W0 w' e pa pb Ha3 Gb5 x' (y.step s).1 2 ∧ w'.heap[Y.heap.size]? = some (.cells #[.slice ova la.length cva, .int .i64 na, .int .i64 (ea : Int)] 31)) := by
              have b3d : Below Y.heap.size Y X3.drew := B3.drew
              have hact := Twin.actB (HRa3.out.keep b3d) (HRb3.out.keep b3d) HAP3.out (keepD HLO3.out b3d) (Nat.le_trans HLO3.out.size b3d.size) s HST.out (by decide) HSN.out.1 HSN.out.2.1 HSN.out.2.2
              rw [HYQ.out] at hact
              refine hact.mono ?_
              rintro r' w' ⟨ovb, cvb, Gb5, rfl, hA5, hT5, hf5⟩
              exact ⟨ovb, cvb, Gb5, rfl, hA5.rd, (HRV.out.below b3d).fr hf5 HVF.out.1 (fun a n c h => Nat.lt_of_lt_of_le (HVF.out.2 a n c h) b3d.size), hT5, (hf5.block _ (Nat.lt_of_lt_of_le hz3 (Nat.le_refl _)) HNB.out).trans HG3.out⟩
            have g0 : X3.cell? ⟨Y.heap.size, 0, none⟩ = some (.slice ova la.length cva) := cell_of HG3.out 0
            have g1 : X3.cell? ⟨Y.heap.size, 0 + 1, none⟩ = some (.int .i64 na) := cell_of HG3.out 1
            have g2 : X3.cell? ⟨Y.heap.size, 0 + 2, none⟩ = some (.int .i64 (ea : Int)) := cell_of HG3.out 2
            have p0 : X3.cell? ⟨wr.heap.size, 0, none⟩ = some (.int .i64 s.k) := cell_of hs3c 0
            have p1 : X3.cell? ⟨wr.heap.size, 0 + 1, none⟩ = some (.int .i64 s.o) := cell_of hs3c 1
            have p2 : X3.cell? ⟨wr.heap.size, 0 + 2, none⟩ = some (.int .i64 s.n) := cell_of hs3c 2
            have p3 : X3.cell? ⟨wr.heap.size, 0 + 3, none⟩ = some (.int .i64 s.m) := cell_of hs3c 3
            have p4 : X3.cell? ⟨wr.heap.size, 0 + 4, none⟩ = some (.string s.t) := cell_of hs3c 4
            have hll : la.length ≤ 4611686018427387904 := HLL.out
            clear B3 hX3 hs3c HRa3 HRb3 HAP3 HLO3 HRV HVF
            go_wp2_with fail
            rw [← HX3.out]
            go_region_with (first
              | (go_at_call 12; refine HACT.out.mono ?_; rintro r' X5 ⟨ovb, cvb, Gb5, rfl, h51, h52, h53, h57⟩; have t0 : X5.cell? ⟨Y.heap.size, 0, none⟩ = some (.slice ova la.length cva) := cell_of h57 0; have t1 : X5.cell? ⟨Y.heap.size, 0 + 1, none⟩ = some (.int .i64 na) := cell_of h57 1; have t2 : X5.cell? ⟨Y.heap.size, 0 + 2, none⟩ = some (.int .i64 (ea : Int)) := cell_of h57 2)
              | (go_at_call 17; refine (same_eq _ _ _ ⟨la, na, ea⟩ h52 h51 hll).mono ?_; rintro r' X6 ⟨rfl, b6⟩))
            all_goals
              have HTZ := hide (h53.keep b6 h53.low.size)
              have HRZ := HRQ2
              clear h51 h52 h53 h57 b6 t0 t1 t2 g0 g1 g2 p0 p1 p2 p3 p4 HACT
              generalize (y.step s).1 = y' at *
              have hlk := HRZ.out.like
              have hln := HRZ.out.len
              have HLB : Hid (y'.b.length ≤ 4611686018427387904) := by have := HTZ.out.b.fine.ok.most; show _ ≤ _; omega
              have HRa := hide (HTZ.out.a.lower 1 hln.1)
              have HRb := hide (HTZ.out.b.lower 1 hln.2)
              have HAB := hide HTZ.out.ap
              have HBW := hide HTZ.out.low
              have HLK := hide hlk
              clear hlk hln HTZ
              go_wp2_with fail
              refine (dead_any _ pa _ x' HRa.out.disk).mono ?_
              rintro r' w' ⟨rfl, h'⟩
              obtain rfl := h'.symm
              rw [HLK.out.2.2]
              go_wp2_with fail
              refine (dead_any _ pb _ y' HRb.out.disk).mono ?_
              rintro r' w' ⟨rfl, h'⟩
              obtain rfl := h'.symm
              go_wp2_with fail
              refine (lookS_any _).mono ?_
              rintro r' Z1 ⟨rfl, b1⟩
              have HRa1 := hide (HRa.out.keep b1)
              have HRb1 := hide (HRb.out.keep b1)
              have HB1 := hide (keepD HBW.out b1)
              clear b1 HRa HRb HBW
              go_wp2_with fail
              refine (HRa1.out.look (by decide)).mono ?_
              rintro r' Z2 ⟨va, Ja, rfl, hA2, hR2, hf2, hs2⟩
              have HRb2 := hide (HRb1.out.other hf2 (fun q hq hm => HAB.out q hm hq) HRa1.out.low)
              have HB2 : Hid (Below W0.heap.size W0 Z2) := HB1.out.trans (hf2.below HRa1.out.low HB1.out.size)
              have HVA := hide (hA2.away (G := Gb5) (fun q hq => Or.inr (Or.inl (HRb1.out.disk.lt q hq))))
              have HAB2 : Hid (∀ q ∈ Ja, q ∉ Gb5) := fun q hq hm => by
                rcases hs2 q hq with h | h
                · exact HAB.out q h hm
                · have := HRb1.out.disk.lt q hm; omega
              rw [HLK.out.1] at hA2
              have HRVA := hide hA2.rd
              obtain ⟨ofa, cfa, rfl⟩ := hA2.form
              have HRa2 := hide hR2
              clear hA2 hR2 hf2 hs2 HRa1 HRb1 HB1 HAB
              rw [HLK.out.2.1]
              go_wp2_with fail
              refine (lookS_any Z2).mono ?_
              rintro r' Z3 ⟨rfl, b3⟩
              have HRa3' := hide (HRa2.out.keep b3)
              have HRb3' := hide (HRb2.out.keep b3)
              have HB3 := hide (keepD HB2.out b3)
              have HRVA3 := hide (HRVA.out.below b3)
              have HVA3 : Hid (∀ a n c, Value.slice ofa y'.b.length cfa = .slice (some a) n c → a.block < Z3.heap.size) := fun a n c h => Nat.lt_of_lt_of_le (HVA.out.2 a n c h) b3.size
              clear b3 HRa2 HRb2 HB2 HRVA
              go_wp2_with fail
              refine (HRb3'.out.look (by decide)).mono ?_
              rintro r' Z4 ⟨vb, Jb, rfl, hA4, hR4, hf4, hs4⟩
              have HRa4 := hide (HRa3'.out.other hf4 HAB2.out HRb3'.out.low)
              have HRb4 := hide hR4
              have HAB4 : Hid (∀ q ∈ Ja, q ∉ Jb) := fun q hq hm => by
                rcases hs4 q hm with h | h
                · exact HAB2.out q hq h
                · have := HRa3'.out.disk.lt q hq; omega
              have HB4 : Hid (Below W0.heap.size W0 Z4) := HB3.out.trans (hf4.below HRb3'.out.low HB3.out.size)
              have HRVA4 := hide (HRVA3.out.fr hf4 HVA.out.1 HVA3.out)
              have HRVB := hide hA4.rd
              obtain ⟨ofb, cfb, rfl⟩ := hA4.form
              clear hA4 hR4 hf4 hs4 HRa3' HRb3' HB3 HRVA3 HVA HVA3 HAB2
              go_wp2_with fail
              refine (same_eq Z4 _ _ ⟨y'.b, y'.s, 0⟩ HRVA4.out HRVB.out HLB.out).mono ?_
              rintro r' Z5 ⟨rfl, b5⟩
              have HTN : Hid (Twin W0.heap.size W0 Z5 e pa pb Ja Jb x' y' 1) := ⟨HRa4.out.keep b5, HRb4.out.keep b5, HAB4.out, keepD HB4.out b5⟩
              clear b5 HRa4 HRb4 HB4 HRVA4 HRVB HAB4
              go_wp2_with fail
              go_roundw
              case rel => exact ⟨k + 1, Ja, Jb, x', y', false, lf - 1, by omega, by go_num, rfl, by go_num, (fun _ => by have := HLF9.out; omega), HRZ, HTN⟩
              case measure => simp [intOf]; omega
    · obtain rfl : k = ss.length := by omega
      have HB5 := hide HT.out.low
      clear HT HRL
      go_wp2
      go_ret
      exact ⟨rfl, HB0.out.trans (HB5.out.mono HB0.out.size)⟩
end Go.Proofs.YtkibaedocieceaaDoor.dk
