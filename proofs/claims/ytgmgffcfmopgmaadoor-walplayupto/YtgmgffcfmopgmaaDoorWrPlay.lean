import Derived.Test.YtgmgffcfmopgmaaDoorWrOpens
import Derived.Deep.RegionHeld3
namespace Go.Proofs.YtgmgffcfmopgmaaDoor.wl
open Go.ChangeShapes Go.WideShapes Go.ChangeAt Go.RowKit Go.Proofs.YtgmgffcfmopgmaaDoor.common Go.Proofs.YtgmgffcfmopgmaaDoor.dk Go.Proofs.YtgmgffcfmopgmaaDoor.dr

theorem sizeStepQ : (Tryd.prog.info? 48).map (·.size) = some 4 := by kernel_rfl
theorem LsS.at {W W' : World} {v : Value} {L : List Stp} (h : LsS W v L) (hb : Below W.heap.size W W') (k : Nat) (hk : k < L.length) : ∃ g o cap u, v = .slice (some ⟨g, o, none⟩) L.length cap ∧ W'.rangeAt g (o + k * 4) (stv L[k] u) ∧ Rd W' u L[k].q ∧ (0 < L[k].q.length → ∀ a n c, u = .slice (some a) n c → a.block < W.heap.size) := by
  obtain ⟨oa, cap, rfl, h⟩ := h
  obtain ⟨g, o, rfl, hg, hc⟩ := h (by omega)
  obtain ⟨u, h1, h2⟩ := hc k hk
  refine ⟨g, o, cap, u, rfl, range_block h1 (hb.block g hg), h2.below hb, fun h0 a n c e => ?_⟩
  subst e
  obtain ⟨oa', cap', e', h3⟩ := h2
  cases e'
  obtain ⟨ga, o1, e1, h4, _⟩ := h3 h0
  cases e1
  exact h4
theorem op_plain (D : List UInt8) (r : Nat) : (opS ⟨D, D.length, r, [], false⟩).2 = 0 := by
  unfold opS
  have h : St.reads ⟨D, D.length, r, [], false⟩ = (plain D r, 0) := rfl
  rw [h]
  dsimp only
  rw [if_pos rfl, keep_plain]
/-- the state of the law before its first Open -/
theorem wp_begun {base : Nat} {W0 w w1 : World} {e : Nat → Addr} {p pc : Nat} {F Fc : List Nat} {D : List UInt8} {r : Int} (h1 : Dk w1 p F ⟨D, D.length, roomOf r, [], false⟩) (h2 : Dq w pc Fc ⟨D, [], roomOf r, [], false⟩) (b1 : Below w.heap.size w w1) (hF : ∀ q ∈ F, w.heap.size ≤ q) (hFc : ∀ q ∈ Fc, base ≤ q) (hbw : base ≤ w.heap.size) (hl : Below base W0 w) (he : Er w base e) (hD : D.length ≤ 1048576) : Wp base W0 w1 e p pc F Fc ⟨D, D.length, roomOf r, [], false⟩ 0 :=
  ⟨h1, by rw [sq_begun]; exact h2.below b1, fun q hq => Nat.le_trans hbw (hF q hq), hFc, he.below b1, ⟨⟨Nat.le_refl _, roomOf_le r, by show D.length ≤ _; omega⟩, fun a ha => (by cases ha), fun a ha => (by cases ha)⟩, Nat.le_refl _, fun q hq hm => by have := hF q hq; have := h2.lt q hm; omega, hl.trans (b1.mono hbw), by show D.length ≤ _; omega⟩

set_option maxRecDepth 100000 in
set_option maxHeartbeats 12800000 in
theorem lawPlay (w : World) (vd : Value) (D : List UInt8) (hd : Rd w vd D) (hD : D.length ≤ 1048576) (room : Int) (vs : Value) (L : List Stp) (hs : LsS w vs L) (hL : L.length ≤ 2932031007402) (hq : ∀ s ∈ L, StpOk s) (ht : crcw.Tab w) (e : Nat → Addr) (he : errw.Errs w e) :
    Calls Tryd.prog 7 #[.agg #[vd, .int .i64 room, vs]] w fun r' w' => r' = .returned (.bool true) ∧ Below w.heap.size w w' := by
  obtain ⟨os, cs, rfl, _⟩ : ∃ os cs, vs = .slice os L.length cs ∧ True := by
    obtain ⟨os, cs, h, _⟩ := hs
    exact ⟨os, cs, h, trivial⟩
  obtain ⟨od, cd, hvd⟩ := hd.len
  subst hvd
  obtain ⟨W0, hW0⟩ : ∃ W0, W0 = w.alloc (.cells #[.slice od D.length cd, .int .i64 room, .slice os L.length cs] 44) := ⟨_, rfl⟩
  have hB0 : Below w.heap.size w W0 := by rw [hW0]; exact (Below.refl _ _).alloc (Nat.le_refl _) _
  have hX0 : W0.heap[w.heap.size]? = some (.cells #[.slice od D.length cd, .int .i64 room, .slice os L.length cs] 44) := by rw [hW0]; exact heap_alloc_new _ _
  have hz0 : w.heap.size < W0.heap.size := by rw [hW0]; simp
  have HTE : Hid (∀ Y, Below W0.heap.size W0 Y → crcw.Tab Y) := fun Y hY => (ht.below hB0 ht.lt).below hY (Nat.lt_of_lt_of_le ht.lt hB0.size)
  have HE0 : Hid (Er W0 W0.heap.size e) := er_of (he.below hB0)
  have HLS := hide (hs.below hB0)
  have HQ := hide hq
  have HTL : Hid (13 < W0.heap.size) := Nat.lt_of_lt_of_le ht.lt hB0.size
  have HRX : Hid (∀ Y, Below W0.heap.size W0 Y → Rd Y (.slice od D.length cd) D) := fun Y hY => (hd.below hB0).below hY
  have HX0 := hide hX0
  have HB0 := hide hB0
  have v0 : ∀ X, Below W0.heap.size W0 X → X.cell? ⟨w.heap.size, 0, none⟩ = some (.slice od D.length cd) := fun X hX => cell_of ((hX.block _ hz0).trans hX0) 0
  have v1 : ∀ X, Below W0.heap.size W0 X → X.cell? ⟨w.heap.size, 1, none⟩ = some (.int .i64 room) := fun X hX => cell_of ((hX.block _ hz0).trans hX0) 1
  have HW0 := hide hW0
  clear ht he hs hq hd hB0 hX0 hW0
  go_enter Tryd.func7, Tryd.ntmps7
  go_wp2_with fail
  rw [← HW0.out]
  go_region_held3 (fun X => Below W0.heap.size W0 X)
    (first
      | exact Below.refl _ _
      | assumption
      | exact keepD (by assumption) (by assumption)
      | exact Below.drew (by assumption)
      | exact (Below.refl _ _).drew)
    (first
      | (go_at_call 9; refine (copy_any _ _ D (HRX.out _ (by first | exact Below.refl _ _ | assumption | exact (Below.refl _ _).drew | exact Below.drew (by assumption))) (by omega)).mono ?_; rintro x' w8 ⟨v8, rfl, o8, b8⟩)
      | (go_at_call 32; refine (dopen_any _ _ D room (rd_own (by assumption)) (by omega)).mono ?_; rintro x' w9 ⟨pc, Fc, rfl, d9, f9, b9⟩))
  have hB9 : Below W0.heap.size W0 w9 := by assumption
  have hw8 : W0.heap.size ≤ w8.heap.size := b8.size
  have HC9 := hide d9
  have HF9 : Hid (∀ q ∈ Fc, W0.heap.size ≤ q) := fun q hq => Nat.le_trans hw8 (f9 q hq)
  have HB9 := hide hB9
  have y0 := v0 w9 hB9
  have y1 := v1 w9 hB9
  obtain ⟨o88, c88, rfl⟩ : ∃ o c, v8 = .slice o D.length c := (rd_own o8).len
  have HOP := hide (open_any w9 _ D room (HRX.out w9 hB9) (by omega))
  clear o8 b8 d9 f9 b9 v0 v1 hB9 hw8 HRX
  go_wp2_with fail
  refine HOP.out.mono ?_
  rintro r' w10 ⟨p, F, rfl, d10, f10, b10⟩
  have HWP : Hid (Wp W0.heap.size W0 w10 e p pc F Fc ⟨D, D.length, roomOf room, [], false⟩ 0) := wp_begun d10 HC9.out b10 f10 HF9.out HB9.out.size HB9.out (HE0.out.below HB9.out) hD
  clear d10 f10 b10 HOP HC9 HF9 HB9 y0 y1
  obtain ⟨x, hx⟩ : ∃ x : St, x = ⟨D, D.length, roomOf room, [], false⟩ := ⟨_, rfl⟩
  rw [← hx] at HWP
  have hop0 : (opS x).2 = 0 := by rw [hx]; exact op_plain _ _
  have hxb : x.b.length ≤ 1074790400 := HWP.out.len
  clear hx
  have hj0 : (x.a.length + 1) * 16 ≤ 140737488355328 := Nat.le_trans (Nat.mul_le_mul_right 16 (Nat.succ_le_succ HWP.out.arms)) (by decide)
  have HOA := hide (openP_any w10 W0.heap.size p F x HWP.out.d e HWP.out.er HWP.out.ld HWP.out.fine (HTE.out _ HWP.out.low) HTL.out (by omega))
  have HPS : Hid (∀ q ∈ Wl.scan x.b, q.length ≤ 4611686018427387904) := fun q hq => by have := ((Wl.fit_iff _).1 (Wl.scan_fits x.b q hq)).2; omega
  have HSC := hide (scan_count x.b)
  -- the first Opens
  go_wp2_with fail
  refine HOA.out.mono ?_
  rintro r' w11 (⟨_, g, v, us, F1, rfl, hpo⟩ | ⟨hn0, _, _⟩)
  case inr => exact absurd hop0 hn0
  have HPO := hide hpo
  have HRO := hide (ropen_any w11 pc Fc x (HWP.out.mid hpo.fr) HWP.out.fine hj0 (by omega))
  obtain ⟨ov, cv, hvv⟩ := hpo.row.ls.len
  subst hvv
  clear hpo HOA
  go_wp2_with fail
  refine HRO.out.mono ?_
  rintro r' w12 (⟨_, g', v', us', F2, rfl, hro⟩ | ⟨hn1, _⟩)
  case inr => exact absurd hop0 hn1
  obtain ⟨hl1, hl2, hwp, hlw⟩ := opens_ok HWP.out HPO.out hro
  obtain ⟨ov', cv', hvv⟩ := hl2.len
  subst hvv
  have HSM := hide (same_any w12 _ _ _ hl1 hl2 (by have := HSC.out; omega) HPS.out)
  have HI := hide (PlI.opened (k := 0) hxb hwp hlw)
  clear hro hl1 hl2 hwp hlw HRO HPO HWP HPS hop0 HSC hj0 hxb
  go_wp2_with fail
  refine HSM.out.mono ?_
  rintro r' w13 ⟨rfl, b13⟩
  have HI3 := hide (HI.out.up b13)
  have HN := hide (errw.num_nil w13)
  clear b13 HSM HI
  go_wp2_with (go_at_call 23; refine HN.out.mono ?_; rintro r' w7 ⟨rfl, rfl⟩)
  clear HN
  go_loopw [5, 6, 7, 8, 9, 10, 12] (fun lv gv ev kv wv fv i wr => ∃ k : Nat, k ≤ L.length ∧ i = .int .i64 k ∧ Hid (PlI W0.heap.size W0 wr e p pc k lv kv)) (fun _ _ _ _ _ _ i _ => L.length - (intOf i).toNat)
  case atStart => exact ⟨0, Nat.zero_le _, rfl, HI3⟩
  case round =>
    clear HI3
    obtain ⟨k, hk, rfl, HI⟩ := hrel
    have hBK : Below W0.heap.size W0 wr := HI.out.low
    have x2 : wr.cell? ⟨w.heap.size, 2, none⟩ = some (.slice os L.length cs) := cell_of ((hBK.block _ (by omega)).trans HX0.out) 2
    have HBK := hide hBK
    clear hBK
    by_cases hlt : k < L.length
    · obtain ⟨gs, oo, cs', u, es, hru, hrd, hub⟩ := HLS.out.at HBK.out k hlt
      cases es
      have HOK := hide (HQ.out L[k] (List.getElem_mem hlt))
      have hj : (k + 1) * 16 ≤ 140737488355328 := by omega
      generalize L[k] = s at *
      obtain ⟨xo, xc, hxu⟩ := hrd.len
      subst hxu
      obtain ⟨X1, hX1⟩ : ∃ X1, X1 = wr.alloc (.cells #[.int .i64 s.k, .int .i64 s.n, .int .i64 s.m, .slice xo s.q.length xc] 48) := ⟨_, rfl⟩
      have b1 : Below wr.heap.size wr X1 := by rw [hX1]; exact (Below.refl _ _).alloc (Nat.le_refl _) _
      have hS1 : X1.heap[wr.heap.size]? = some (.cells #[.int .i64 s.k, .int .i64 s.n, .int .i64 s.m, .slice xo s.q.length xc] 48) := by rw [hX1]; exact heap_alloc_new _ _
      have d0 : X1.cell? ⟨wr.heap.size, 0, none⟩ = some (.int .i64 s.k) := cell_of hS1 0
      have d3 : X1.cell? ⟨wr.heap.size, 3, none⟩ = some (.slice xo s.q.length xc) := cell_of hS1 3
      have HS1 := hide hS1
      have HRU := hide hru
      have HRD := hide (hrd.below b1)
      have HUB := hide hub
      have HI1 := hide (HI.out.up b1)
      have HX1 := hide hX1
      have z0 : (0 : Int) ≤ (k : Int) := Int.natCast_nonneg _
      have z1 : (k : Int) < (L.length : Int) := by omega
      have HTB := hide (HTE.out _ HI1.out.low)
      obtain ⟨F, Fc, x, hwp, hlv⟩ := HI1.out.ex
      have HWP := hide hwp
      have HLV := hide hlv
      have hql := HOK.out.1
      unfold reachBytes at hql
      -- what is told behind each step
      have HLK : Hid (∀ (X : World) (lv kv : Value), PlI W0.heap.size W0 X e p pc (k + 1) lv kv → Calls Tryd.prog 38 #[ptr p, ptr pc] X fun r' w' => r' = .returned (.bool true) ∧ PlI W0.heap.size W0 w' e p pc (k + 1) lv kv) := fun X lv kv hX => by
        obtain ⟨F', Fc', x', q1, q2⟩ := hX.ex
        exact (looks_any X p pc F' Fc' x' q1.d q1.c q1.fine).mono fun r' w' h5 => ⟨h5.1, hX.up h5.2⟩
      clear hru hrd hub b1 hS1 hX1 hwp hlv HI
      by_cases k1 : s.k = 1
      · have e1 : (s.k == 1) = true := by rw [k1]; rfl
        clear k1
        rcases HLV.out with ⟨hl0, hl1⟩ | ⟨g, g', n, z, d, hl0, hl1, hlw, hn, hz⟩
        · have HI2 : Hid (PlI W0.heap.size W0 X1 e p pc (k + 1) u5 u8) := HI1.out.later
          have HLA := hide (HLK.out X1 _ _ HI2.out)
          subst hl0 hl1
          go_wp2_with (refine wpList_load_mid rfl 48 (.tmp 68) rfl gs (oo + k * 4) rfl _ _ HRU.out Tryd.underlying48 rfl sizeStepQ ?_)
          rw [← HX1.out]
          go_wp2_with fail
          refine HLA.out.mono ?_
          rintro r' w3 ⟨rfl, h3⟩
          have HI3 := hide h3
          clear h3 HLA HLK
          go_wp2_with fail
          go_roundw
          case rel => exact ⟨k + 1, by omega, by go_num, HI3⟩
          case measure => simp [intOf]; omega
        · have HP := hide (lput_any HWP.out hlw HTB.out _ s.q HRD.out (by omega) hj (by omega) (by omega))
          have HPI : Hid (∀ w', Lpt W0.heap.size W0 e p pc g g' k (Lg.put ⟨x, n, z, d⟩ s.q).1 w' → PlI W0.heap.size W0 w' e p pc (k + 1) (ptr g) (ptr g')) := fun w' h5 => PlI.put hn hz h5
          subst hl0 hl1
          clear hlw hn hz HLV
          go_wp2_with (refine wpList_load_mid rfl 48 (.tmp 68) rfl gs (oo + k * 4) rfl _ _ HRU.out Tryd.underlying48 rfl sizeStepQ ?_)
          rw [← HX1.out]
          go_wp2_with fail
          refine HP.out.mono ?_
          rintro r' w2 ⟨rfl, h2⟩
          have HLA := hide (HLK.out w2 _ _ (HPI.out w2 h2))
          clear h2 HP HPI HLK
          go_wp2_with fail
          refine HLA.out.mono ?_
          rintro r' w3 ⟨rfl, h3⟩
          have HI3 := hide h3
          clear h3 HLA
          go_wp2_with fail
          go_roundw
          case rel => exact ⟨k + 1, by omega, by go_num, HI3⟩
          case measure => simp [intOf]; omega
      have e1 : (s.k == 1) = false := beq_false_of_ne k1
      by_cases k2 : s.k = 2
      · have e2 : (s.k == 2) = true := by rw [k2]; rfl
        clear k1 k2
        have hxb : x.b.length ≤ 1074790400 := HWP.out.len
        have hj0 : (x.a.length + 1) * 16 ≤ 140737488355328 := Nat.le_trans (Nat.mul_le_mul_right 16 (Nat.succ_le_succ HWP.out.arms)) hj
        have HOA := hide (openP_any X1 W0.heap.size p F x HWP.out.d e HWP.out.er HWP.out.ld HWP.out.fine HTB.out HTL.out (by omega))
        have HPS : Hid (∀ q ∈ Wl.scan x.b, q.length ≤ 4611686018427387904) := fun q hq => by have := ((Wl.fit_iff _).1 (Wl.scan_fits x.b q hq)).2; omega
        have HSC := hide (scan_count x.b)
        have HON := hide (op_num x)
        clear HLV HRD HUB
        go_wp2_with (refine wpList_load_mid rfl 48 (.tmp 68) rfl gs (oo + k * 4) rfl _ _ HRU.out Tryd.underlying48 rfl sizeStepQ ?_)
        rw [← HX1.out]
        go_wp2_with fail
        refine HOA.out.mono ?_
        rintro r' w11 (⟨hn0, g, v, us, F1, rfl, hpo⟩ | ⟨hn0, rfl, hmv⟩)
        · have HPO := hide hpo
          have HRO := hide (ropen_any w11 pc Fc x (HWP.out.mid hpo.fr) HWP.out.fine hj0 (by omega))
          obtain ⟨ov, cv, hvv⟩ := hpo.row.ls.len
          subst hvv
          have HN0 := hide hn0
          clear hpo HOA hn0
          go_wp2_with fail
          refine HRO.out.mono ?_
          rintro r' w12 (⟨_, g', v', us', F2, rfl, hro⟩ | ⟨hn1, _⟩)
          case inr => exact absurd HN0.out hn1
          obtain ⟨hl1, hl2, hwp, hlw⟩ := opens_ok HWP.out HPO.out hro
          obtain ⟨ov', cv', hvv⟩ := hl2.len
          subst hvv
          have HSM := hide (same_any w12 _ _ _ hl1 hl2 (by have := HSC.out; omega) HPS.out)
          have HI2 := hide (PlI.opened hxb hwp hlw)
          have HLW := hide hlw
          clear hro hl1 hl2 hwp hlw HRO HPO HPS HON HSC hj0 hxb HN0
          go_wp2_with fail
          refine HSM.out.mono ?_
          rintro r' w13 ⟨rfl, b13⟩
          have HI3 := hide (HI2.out.up b13).later
          have hlw := HLW.out.keep b13
          have HN := hide (errw.num_nil w13)
          have HC1 := hide (count_any w13 g p _ _ _ hlw.lg)
          have HC2 := hide (size_any w13 g p _ _ _ hlw.lg)
          have HC3 := hide (rcount_any w13 g' pc _ _ _ hlw.lr)
          have HC4 := hide (rsize_any w13 g' pc _ _ _ hlw.lr)
          have HLA := hide (HLK.out w13 _ _ HI3.out)
          clear b13 HSM HI2 hlw HLW HLK
          go_wp2_with (first
            | (go_at_call 23; refine HN.out.mono ?_; rintro r' w7 ⟨rfl, rfl⟩)
            | (go_at_call 18; refine HC1.out.mono ?_; rintro r' w7 ⟨rfl, rfl⟩)
            | (go_at_call 19; refine HC2.out.mono ?_; rintro r' w7 ⟨rfl, rfl⟩)
            | (go_at_call 35; refine HC3.out.mono ?_; rintro r' w7 ⟨rfl, rfl⟩)
            | (go_at_call 36; refine HC4.out.mono ?_; rintro r' w7 ⟨rfl, rfl⟩)
            | (go_at_call 38; refine HLA.out.mono ?_; rintro r' w14 ⟨rfl, h14⟩))
          have HI4 := hide h14
          clear h14
          go_roundw
          case rel => exact ⟨k + 1, by omega, by go_num, HI4⟩
          case measure => simp [intOf]; omega
        · have HMV := hide hmv
          have HRO := hide (ropen_any w11 pc Fc x (HWP.out.mid (by obtain ⟨_, _, h5, _⟩ := hmv; exact h5)) HWP.out.fine hj0 (by omega))
          have HN0 := hide hn0
          clear hmv HOA hn0
          go_wp2_with fail
          refine HRO.out.mono ?_
          rintro r' w12 (⟨hn1, _⟩ | ⟨_, rfl, hmq⟩)
          case inl => exact absurd hn1 HN0.out
          obtain ⟨F', Fc', hwp⟩ := opens_no HWP.out HMV.out hmq
          have HSM := hide (same_any w12 _ _ _ (ls_none w12) (ls_none w12) (by decide) (fun q hq => by cases hq))
          have HI2 : Hid (PlI W0.heap.size W0 w12 e p pc k (.pointer none) (.pointer none)) := ⟨F', Fc', _, hwp, Or.inl ⟨rfl, rfl⟩⟩
          have HER := hide hwp.er.errs
          obtain ⟨m, hm⟩ : ∃ m, m = (opS x).2 := ⟨_, rfl⟩
          rw [← hm] at HON ⊢
          clear hm hwp hmq HRO HMV HPS HSC hj0 hxb HN0
          go_wp2_with fail
          refine HSM.out.mono ?_
          rintro r' w13 ⟨rfl, b13⟩
          have HI3 := hide (HI2.out.up b13).later
          have HN := hide (num_four w13 e (HER.out.below b13) m HON.out)
          have HLA := hide (HLK.out w13 _ _ HI3.out)
          clear b13 HSM HI2 HLK HON HER
          go_wp2_with (first
            | (go_at_call 23; refine HN.out.mono ?_; rintro r' w7 ⟨rfl, rfl⟩)
            | (go_at_call 38; refine HLA.out.mono ?_; rintro r' w14 ⟨rfl, h14⟩))
          have HI4 := hide h14
          clear h14
          go_roundw
          case rel => exact ⟨k + 1, by omega, by go_num, HI4⟩
          case measure => simp [intOf]; omega
      · have e2 : (s.k == 2) = false := beq_false_of_ne k2
        clear k1 k2
        have HPW := hide (power_any HWP.out s HOK.out _ HRD.out HUB.out hj)
        have HPI : Hid (∀ w', Pw W0.heap.size W0 X1 e p pc F Fc (pwS x s) (k + 1) w' → PlI W0.heap.size W0 w' e p pc (k + 1) u5 u8) := fun w' h5 => PlI.power HLV.out h5
        have d1 : X1.cell? ⟨wr.heap.size, 1, none⟩ = some (.int .i64 s.n) := cell_of HS1.out 1
        have d2 : X1.cell? ⟨wr.heap.size, 2, none⟩ = some (.int .i64 s.m) := cell_of HS1.out 2
        clear HLV HRD HUB
        go_wp2_with (refine wpList_load_mid rfl 48 (.tmp 68) rfl gs (oo + k * 4) rfl _ _ HRU.out Tryd.underlying48 rfl sizeStepQ ?_)
        rw [← HX1.out]
        go_wp2_with fail
        refine HPW.out.mono ?_
        rintro r' w2 ⟨rfl, h2⟩
        have HLA := hide (HLK.out w2 _ _ (HPI.out w2 h2))
        clear h2 HPW HPI HLK
        go_wp2_with fail
        refine HLA.out.mono ?_
        rintro r' w3 ⟨rfl, h3⟩
        have HI3 := hide h3
        clear h3 HLA
        go_wp2_with fail
        go_roundw
        case rel => exact ⟨k + 1, by omega, by go_num, HI3⟩
        case measure => simp [intOf]; omega
    · obtain rfl : k = L.length := by omega
      have k1 : ¬ ((L.length : Nat) : Int) < ((L.length : Nat) : Int) := by omega
      have HZ : Hid (Below w.heap.size w wr) := HB0.out.trans (HBK.out.mono HB0.out.size)
      go_wp2_with fail
      go_ret
      exact ⟨rfl, HZ.out⟩
end Go.Proofs.YtgmgffcfmopgmaaDoor.wl
