import Derived.Test.YtioemcikmaidoaaDoorWlCall
import Derived.Test.YtioemcikmaidoaaDoorWlScan
import Derived.Test.YtioemcikmaidoaaDoorPickWalk
namespace Go.Proofs.YtioemcikmaidoaaDoor.wl
open Go.ChangeShapes Go.WideShapes Go.ChangeAt Go.RowKit Go.Proofs.YtioemcikmaidoaaDoor.common Go.Proofs.YtioemcikmaidoaaDoor.dk

def roundOf (M : Nat) (W : World) : Nat := match W.cell? ⟨M + 3, 0, none⟩ with
  | some (.int _ x) => x.toNat
  | _ => 0
theorem round_eq {W : World} {M k ρ st : Nat} {ov : Bool} (h : Dy W M ov k ρ st) : roundOf M W = ρ := by
  unfold roundOf
  rw [(bx_cell h.r).1]
  simp
theorem eql_func (fn : Fn) (lb : Array Value) (W : World) : (binOp .eql 42 (.func fn #[] lb) .nilFunc).run Tryd.prog W = .ok (.bool false) W := by
  have h : (Op.equalIn (9999 + 1) 42 (.func fn #[] lb) .nilFunc).run Tryd.prog W = .ok false W := by
    rw [Op.equalIn]
    simp only [Sem.run_bind, run_underlying Tryd.underlying42, Result.andThen_ok]
    rfl
  simp only [binOp]
  simp only [Op.equal, Op.maxDepth, Sem.run_bind]
  rw [show (10000 : Nat) = 9999 + 1 from rfl, h]
  rfl
abbrev FL (M : Nat) : List Nat := [M + 2, M + 3, M + 4]
set_option maxRecDepth 100000 in
set_option maxHeartbeats 1600000 in
theorem lawFrames (w : World) (vD : Value) (sp : Int) (l : List UInt8) (h : Rc w vD l) (hl : l.length ≤ 1048576) (hs0 : -9223372036854775808 ≤ sp) (hs1 : sp ≤ 9223372036854775807) (ht : crcw.Tab w) :
    Calls Tryd.prog 4 #[.agg #[vD, .int .i64 sp]] w fun e w' => e = .returned (.bool true) ∧ Below w.heap.size w w' := by
  have HR := hide h
  have HTE : Hid (∀ Y, Below w.heap.size w Y → crcw.Tab Y) := fun Y hY => ht.below hY ht.lt
  have HTL := hide ht.lt
  obtain ⟨oD, cD, rfl, _, hdb⟩ := h
  have HDB : Hid (0 < l.length → ∀ a m c, Value.slice oD l.length cD = .slice (some a) m c → a.block < w.heap.size) := fun h0 a m c e => by
    obtain ⟨g, o, e2, hg, _⟩ := hdb h0
    rw [e2] at e
    cases e
    exact hg
  obtain ⟨S, hS⟩ : ∃ S, S = Wl.scan l := ⟨_, rfl⟩
  have hfit : ∀ q ∈ S, Wl.fit q.length = true := by rw [hS]; exact Wl.scan_fits l
  have hge := flat_ge S hfit
  have hgl : (Wl.flat S).length ≤ l.length := by rw [hS]; exact Wl.good_le l
  have hSn : S.length ≤ 1048576 := by omega
  have HFIT := hide hfit
  have HSS := hide hS
  clear ht hdb hfit hS
  go_enter Tryd.func4, Tryd.ntmps4
  go_wp2_with fail
  obtain ⟨W0, hW0⟩ : ∃ W0, W0 = w.alloc (.cells #[.slice oD l.length cD, .int .i64 sp] 34) := ⟨_, rfl⟩
  have hB0 : Below w.heap.size w W0 := by rw [hW0]; exact (Below.refl _ _).alloc (Nat.le_refl _) _
  have hX0 : W0.heap[w.heap.size]? = some (.cells #[.slice oD l.length cD, .int .i64 sp] 34) := by rw [hW0]; exact heap_alloc_new _ _
  have hz0 : w.heap.size < W0.heap.size := by rw [hW0]; simp
  rw [← hW0]
  clear hW0
  refine (copy_any W0 _ l (HR.out.below hB0).rd (by omega)).mono ?_
  rintro r w1 ⟨v1, rfl, h1, b1⟩
  have H1 := hide (ow_of h1)
  have HB1 : Hid (Below w.heap.size w w1) := keepD hB0 b1
  have HX1 := hide ((b1.block _ hz0).trans hX0)
  obtain ⟨o1, c1, rfl⟩ := (rd_own h1).len
  clear h1 b1 hB0 hX0
  go_wp2_with fail
  refine (ends_any w1 _ l (rc_own H1.out.1) (by omega)).mono ?_
  rintro r w2 ⟨ve, rfl, he, b2⟩
  rw [← HSS.out] at he
  obtain ⟨oE, cE, rfl⟩ : ∃ oE cE, ve = .slice oE S.length cE := by
    rcases he.2 with ⟨rfl, h0⟩ | ⟨g, c, cur, rfl, _⟩
    · exact ⟨none, 0, by rw [← h0, en_len]⟩
    · exact ⟨_, c, by rw [en_len]⟩
  have HE2 := hide he
  have HB12 := hide b2
  clear he b2
  go_wp2_with fail
  obtain ⟨W3, hW3⟩ : ∃ W3, W3 = w2.alloc (.cells #[.slice oE S.length cE] 35) := ⟨_, rfl⟩
  have hb23 : Below w2.heap.size w2 W3 := by rw [hW3]; exact (Below.refl _ _).alloc (Nat.le_refl _) _
  have hX3 : W3.heap[w2.heap.size]? = some (.cells #[.slice oE S.length cE] 35 (0, 0)) := by rw [hW3]; exact heap_alloc_new _ _
  have hz3 : W3.heap.size = w2.heap.size + 1 := by rw [hW3]; simp
  rw [← hW3]
  have HB13 := hide (keepD HB12.out hb23)
  refine (refScan_any W3 _ l (rc_own ((H1.out.below HB13.out).1)) (by omega)).mono ?_
  rintro r w4 ⟨vw, rfl, hlw, b4⟩
  rw [← HSS.out] at hlw
  have HB14 := hide (keepD HB13.out b4)
  have HX4 := hide ((b4.block _ (by omega)).trans hX3)
  have HE4 := hide (own_below (own_below HE2.out hb23) b4)
  have hz4 : w2.heap.size < w4.heap.size := (Array.getElem?_eq_some_iff.1 HX4.out).1
  have HLW := hide hlw
  obtain ⟨oW, cW, hvw⟩ := hlw.len
  subst hvw
  clear hW3 hb23 hX3 hlw b4
  obtain ⟨W5, hW5⟩ : ∃ W5, w4.alloc (.cells #[.slice oW S.length cW] 37) = W5 := ⟨_, rfl⟩
  have hb45 : Below w4.heap.size w4 W5 := by rw [← hW5]; exact (Below.refl _ _).alloc (Nat.le_refl _) _
  have hX5 : W5.heap[w4.heap.size]? = some (.cells #[.slice oW S.length cW] 37 (0, 0)) := by rw [← hW5]; exact heap_alloc_new _ _
  have hz5 : W5.heap.size = w4.heap.size + 1 := by rw [← hW5]; simp
  have HB15 := hide (keepD HB14.out hb45)
  have hw1 : w.heap.size < w1.heap.size := (Array.getElem?_eq_some_iff.1 HX1.out).1
  have HX5w := hide ((HB15.out.block _ hw1).trans HX1.out)
  have x1 : W5.cell? ⟨w.heap.size, 1, none⟩ = some (.int .i64 sp) := cell_of HX5w.out 1
  have x0 : W5.cell? ⟨w2.heap.size, 0, none⟩ = some (.slice oE S.length cE) := cell_of ((hb45.block _ hz4).trans HX4.out) 0
  have hpb := kitw.pick_bounds sp ((S.length : Int) + 2)
  obtain ⟨c, hc⟩ : ∃ c : Nat, kitw.pick sp ((S.length : Int) + 2) = (c : Int) := ⟨(kitw.pick sp ((S.length : Int) + 2)).toNat, by omega⟩
  have hcl : c ≤ S.length + 1 := by have := hpb.2 (by omega); omega
  have HPK := hide (kitw.pick_any sp ((S.length : Int) + 2) W5 (by omega) (by omega) hs0 hs1)
  rw [hc] at HPK
  clear hpb hc
  go_wp2_with fail
  refine HPK.out.mono ?_
  rintro r w5' ⟨rfl, hw5'⟩
  subst hw5'
  obtain ⟨M, hM⟩ : ∃ M, w5'.heap.size = M := ⟨_, rfl⟩
  have hMw : w4.heap.size < M := by omega
  have h2M : w2.heap.size < M := by omega
  have h1M : w.heap.size < M := by have := HB15.out.size; omega
  have HZ5 := hide hz5
  clear hz5 hz3
  obtain ⟨W6, hW6⟩ : ∃ W6, w5'.alloc (.cells #[.int .i64 (c : Int)] 3) = W6 := ⟨_, rfl⟩
  have hz6 : W6.heap.size = M + 1 := by rw [← hW6]; simp [hM]
  have hb56 : Below w5'.heap.size w5' W6 := by rw [← hW6]; exact (Below.refl _ _).alloc (Nat.le_refl _) _
  have y6 : W6.cell? ⟨w.heap.size, 0, none⟩ = some (.slice oD l.length cD) := cell_of ((hb56.block _ (by omega)).trans HX5w.out) 0
  have d6 : W6.heap[M]? = some (.cells #[I c] 3 (0, 0)) := by rw [← hW6, ← hM]; exact heap_alloc_new _ _
  clear HPK x0 x1
  go_wp2_with fail
  refine (frames_any oD l.length cD W6).mono ?_
  rintro r w7 ⟨rfl, hw7⟩
  have hz7 : w7.heap.size = M + 2 := by rw [hw7]; simp [hz6]
  have hb67 : Below W6.heap.size W6 w7 := by rw [hw7]; exact (Below.refl _ _).alloc (Nat.le_refl _) _
  have d7 : w7.heap[M + 1]? = some (.cells #[.slice oD l.length cD] 22 (0, 0)) := by rw [hw7, ← hz6]; exact heap_alloc_new _ _
  obtain ⟨W8, hW8⟩ : ∃ W8, w7.alloc (.cells #[.int .i64 0] 3) = W8 := ⟨_, rfl⟩
  obtain ⟨W9, hW9⟩ : ∃ W9, W8.alloc (.cells #[.int .i64 0] 3) = W9 := ⟨_, rfl⟩
  obtain ⟨W10, hW10⟩ : ∃ W10, W9.alloc (.cells #[.bool false] 4) = W10 := ⟨_, rfl⟩
  obtain ⟨W11, hW11⟩ : ∃ W11, W10.alloc (.cells #[.bool false] 4) = W11 := ⟨_, rfl⟩
  have hz8 : W8.heap.size = M + 3 := by rw [← hW8]; simp [hz7]
  have hz9 : W9.heap.size = M + 4 := by rw [← hW9]; simp [hz8]
  have hz10 : W10.heap.size = M + 5 := by rw [← hW10]; simp [hz9]
  have hz11 : W11.heap.size = M + 6 := by rw [← hW11]; simp [hz10]
  have hb8 : Below w7.heap.size w7 W8 := by rw [← hW8]; exact (Below.refl _ _).alloc (Nat.le_refl _) _
  have hb9 : Below W8.heap.size W8 W9 := by rw [← hW9]; exact (Below.refl _ _).alloc (Nat.le_refl _) _
  have hb10 : Below W9.heap.size W9 W10 := by rw [← hW10]; exact (Below.refl _ _).alloc (Nat.le_refl _) _
  have hb11 : Below W10.heap.size W10 W11 := by rw [← hW11]; exact (Below.refl _ _).alloc (Nat.le_refl _) _
  have d8 : W8.heap[M + 2]? = some (.cells #[I 0] 3 (0, 0)) := by rw [← hW8, ← hz7]; exact heap_alloc_new _ _
  have d9 : W9.heap[M + 3]? = some (.cells #[I 0] 3 (0, 0)) := by rw [← hW9, ← hz8]; exact heap_alloc_new _ _
  have d10 : W10.heap[M + 4]? = some (.cells #[.bool false] 4 (0, 0)) := by rw [← hW10, ← hz9]; exact heap_alloc_new _ _
  have d11 : W11.heap[M + 5]? = some (.cells #[.bool false] 4 (0, 0)) := by rw [← hW11, ← hz10]; exact heap_alloc_new _ _
  have b79 := keepD hb8 hb9
  have b711 := keepD b79 (keepD hb10 hb11)
  have b6 : Below W6.heap.size W6 W11 := keepD hb67 b711
  have HDY : Hid (Dy W11 M false 0 0 c) := ⟨(b6.block _ (by omega)).trans d6, ((keepD hb9 (keepD hb10 hb11)).block _ (by omega)).trans d8, ((keepD hb10 hb11).block _ (by omega)).trans d9, (hb11.block _ (by omega)).trans d10, d11⟩
  have HBD : Hid (W11.heap[M + 1]? = some (.cells #[.slice oD l.length cD] 22 (0, 0))) := (b711.block _ (by omega)).trans d7
  have hb5 : Below w5'.heap.size w5' W11 := keepD hb56 b6
  have HB4b : Hid (Below w4.heap.size w4 W11) := keepD hb45 hb5
  have HB1b : Hid (Below w1.heap.size w1 W11) := keepD HB14.out HB4b.out
  have HBW : Hid (W11.heap[w4.heap.size]? = some (.cells #[.slice oW S.length cW] 37 (0, 0))) := (hb5.block _ (by omega)).trans hX5
  have hw4s : w1.heap.size ≤ w4.heap.size := HB14.out.size
  clear hb8 hb9 hb10 hb11 d6 d7 d8 d9 d10 d11 b79 b711 b6 hb5 hb67 hb56 hb45 hX5 HX5w
  have HST : Hid (∀ A, Fr (FL M) W11 A → A.cell? ⟨w2.heap.size, 0, none⟩ = some (.slice oE S.length cE) ∧ A.cell? ⟨w4.heap.size, 0, none⟩ = some (.slice oW S.length cW) ∧ A.ownsRow 0 3 1 (.slice oE S.length cE) (en S).length ((en S).map I) ∧ Ls A (.slice oW S.length cW) S ∧ Below w1.heap.size w1 A ∧ Below w.heap.size w A ∧ A.heap[M + 1]? = some (.cells #[.slice oD l.length cD] 22 (0, 0)) ∧ M + 6 ≤ A.heap.size) := fun A hA => by
    have hb4 : Below w4.heap.size w4 A := HB4b.out.trans (hA.below (fun k hk => by simp at hk; omega) HB4b.out.size)
    have hb1 : Below w1.heap.size w1 A := keepD HB14.out hb4
    refine ⟨cell_of ((hb4.block _ hz4).trans HX4.out) 0, cell_of ((hA.block _ (by omega) (by simp; omega)).trans HBW.out) 0, own_mono' (own_below HE4.out hb4) (Nat.zero_le _), HLW.out.below hb4, hb1, keepD HB1.out hb1, (hA.block _ (by omega) (by simp)).trans HBD.out, by have := hA.size; omega⟩
  clear HE2 HX4 HLW HBW HBD HE4 y6
  have HM6 := hide hz11
  have hw7' := hw7.symm
  clear hw7
  have hef := eql_func (.func 25) #[.pointer (some ⟨M + 1, 0, none⟩)] w7
  have HW8 := hide hW8
  have HW9 := hide hW9
  have HW10 := hide hW10
  have HW11 := hide hW11
  clear hW8 hW9 hW10 hW11 hz8 hz9 hz10 hz11
  go_wp2_with fail
  rw [HW8.out, HW9.out, HW10.out, HW11.out, show M + 2 + 1 = M + 3 from rfl, show M + 3 + 1 = M + 4 from rfl, show M + 4 + 1 = M + 5 from rfl]
  go_loopw [40] (fun _ wr => ∃ (ρ k : Nat) (ov : Bool), ρ ≤ 2 ∧ Dy wr M ov k ρ c ∧ Fr (FL M) W11 wr) (fun _ wr => 2 - roundOf M wr)
  case atStart => exact ⟨0, 0, false, by decide, HDY.out, Fr.refl _ _⟩
  case round =>
    obtain ⟨ρ, k, ov, hρ, hdy, hfr⟩ := hrel
    have e3 := (bx_cell hdy.r).1
    have HRO := hide (round_eq hdy)
    by_cases h2 : ρ < 2
    · have q2 := bx_cell hdy.n
      have q2c := q2.1
      have q2f := q2.2
      have q4 := bx_cell (hdy.setN 0).o
      have q4c : (wr.setCell ⟨M + 2, 0, none⟩ (.int .i64 0)).cell? ⟨M + 4, 0, none⟩ = some (.bool ov) := q4.1
      have q4f : (wr.setCell ⟨M + 2, 0, none⟩ (.int .i64 0)).frozen? ⟨M + 4, 0, none⟩ = false := q4.2
      have HD12 := hide ((hdy.setN 0).setO false)
      have HF12 := hide ((hfr.set ⟨M + 2, 0, none⟩ (I 0) (Or.inl (by simp))).set ⟨M + 4, 0, none⟩ (.bool false) (Or.inl (by simp)))
      obtain ⟨W12, hW12⟩ : ∃ W12, W12 = (wr.setCell ⟨M + 2, 0, none⟩ (I 0)).setCell ⟨M + 4, 0, none⟩ (.bool false) := ⟨_, rfl⟩
      have l2 : (ρ : Int) < 2 := by omega
      have l2d : decide ((ρ : Int) < 2) = true := by rw [decide_eq_true_eq]; exact l2
      clear hdy hfr q2 q4
      go_wp2_with fail
      change Calls _ _ _ ((wr.setCell ⟨M + 2, 0, none⟩ (I 0)).setCell ⟨M + 4, 0, none⟩ (.bool false)) _
      rw [← hW12] at HD12 HF12 ⊢
      clear hW12 q2c q2f q4c q4f e3
      obtain ⟨s1, s2, s3, s4, s5, s6, s7, s8⟩ := HST.out W12 HF12.out
      have HZ11 : Hid (W11.heap.size = M + 6) := HM6.out
      refine (frames_call _ _ _ _ _ _ _ M (M + 1) W12.heap.size l (by omega) (.slice oD l.length cD) W12 s7 (HR.out.below s6) (fun h0 a m c e => Nat.lt_trans (HDB.out h0 a m c e) h1M) (HTE.out _ s6) (Nat.lt_trans HTL.out h1M) (Nat.le_refl _) (by omega)
        (fun pre A => Dy A M false pre.length ρ c ∧ Fr (FL M) W11 A ∧ W12.heap.size ≤ A.heap.size) (fun pre A => Dy A M true pre.length ρ c ∧ Fr (FL M) W11 A ∧ ρ = 0 ∧ pre.length = c)
        (fun pre A A' hJ hb => ⟨hJ.1.keep (fun j _ h2 => hb.block j (by have := hJ.1.size; omega)), hJ.2.1.next hb, Nat.le_trans hJ.2.2 hb.size⟩) ?_ ⟨HD12.out, HF12.out, Nat.le_refl _⟩).mono ?_
      · rintro pre x A ⟨hd, hf, hsz⟩ hkp hpre ⟨_, hxe, hnw, _, hxg, hxf⟩
        rw [← HSS.out] at hpre
        obtain ⟨t1, t2, t3, t4, _⟩ := HST.out A hf
        have hlen : pre.length + 1 ≤ S.length := by
          have := hpre.length_le
          simpa [ps] using this
        have htk : S.take (pre.length + 1) = ps (pre ++ [x]) := by
          have h1 := List.prefix_iff_eq_take.1 hpre
          rw [h1]
          simp [ps]
        have hxp : x.p = S[pre.length]'(by omega) := by
          have h1 : (S.take (pre.length + 1))[pre.length]? = some x.p := by rw [htk]; simp [ps]
          rw [List.getElem?_take, if_pos (by omega), List.getElem?_eq_getElem (by omega)] at h1
          exact (Option.some.inj h1).symm
        have hxl := ((Wl.fit_iff _).1 hxf).2
        have hea := each_any A M w2.heap.size w4.heap.size S _ _ pre.length ρ c x.g x.p (by omega) hSn hxp hxl (by omega) t1 t2 t3 t4 hd hnw (by omega) (by omega) (by omega)
        rw [htk, ← hxe] at hea
        refine hea.mono ?_
        rintro e A' ⟨he, hd', hf'⟩
        have hfr' : Fr (FL M) W11 A' := hf.trans hf' (fun i hi => by
          simp at hi
          rcases hi with rfl | rfl | rfl
          · exact Or.inl (by simp)
          · exact Or.inl (by simp)
          · exact Or.inr (by have := HZ11.out; omega))
        have hl' : (pre ++ [x]).length = pre.length + 1 := by simp
        cases hov : (decide (ρ = 0) && decide (pre.length + 1 = c)) with
        | false =>
          rw [hov] at he hd'
          refine Or.inl ⟨he, ⟨by rw [hl']; exact hd', hfr', Nat.le_trans hsz hf'.size⟩, hf'.size, fun k hk => hf'.block k (by have := hd.size; omega) (by simp; omega)⟩
        | true =>
          rw [hov] at he hd'
          have h3 := Bool.and_eq_true_iff.1 hov
          exact Or.inr ⟨he, by rw [hl']; exact hd', hfr', of_decide_eq_true h3.1, by rw [hl']; exact of_decide_eq_true h3.2⟩
      rintro r W13 ⟨rfl, (⟨xs, hps, hd, hf, _⟩ | ⟨pre, hd, hf, hr0, hpc⟩)⟩
      · have hxl : xs.length = S.length := by
          have h1 := congrArg List.length hps
          rw [← HSS.out] at h1
          simpa [ps] using h1
        rw [hxl] at hd
        obtain ⟨t1, t2, t3, t4, t5, t6, t7, t8⟩ := HST.out W13 hf
        have p1 := (bx_cell hd.b).1
        have p2 := (bx_cell hd.n).1
        have p3 := (bx_cell hd.r).1
        have p3f := (bx_cell hd.r).2
        have p4 := (bx_cell hd.s).1
        have HDR := hide (hd.setR (ρ + 1))
        have HFF := hide (hf.set ⟨M + 3, 0, none⟩ (I (ρ + 1)) (Or.inl (by simp)))
        have HT1 := hide t1
        clear hd hf hps hxl t2 t3 t4 t5 t6 t7 t8 s1 s2 s3 s4 s5 s6 s7 s8 HD12 HF12
        go_wp2_with fail
        go_roundw
        case rel => exact ⟨ρ + 1, _, _, by omega, HDR.out, HFF.out⟩
        case measure =>
          have h1 := round_eq HDR.out
          have h2' : roundOf M (W13.setCell ⟨M + 3, 0, none⟩ (.int .i64 ((ρ : Int) + 1))) = ρ + 1 := h1
          rw [h2', HRO.out]
          omega
      · subst hr0
        rw [hpc] at hd
        obtain ⟨t1, t2, t3, t4, t5, t6, t7, t8⟩ := HST.out W13 hf
        have p1 := (bx_cell hd.b).1
        have p2 := (bx_cell hd.n).1
        have p3 := (bx_cell hd.r).1
        have p3f := (bx_cell hd.r).2
        have p4 := (bx_cell hd.s).1
        have HDR := hide (hd.setR (0 + 1))
        have HFF := hide (hf.set ⟨M + 3, 0, none⟩ (I (0 + 1)) (Or.inl (by simp)))
        have HT1 := hide t1
        clear hd hf hpc t2 t3 t4 t5 t6 t7 t8 s1 s2 s3 s4 s5 s6 s7 s8 HD12 HF12
        by_cases hcS : c = S.length
        · have qq : ((c : Int) != (S.length : Int)) = false := by rw [hcS]; simp
          clear hcS
          go_wp2_with fail
          go_roundw
          case rel => exact ⟨0 + 1, _, _, by omega, HDR.out, HFF.out⟩
          case measure =>
            have h1 := round_eq HDR.out
            have h2' : roundOf M (W13.setCell ⟨M + 3, 0, none⟩ (.int .i64 1)) = 0 + 1 := h1
            rw [h2', HRO.out]
            omega
        · have qq : ((c : Int) != (S.length : Int)) = true := by rw [bne_iff_ne]; omega
          clear hcS
          go_wp2_with fail
          go_roundw
          case rel => exact ⟨0 + 1, _, _, by omega, HDR.out, HFF.out⟩
          case measure =>
            have h1 := round_eq HDR.out
            have h2' : roundOf M (W13.setCell ⟨M + 3, 0, none⟩ (.int .i64 1)) = 0 + 1 := h1
            rw [h2', HRO.out]
            omega
    · obtain rfl : ρ = 2 := by omega
      obtain ⟨s1, s2, s3, s4, s5, s6, s7, s8⟩ := HST.out wr hfr
      have hw1' : w.heap.size < w1.heap.size := by omega
      have y0 : wr.cell? ⟨w.heap.size, 0, none⟩ = some (.slice oD l.length cD) := cell_of ((s5.block _ hw1').trans HX1.out) 0
      have HSB := hide (sameBytes_eq wr (.slice oD l.length cD) (.slice o1 l.length c1) l (HR.out.below s6).rd (H1.out.below s5).rd (by omega))
      have HS6 := hide s6
      clear hdy hfr s1 s2 s3 s4 s5 s6 s7 s8
      go_wp2_with fail
      refine HSB.out.mono ?_
      rintro r w20 ⟨rfl, b20⟩
      have HB20 : Hid (Below w.heap.size w w20) := HS6.out.trans (b20.mono HS6.out.size)
      clear b20
      go_wp2_with fail
      go_ret
      exact ⟨rfl, HB20.out⟩
end Go.Proofs.YtioemcikmaidoaaDoor.wl
