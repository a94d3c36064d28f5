import Derived.Test.YtkamnkldgeaaaaaDoorDrMeth
namespace Go.Proofs.YtkamnkldgeaaaaaDoor.dr
open Go.ChangeShapes Go.WideShapes Go.ChangeAt Go.RowKit Go.Proofs.YtkamnkldgeaaaaaDoor.common Go.Proofs.YtkamnkldgeaaaaaDoor.dk

set_option maxRecDepth 100000 in
/-- an arm is laid behind the others -/
theorem arm_runQ (w : World) (v : Value) (l : List (Nat × Int)) (h : w.ownsRow 0 77 2 v l.length (acs l)) (a b : Int) (n : Nat) (hn : a = (n : Int)) (hb : (l.length + 1) * 16 ≤ 140737488355328) :
    ∃ v' W', (Builtin.append_ #[56, 56] 56 #[v, .slice (some ⟨w.heap.size, 0, none⟩) 1 1]).run Tryd.prog (w.alloc (.cells #[.int .i64 a, .int .i64 b] 77)) = .ok v' W' ∧
      W'.ownsRow 0 77 2 v' (l ++ [(n, b)]).length (acs (l ++ [(n, b)])) ∧ Fr v.ownBlock.toList w W' ∧ (v'.ownBlock = v.ownBlock ∨ ∃ g, v'.ownBlock = some g ∧ w.heap.size ≤ g) := by
  subst hn
  obtain ⟨i0, hi, hz0, hz1, hz2⟩ := info_parts infoM
  have BV : Below w.heap.size w (w.alloc (.cells #[.int .i64 (n : Int), .int .i64 b] 77)) := (Below.refl _ _).alloc (Nat.le_refl _) _
  have hsrc : Src Tryd.prog i0.size 56 (.slice (some ⟨w.heap.size, 0, none⟩) 1 1) 1 [.int .i64 (n : Int), .int .i64 b] (w.alloc (.cells #[.int .i64 (n : Int), .int .i64 b] 77)) :=
    Src.ofSlice _ Tryd.underlying56 _ _ _ _ (by rw [hz1]; rfl) (cells_twoM _ _ _ _) (fun u hu => by
      rcases List.mem_cons.1 hu with rfl | hu
      · rfl
      · rw [List.mem_singleton.1 hu]; rfl)
  have hL1 : l.length + 1 ≤ 8796093022208 := by omega
  have hfit : (l.length + 1 + (l.length + 1) / 4 + 192) * i0.bytes ≤ 281474976710656 := by
    have h2 : l.length + 1 + (l.length + 1) / 4 + 192 ≤ 10995116277952 := by omega
    rw [hz2]
    exact Nat.le_trans (Nat.mul_le_mul_right 16 h2) (by decide)
  have hmx : l.length + 1 ≤ maxLen := by unfold maxLen; omega
  have hO := own_below h BV
  have hbs := BV.size
  generalize w.alloc (.cells #[.int .i64 (n : Int), .int .i64 b] 77) = V at *
  obtain ⟨v', W', h1, h2, h3, h4⟩ := append_src V 0 56 56 77 i0 (.agg #[.int .i64 0, .int .i64 0]) 2 Tryd.underlying56 hi hz0 hz1 rfl v l.length (acs l) hO (.slice (some ⟨w.heap.size, 0, none⟩) 1 1) 1 [.int .i64 (n : Int), .int .i64 b] hsrc rfl hfit hmx (Nat.zero_le _)
  refine ⟨v', W', h1, ?_, (Fr.of BV).trans h3 (fun i hi => Or.inl hi), ?_⟩
  · rw [List.length_append, acs_snoc]
    exact h2
  · rcases h4 with e | ⟨g, e, hg⟩
    · exact Or.inl e
    · exact Or.inr ⟨g, e, Nat.le_trans BV.size hg⟩

set_option maxRecDepth 100000 in
set_option maxHeartbeats 1600000 in
theorem darm_any (w : World) (p : Nat) (F : List Nat) (x : St) (n k : Int) (h : Dq w p F (sq x)) (ha : (x.a.length + 1) * 16 ≤ 140737488355328) :
    Calls Tryd.prog 38 #[ptr p, .int .i64 n, .int .i64 k] w fun r' w' => r' = .returned (.tuple #[]) ∧ Mq w p F (sq (x.arm n k)) w' := by
  obtain ⟨vs, vt, va, rfl, h⟩ := h
  obtain ⟨oa, ca, e, _⟩ := own_slice h.arms
  have c4 : w.cell? ⟨p, 4, none⟩ = some va := cell_of h.cell 4
  have hpl : p < w.heap.size := (Array.getElem?_eq_some_iff.1 h.cell).1
  have hap := h.apt
  have hall : ∀ m : Int, m = (n.toNat : Int) → ∃ v' W', (Builtin.append_ #[56, 56] 56 #[va, .slice (some ⟨w.heap.size, 0, none⟩) 1 1]).run Tryd.prog (w.alloc (.cells #[.int .i64 m, .int .i64 k] 77)) = .ok v' W' ∧ (∃ o c, v' = .slice o (x.a.length + 1) c) ∧ W'.cell? ⟨p, 4, none⟩ = some va ∧ W'.frozen? ⟨p, 4, none⟩ = false ∧ Mq w p (fq p vs vt va) (sq (x.arm n k)) (W'.setCell ⟨p, 4, none⟩ v') := fun m hm => by
    obtain ⟨v', W', h1, h2, h3, h4⟩ := arm_runQ w va x.a h.arms m k n.toNat hm ha
    have hc : W'.heap[p]? = some (.cells (dqc vs vt x.r x.d va) 58) := (h3.block p hpl (fun hm => hap.pa p (by simpa using hm) rfl)).trans h.cell
    have hs : W'.ownsRow 0 5 1 vs (sq x).A.length ((sq x).A.map B) := own_keepK h.safe fun g hg => h3.block g (own_at h.safe g hg).1 (fun hm => hap.sa g hg (by simpa using hm))
    have ht : W'.ownsRow 0 5 1 vt (sq x).T.length ((sq x).T.map B) := own_keepK h.tail fun g hg => h3.block g (own_at h.tail g hg).1 (fun hm => hap.ta g hg (by simpa using hm))
    obtain ⟨o, c, e', _⟩ := own_slice h2
    rw [List.length_append] at e'
    refine ⟨v', W', h1, ⟨o, c, e'⟩, cell_of hc 4, free_of hc 4, fq p vs vt v', ⟨vs, vt, v', rfl, dq_set4 hc v', own_keepK hs fun g hg => set_other _ _ _ _ (hap.ps g hg), own_keepK ht fun g hg => set_other _ _ _ _ (hap.pt g hg), own_keepK h2 fun g hg => set_other _ _ _ _ ?_, h.sep⟩, (h3.mono fun j hj => fq_a (by simpa using hj)).set ⟨p, 4, none⟩ _ (Or.inl (fq_p _ _ _ _)), fun j hj => ?_⟩
    · show g ≠ p
      rcases h4 with e0 | ⟨g', e0, hg'⟩
      · exact hap.pa g (e0 ▸ hg)
      · rw [e0] at hg; cases hg; omega
    · rcases fq_cases hj with rfl | h5 | h5 | h5
      · exact Or.inl (fq_p _ _ _ _)
      · exact Or.inl (fq_s h5)
      · exact Or.inl (fq_t h5)
      · rcases h4 with e0 | ⟨g', e0, hg'⟩
        · exact Or.inl (fq_a (e0 ▸ h5))
        · rw [e0] at h5; cases h5; exact Or.inr hg'
  have e0 : va = .slice oa x.a.length ca := e
  clear h hap e
  subst e0
  by_cases hn : 0 ≤ n
  · obtain ⟨v', W', hrun, ⟨o, c, rfl⟩, d4, f4, hM⟩ := hall n (by omega)
    have HM := hide hM
    have z : ¬ n < 0 := by omega
    clear hM hall
    go_enter Tryd.func38, Tryd.ntmps38
    go_wp2_with (at_builtin; refine wpList_append_run rfl _ _ 56 56 rfl _ _ rfl rfl _ _ hrun ?_)
    go_end0
    exact ⟨rfl, HM.out⟩
  · obtain ⟨v', W', hrun, ⟨o, c, rfl⟩, d4, f4, hM⟩ := hall 0 (by omega)
    have HM := hide hM
    have z : n < 0 := by omega
    clear hM hall
    go_enter Tryd.func38, Tryd.ntmps38
    go_wp2_with (at_builtin; refine wpList_append_run rfl _ _ 56 56 rfl _ _ rfl rfl _ _ hrun ?_)
    go_end0
    exact ⟨rfl, HM.out⟩

set_option maxRecDepth 100000 in
set_option maxHeartbeats 6400000 in
theorem dappend_any (w : World) (p : Nat) (F : List Nat) (x : St) (h : Dq w p F (sq x)) (hx : Fine x) (hb : (x.a.length + 1) * 16 ≤ 140737488355328) (v : Value) (l : List UInt8) (hv : Rd w v l) (hvF : 0 < l.length → ∀ a n c, v = .slice (some a) n c → a.block ∉ F ∧ a.block < w.heap.size) (hl : l.length ≤ 140737488355328) :
    Calls Tryd.prog 11 #[ptr p, v] w fun r' w' => r' = .returned (.int .i64 ((x.append l).2 : Int)) ∧ Mq w p F (sq (x.append l).1) w' := by
  have c3 := h.c3
  have hd : (sq x).d = x.d := rfl
  rw [hd] at c3
  have hmost := hx.ok.most
  have hroom := hx.ok.room
  obtain ⟨ov, cv, rfl⟩ := hv.len
  cases hxd : x.d with
  | true =>
    rw [hxd] at c3
    have HC : Hid (x.append l = (x, 10)) := oper_dead x hxd _ _ _
    have HS := hide (h.stay (Below.refl _ _))
    clear h hd hxd
    go_enter Tryd.func11, Tryd.ntmps11
    go_wp2
    go_ret
    exact ⟨by rw [HC.out]; rfl, by rw [HC.out]; exact HS.out⟩
  | false =>
    rw [hxd] at c3
    have HD := hide (dies_any w p F x h hxd hb hx)
    have HC : Hid (x.append l = if dyB x.a then (((aft x).put l).fail (dyK x.a), 10) else ((aft x).put l, if x.fits l then 0 else 9)) := oper_is x hxd _ _ _
    have hsa : (aft x).s ≤ (aft x).b.length := hx.ok.syn
    have hsl2 := sq_len (aft x) hsa
    have hab : (aft x).b = x.b := rfl
    rw [hab] at hsl2
    have HSA := hide hsa
    have HV := hide hv
    have HVF := hide hvF
    obtain ⟨dy, hdy⟩ : ∃ d, d = dyB x.a := ⟨_, rfl⟩
    rw [← hdy] at HD HC
    have hfa : (aft x).fits l = x.fits l := rfl
    have HFA := hide hfa
    have HAR : Hid ((sq (aft x)).r = x.r) := rfl
    clear h hd hxd hsa hab hv hvF hdy hfa
    go_enter Tryd.func11, Tryd.ntmps11
    go_wp2_with fail
    refine HD.out.mono ?_
    rintro r' w1 ⟨rfl, F1, hD1, hf1, hs1⟩
    have HF1 := hide hf1
    have HS1 := hide hs1
    have HD1 := hide hD1
    obtain ⟨vs, vt, va, rfl, hL⟩ := hD1
    obtain ⟨os, cs, e1, _⟩ := own_slice hL.safe
    obtain ⟨ot, ct, e2, _⟩ := own_slice hL.tail
    have hRd : Rd w1 (.slice ov l.length cv) l := HV.out.keepL (fun h0 a n c ea => hf1.block _ (HVF.out h0 a n c ea).2 (HVF.out h0 a n c ea).1) hf1.size
    have c0 : w1.cell? ⟨p, 0, none⟩ = some vs := cell_of hL.cell 0
    have c1 : w1.cell? ⟨p, 1, none⟩ = some vt := cell_of hL.cell 1
    have c2 : w1.cell? ⟨p, 2, none⟩ = some (.int .i64 (x.r : Int)) := cell_of hL.cell 2
    obtain ⟨NA, hNA⟩ : ∃ N, N = (sq (aft x)).A.length := ⟨_, rfl⟩
    obtain ⟨NT, hNT⟩ : ∃ N, N = (sq (aft x)).T.length := ⟨_, rfl⟩
    rw [← hNA, ← hNT] at hsl2
    have hbl : NA + NT = x.b.length := hsl2.1
    rw [← hNA] at e1
    have hfit : x.fits l = decide (x.b.length + l.length ≤ x.r) := rfl
    by_cases hf : x.b.length + l.length ≤ x.r
    · have hft : x.fits l = true := by rw [hfit]; exact decide_eq_true hf
      have z1 : (NA : Int) + (NT : Int) + (l.length : Int) ≤ (x.r : Int) := by omega
      have z1' : decide ((NA : Int) + (NT : Int) + (l.length : Int) ≤ (x.r : Int)) = true := decide_eq_true z1
      obtain ⟨nn, hnn⟩ : ∃ f : Nat → World, f = fun n => w1.drewN n := ⟨_, rfl⟩
      have HAP : Hid (∀ n, ∃ v' W', (Builtin.append_ #[25, 25] 25 #[vt, .slice ov l.length cv]).run Tryd.prog (w1.drewN n) = .ok v' W' ∧ (∃ o c, v' = .slice o (NT + l.length) c) ∧ W'.frozen? ⟨p, 1, none⟩ = false ∧ W'.cell? ⟨p, 1, none⟩ = some vt ∧ Mq w1 p (fq p vs vt va) (sq ((aft x).put l)) (W'.setCell ⟨p, 1, none⟩ v')) := fun n => by
        have bN : Below w1.heap.size w1 (w1.drewN n) := (Fr.refl [] w1 |>.drewN n).below (fun k hk => by cases hk) (Nat.le_refl _)
        obtain ⟨v', W', h1, h2, h3, h4⟩ := append_rd (w1.drewN n) 0 vt (sq (aft x)).T (own_below hL.tail bN) ov cv l (hRd.below bN) (by omega) (Nat.zero_le _)
        obtain ⟨g1, g2, g3⟩ := hL.growT bN h2 h3 h4
        obtain ⟨o, c, e5, _⟩ := own_slice h2
        rw [List.length_append, ← hNT] at e5
        refine ⟨v', W', h1, ⟨o, c, e5⟩, g1, g2, ?_⟩
        rw [put_sq _ _ HSA.out (by rw [HFA.out]; exact hft)]
        exact g3
      have HPS : Hid (((aft x).put l).s ≤ ((aft x).put l).b.length ∧ ((aft x).put l).b.length ≤ 140737488355328) := by
        unfold St.put
        rw [if_pos (by rw [HFA.out]; exact hft)]
        refine ⟨?_, ?_⟩
        · show (aft x).s ≤ ((aft x).b ++ l).length
          have := HSA.out
          rw [List.length_append]; omega
        · show (x.b ++ l).length ≤ _
          rw [List.length_append]; omega
      have HFT := hide hft
      rw [← hNT] at e2
      clear hf1 hs1 HD hL hRd hnn hNA hNT hsl2 hfit hft hf HV HVF
      subst e1 e2
      go_wp2_with fail
      go_quiet (fail)
      obtain ⟨v', W', hrun, ⟨o', c', rfl⟩, f1', c1', hM⟩ := HAP.out nq
      have HM := hide hM
      clear hM HAP
      cases dy with
      | true =>
        go_wp2_with (first | (at_builtin; refine wpList_append_run rfl _ _ 25 25 rfl _ _ rfl rfl _ _ hrun ?_))
        obtain ⟨F2, hD2, hf2, hs2⟩ := HM.out
        have HFL := hide (fail_any _ p F2 (sq ((aft x).put l)) (dyK x.a) hD2 (by have := sq_len _ HPS.out.1; have := HPS.out.2; omega))
        rw [← fail_sq _ _ HPS.out.1] at HFL
        have HF2 := hide hf2
        have HS2 := hide hs2
        clear hD2 hf2 hs2 HM
        refine HFL.out.mono ?_
        rintro r' w3 ⟨rfl, hm⟩
        have HZ := hide (Mq.trans HF1.out HS1.out (Mq.trans HF2.out HS2.out hm))
        clear hm HFL
        go_wp2
        go_ret
        exact ⟨by rw [HC.out]; rfl, by rw [HC.out]; exact HZ.out⟩
      | false =>
        go_wp2_with (first | (at_builtin; refine wpList_append_run rfl _ _ 25 25 rfl _ _ rfl rfl _ _ hrun ?_))
        go_ret
        exact ⟨by rw [HC.out, HFT.out]; rfl, by rw [HC.out]; exact Mq.trans HF1.out HS1.out HM.out⟩
    · have hft : x.fits l = false := by rw [hfit]; exact decide_eq_false hf
      have z1 : ¬ (NA : Int) + (NT : Int) + (l.length : Int) ≤ (x.r : Int) := by omega
      have z1' : decide ((NA : Int) + (NT : Int) + (l.length : Int) ≤ (x.r : Int)) = false := decide_eq_false z1
      have HPN : Hid ((aft x).put l = aft x) := put_no _ _ (by rw [HFA.out]; exact hft)
      have HFT := hide hft
      rw [← hNT] at e2
      have hAl : (sq (aft x)).A.length + (sq (aft x)).T.length ≤ 140737488355328 := by rw [← hNA, ← hNT]; omega
      have HAL := hide hAl
      clear hf1 hs1 HD hL hRd hNA hNT hsl2 hfit hft hf HV HVF hAl
      subst e1 e2
      go_wp2_with fail
      go_quiet (fail)
      have HDN : Hid (Dq (w1.drewN nq) p _ (sq (aft x))) := HD1.out.below ((Fr.refl [] w1 |>.drewN nq).below (fun k hk => by cases hk) (Nat.le_refl _))
      cases dy with
      | true =>
        have HFL := hide (fail_any _ p _ (sq (aft x)) (dyK x.a) HDN.out HAL.out)
        rw [← fail_sq _ _ HSA.out] at HFL
        go_wp2_with fail
        refine HFL.out.mono ?_
        rintro r' w3 ⟨rfl, hm⟩
        have HZ := hide (Mq.trans (HF1.out.drewN nq) HS1.out hm)
        clear hm HFL
        go_wp2
        go_ret
        exact ⟨by rw [HC.out]; rfl, by rw [HC.out, HPN.out]; exact HZ.out⟩
      | false =>
        go_wp2
        go_ret
        exact ⟨by rw [HC.out, HFT.out]; rfl, by rw [HC.out, HPN.out]; exact ⟨_, HDN.out, HF1.out.drewN nq, HS1.out⟩⟩
end Go.Proofs.YtkamnkldgeaaaaaDoor.dr
