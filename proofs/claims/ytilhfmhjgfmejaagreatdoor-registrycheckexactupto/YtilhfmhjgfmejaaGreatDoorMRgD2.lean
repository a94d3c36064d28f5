import Derived.Test.YtilhfmhjgfmejaaGreatDoorMRgD1
namespace Go.Proofs.YtilhfmhjgfmejaaGreatDoor.rg
open Go.ChangeShapes Go.WideShapes Go.ChangeAt Go.RowKit Go.Proofs.YtilhfmhjgfmejaaGreatDoor.common Go.Maps
attribute [local go_sem ↓] Go.wp_at_zero Go.wp_at_succ

theorem wrap_sub (k m : Nat) (h : k = m + 1) (hk : k ≤ 4611686018427387904) : IntKind.i64.wrap ((k : Int) - 1) = (m : Int) := by rw [IntKind.wrap_i64]; omega
theorem refR (s : ByteArray) : tm.refL s.data.toList = rdB s := tm.ref_red _
theorem cliB_is (x : Cli) (h1 : nmB x.id = true) (h2 : csB x = true) (h3 : 0 < x.to.length) (h4 : 0 < x.sc.length) : cliB x = (x.to.all rdB && (x.sc.all oneSc && rc.risB x.sc)) := by
  unfold cliB
  rw [h1, h2, decide_eq_true h3, decide_eq_true h4]
  simp only [Bool.true_and]

set_option maxRecDepth 100000 in
set_option maxHeartbeats 6400000 in
theorem clientMayBe_any (x : Cli) (vR vS : Value) (w : World) (hR : ss.Lies w vR x.to) (hS : ss.Lies w vS x.sc) (hi : x.id.size ≤ 1048576) (hr : x.to.length ≤ 1048576) (hc : x.sc.length ≤ 1048576) (hz : ∀ s ∈ x.sc, s.size ≤ 1048576) (hzr : ∀ s ∈ x.to, s.size ≤ 1048576) :
    Calls Tryz.prog 38 #[.agg #[.string x.id, .bool x.pub, .string x.salt, .string x.dig, vR, vS]] w fun e w' => e = .returned (.bool (cliB x)) ∧ Below w.heap.size w w' := by
  have HLR := hide hR
  have HLS := hide hS
  obtain ⟨oR, cR, rfl, _⟩ := hR
  obtain ⟨oS, cS, rfl, _⟩ := hS
  have HIS := hide (cliB_is x)
  have HN1 : Hid (nmB x.id = false → cliB x = false) := fun h => by unfold cliB; rw [h]; rfl
  have HN2 : Hid (csB x = false → cliB x = false) := fun h => by unfold cliB; rw [h, Bool.false_and, Bool.and_false]
  have HN3 : Hid (¬ 0 < x.to.length → cliB x = false) := fun h => by unfold cliB; rw [decide_eq_false h]; simp
  have HN4 : Hid (¬ 0 < x.sc.length → cliB x = false) := fun h => by unfold cliB; rw [decide_eq_false h]; simp
  have HCS : Hid (csB x = if x.pub then decide (x.salt = ⟨#[]⟩) && decide (x.dig = ⟨#[]⟩) else seB x.salt x.dig) := rfl
  have HZ := hide hz
  have HZR := hide hzr
  obtain ⟨id, pub, salt, dig, tos, sc⟩ := x
  dsimp only at HLR HLS HIS HN1 HN3 HN4 HCS hi hr hc HZ HZR ⊢
  generalize cliB ⟨id, pub, salt, dig, tos, sc⟩ = t at *
  generalize csB ⟨id, pub, salt, dig, tos, sc⟩ = qk at *
  have hb := heap_new w (cliO ⟨id, pub, salt, dig, tos, sc⟩ (.slice oR tos.length cR) (.slice oS sc.length cS))
  have HB : Hid (Below w.heap.size w (w.alloc (cliO ⟨id, pub, salt, dig, tos, sc⟩ (.slice oR tos.length cR) (.slice oS sc.length cS)))) := (Below.refl _ _).alloc (Nat.le_refl _) _
  have HNM := hide (tm.refName_any id (w.alloc (cliO ⟨id, pub, salt, dig, tos, sc⟩ (.slice oR tos.length cR) (.slice oS sc.length cS))) (by omega))
  have HSE := hide (secretMayBe_any salt dig (w.alloc (cliO ⟨id, pub, salt, dig, tos, sc⟩ (.slice oR tos.length cR) (.slice oS sc.length cS))))
  have HRS := hide (rg_of (o := 2) [.string salt, .string dig] hb (l2 rfl rfl))
  have p0 : (w.alloc (cliO ⟨id, pub, salt, dig, tos, sc⟩ (.slice oR tos.length cR) (.slice oS sc.length cS))).cell? ⟨w.heap.size, 0, none⟩ = some (.string id) := cell_of hb 0
  have HX : Hid (∀ Y, Below (w.alloc (cliO ⟨id, pub, salt, dig, tos, sc⟩ (.slice oR tos.length cR) (.slice oS sc.length cS))).heap.size (w.alloc (cliO ⟨id, pub, salt, dig, tos, sc⟩ (.slice oR tos.length cR) (.slice oS sc.length cS))) Y → Y.cell? ⟨w.heap.size, 1, none⟩ = some (.bool pub) ∧ Y.cell? ⟨w.heap.size, 2, none⟩ = some (.string salt) ∧ Y.cell? ⟨w.heap.size, 2 + 1, none⟩ = some (.string dig) ∧ Y.cell? ⟨w.heap.size, 4, none⟩ = some (.slice oR tos.length cR) ∧ Y.cell? ⟨w.heap.size, 5, none⟩ = some (.slice oS sc.length cS)) := fun Y hY => by
    have h9 := (hY.block w.heap.size (Array.getElem?_eq_some_iff.1 hb).1).trans hb
    exact ⟨cell_of h9 1, cell_of h9 2, cell_of h9 3, cell_of h9 4, cell_of h9 5⟩
  have HQ1 : Hid (nmB id = Tm.word 64 (Tm.btw 33 126) id.data.toList) := rfl
  generalize nmB id = q1 at *
  rw [← HQ1.out] at HNM
  generalize seB salt dig = qs at *
  clear hb hz hzr HQ1
  go_enter Tryz.func38, Tryz.ntmps38
  go_wp2_with fail
  refine HNM.out.mono ?_
  rintro e w2 ⟨rfl, rfl⟩
  go_wp2_with (refine wpList_load_mid rfl 42 _ rfl w.heap.size 2 rfl _ _ HRS.out Tryz.underlying42 rfl sizeSe ?_)
  dsimp only [cliO] at *
  generalize w.alloc (.cells #[.string id, .bool pub, .string salt, .string dig, .slice oR tos.length cR, .slice oS sc.length cS] 45) = V at *
  refine HSE.out.mono ?_
  rintro e w3 ⟨rfl, b3⟩
  have HV3 := hide b3
  have HB3 := hide (keepW HB.out b3)
  obtain ⟨c1', c2', c3', c4', c5'⟩ := HX.out w3 b3
  clear b3 HRS HNM HSE p0
  go_upto_if 16 with fail
  go_cut [4] (fun k wx => k = .bool qk ∧ wx = w3)
  case first =>
    cases pub with
    | false =>
      have HK : Hid (qk = qs) := by show _ = _; rw [HCS.out]; rfl
      go_wp2_with fail
      go_meet
      case rel => exact ⟨by rw [HK.out], rfl⟩
    | true =>
      by_cases h1 : salt = ⟨#[]⟩
      · have e1 := emp_t h1
        by_cases h2 : dig = ⟨#[]⟩
        · have e2 := emp_t h2
          have HK : Hid (qk = true) := by show _ = _; rw [HCS.out, decide_eq_true h1, decide_eq_true h2]; rfl
          clear h1 h2
          go_wp2_with fail
          go_meet
          case rel => exact ⟨by rw [HK.out] <;> rfl, rfl⟩
        · have e2 := emp_f h2
          have HK : Hid (qk = false) := by show _ = _; rw [HCS.out, decide_eq_false h2]; simp
          clear h1 h2
          go_wp2_with fail
          go_meet
          case rel => exact ⟨by rw [HK.out] <;> rfl, rfl⟩
      · have e1 := emp_f h1
        have HK : Hid (qk = false) := by show _ = _; rw [HCS.out, decide_eq_false h1]; simp
        clear h1
        go_wp2_with fail
        go_meet
        case rel => exact ⟨by rw [HK.out] <;> rfl, rfl⟩
  obtain ⟨rfl, hwc⟩ := hcut
  obtain rfl := hwc.symm
  clear hwc
  clear HCS
  cases q1 with
  | false =>
    have HT : Hid (t = false) := HN1.out rfl
    go_wp2_with fail
    go_ret
    exact ⟨by rw [HT.out] <;> rfl, HB3.out⟩
  | true =>
  cases qk with
  | false =>
    have HT : Hid (t = false) := HN2.out rfl
    go_wp2_with fail
    go_ret
    exact ⟨by rw [HT.out] <;> rfl, HB3.out⟩
  | true =>
  by_cases hl1 : 0 < tos.length
  case neg =>
    have HT : Hid (t = false) := HN3.out hl1
    have e1 : ((tos.length : Int) == 0) = true := by rw [show tos.length = 0 by omega]; rfl
    have e2 : (tos.length == 0) = true := by rw [show tos.length = 0 by omega]; rfl
    go_wp2_with fail
    go_ret
    exact ⟨by rw [HT.out] <;> rfl, HB3.out⟩
  by_cases hl2 : 0 < sc.length
  case neg =>
    have HT : Hid (t = false) := HN4.out hl2
    have e1 : ((tos.length : Int) == 0) = false := beq_false_of_ne (by omega)
    have e1' : (tos.length == 0) = false := beq_false_of_ne (by omega)
    have e2 : ((sc.length : Int) == 0) = true := by rw [show sc.length = 0 by omega]; rfl
    have e2' : (sc.length == 0) = true := by rw [show sc.length = 0 by omega]; rfl
    go_wp2_with fail
    go_ret
    exact ⟨by rw [HT.out] <;> rfl, HB3.out⟩
  have HT : Hid (t = (tos.all rdB && (sc.all oneSc && rc.risB sc))) := HIS.out rfl rfl hl1 hl2
  have e1 : ((tos.length : Int) == 0) = false := beq_false_of_ne (by omega)
  have e1' : (tos.length == 0) = false := beq_false_of_ne (by omega)
  have e2 : ((sc.length : Int) == 0) = false := beq_false_of_ne (by omega)
  have e2' : (sc.length == 0) = false := beq_false_of_ne (by omega)
  clear HN1 HN2 HN3 HN4 HIS
  go_wp2_with fail
  go_loopw [5] (fun i wr => ∃ k : Nat, k ≤ tos.length ∧ i = .int .i64 k ∧ Hid ((tos.take k).all rdB = true) ∧ Hid (Below w3.heap.size w3 wr)) (fun i _ => tos.length - (intOf i).toNat)
  case atStart => exact ⟨0, Nat.zero_le _, rfl, (by show _ = _; simp), Below.refl _ _⟩
  case round =>
    obtain ⟨k, hk, rfl, HAK, HBr⟩ := hrel
    obtain ⟨d1, d2, d3, d4, d5⟩ := HX.out wr (keepW HV3.out HBr.out)
    by_cases hlt : k < tos.length
    · have k1 : (k : Int) < (tos.length : Int) := by omega
      have k0 : (0 : Int) ≤ (k : Int) := Int.natCast_nonneg _
      obtain ⟨_, _, hv, hcc⟩ := HLR.out.below (keepW HB3.out HBr.out)
      cases hv
      obtain ⟨b, o, rfl, hb, c0⟩ := hcc k hlt
      have HRF := hide (tm.refRed_any tos[k] wr (by have := HZR.out _ (List.getElem_mem hlt); omega))
      rw [refR] at HRF
      have HTK := hide (all_take rdB tos k hlt)
      have HSH := hide (all_short rdB tos (k + 1))
      generalize tos[k] = s at *
      clear hcc
      cases hp : rdB s with
      | true =>
        rw [hp] at HRF
        have HN : Hid ((tos.take (k + 1)).all rdB = true) := by show _ = _; rw [HTK.out, HAK.out, hp]; rfl
        clear hp
        go_wp2_with fail
        refine HRF.out.mono ?_
        rintro x w4 ⟨rfl, b4⟩
        have HB4 := hide (keepW HBr.out b4)
        clear b4
        go_wp2_with fail
        go_roundw
        case rel => exact ⟨k + 1, by omega, by go_num, HN, HB4⟩
        case measure => simp [intOf]; omega
      | false =>
        rw [hp] at HRF
        have HF : Hid (t = false) := by show _ = _; rw [HT.out, HSH.out (by rw [HTK.out, hp, Bool.and_false])]; rfl
        clear hp
        go_wp2_with fail
        refine HRF.out.mono ?_
        rintro x w4 ⟨rfl, b4⟩
        have HB4 := hide (keepW (keepW HB3.out HBr.out) b4)
        clear b4
        go_wp2_with fail
        go_ret
        exact ⟨by rw [HF.out] <;> rfl, HB4.out⟩
    · have k1 : ¬ (k : Int) < (tos.length : Int) := by omega
      have HT2 : Hid (t = (sc.all oneSc && rc.risB sc)) := by
        obtain rfl : k = tos.length := by omega
        have h := HAK.out
        rw [List.take_length] at h
        show _ = _
        rw [HT.out, h]; rfl
      have HBw := hide (keepW HB3.out HBr.out)
      have HVr := hide (keepW HV3.out HBr.out)
      have HYES : Hid ((∀ j (h : j < sc.length), oneSc sc[j] = true) → rc.ris sc (sc.length - 1) → t = true) := fun h2 h3 => by
        rw [HT2.out, List.all_eq_true.2 (fun s hs => by obtain ⟨j, hj, rfl⟩ := List.mem_iff_getElem.1 hs; exact h2 j hj), Bool.true_and]
        exact decide_eq_true (fun i k1 k2 => h3 i (by omega) k2)
      have HBAD : Hid (∀ j (h : j < sc.length), oneSc sc[j] = false → t = false) := fun j h h2 => by
        rw [HT2.out]
        have : sc.all oneSc = false := by
          cases h9 : sc.all oneSc with
          | false => rfl
          | true => rw [List.all_eq_true.1 h9 _ (List.getElem_mem h)] at h2; cases h2
        rw [this]; rfl
      have HFALL : Hid (∀ i, i + 1 < sc.length → ¬ (sc.getD i ByteArray.empty).data.toList < (sc.getD (i + 1) ByteArray.empty).data.toList → t = false) := fun i k1 k2 => by
        rw [HT2.out, show rc.risB sc = false from decide_eq_false (fun h => k2 (h i (by omega) k1)), Bool.and_false]
      clear HT HT2 HAK hlt hk d1 d2 d3
      generalize wr = W1 at *
      go_wp2_with fail
      go_loopw [7] (fun i wz => ∃ k : Nat, k ≤ sc.length ∧ i = .int .i64 k ∧ Hid (∀ j (h : j < sc.length), j < k → oneSc sc[j] = true) ∧ Hid (rc.ris sc (k - 1)) ∧ Hid (Below W1.heap.size W1 wz)) (fun i _ => sc.length - (intOf i).toNat)
      case atStart => exact ⟨0, Nat.zero_le _, rfl, fun j _ h => absurd h (Nat.not_lt_zero _), fun i h => absurd h (Nat.not_lt_zero _), Below.refl _ _⟩
      case round =>
        obtain ⟨k, hk, rfl, HO, HR, HBz⟩ := hrel
        obtain ⟨d1, d2, d3, d4, d5⟩ := HX.out wr (keepW HVr.out HBz.out)
        clear d1 d2 d3
        by_cases hlt : k < sc.length
        · have k1 : (k : Int) < (sc.length : Int) := by omega
          have k0 : (0 : Int) ≤ (k : Int) := Int.natCast_nonneg _
          obtain ⟨_, _, hv, hcc⟩ := HLS.out.below (keepW HBw.out HBz.out)
          cases hv
          obtain ⟨b, o, rfl, hb, c0⟩ := hcc k hlt
          have HSC := hide (refIsScope_any sc[k] wr (by have := HZ.out _ (List.getElem_mem hlt); omega))
          have HBK := hide (HBAD.out k hlt)
          have HOK : Hid (oneSc sc[k] = true → ∀ j (h : j < sc.length), j < k + 1 → oneSc sc[j] = true) := fun h j h1 h2 => by
            by_cases hj : j < k
            · exact HO.out j h1 hj
            · obtain rfl : j = k := by omega
              exact h
          have HCC : Hid (∀ X, Below wr.heap.size wr X → X.cell? ⟨b, o + k, none⟩ = some (.string sc[k])) := fun X hX => (hX.cell (p := ⟨b, o + k, none⟩) hb).trans c0
          have HD5 : Hid (∀ X, Below wr.heap.size wr X → X.cell? ⟨w.heap.size, 5, none⟩ = some (.slice (some ⟨b, o, none⟩) sc.length cS)) := fun X hX => (hX.cell (p := ⟨w.heap.size, 5, none⟩) (World.block_lt_of_cell? _ _ d5)).trans d5
          have HPV : Hid (∀ m, k = m + 1 → (∀ X, Below wr.heap.size wr X → X.cell? ⟨b, o + m, none⟩ = some (.string (sc.getD m ByteArray.empty)))) := fun m hm X hX => by
            obtain ⟨b', o', he, hb', c1⟩ := hcc m (by omega)
            cases he
            rw [rc.getD_at sc m (by omega)]
            exact (hX.cell (p := ⟨b, o + m, none⟩) hb).trans c1
          have HKE : Hid (sc.getD k ByteArray.empty = sc[k]) := rc.getD_at sc k hlt
          generalize sc[k]'hlt = s at *
          clear hcc
          go_wp2_with fail
          refine HSC.out.mono ?_
          rintro x w2 ⟨rfl, b2⟩
          have HB2 := hide b2
          have HBW : Hid (Below W1.heap.size W1 w2) := keepW HBz.out b2
          have g0 := HCC.out w2 b2
          have g5 := HD5.out w2 b2
          clear b2 HSC c0 d5
          cases hone : oneSc s with
          | false =>
            have HF : Hid (t = false) := HBK.out hone
            clear HBK
            go_wp2_with fail
            go_quiet (fail)
            go_wp2_with fail
            go_ret
            exact ⟨by rw [HF.out] <;> rfl, keepW HBw.out (rc.bdN' HBW.out nq)⟩
          | true =>
            have HOA := hide (HOK.out hone)
            clear HBK HOK
            by_cases hk0 : k = 0
            · have k2 : ¬ (0 : Int) < (k : Int) := by omega
              have k3 : decide ((0 : Int) < (k : Int)) = false := decide_eq_false k2
              have k4 : decide (0 < k) = false := decide_eq_false (by omega)
              have k5 : ¬ 0 < k := by omega
              have HK0 := hide hk0
              clear hk0
              go_wp2_with fail
              go_quiet (fail)
              go_wp2_with fail
              go_roundw
              case rel => exact ⟨k + 1, by omega, by go_num, HOA, fun i h => absurd h (by have := HK0.out; omega), rc.bdN' HBW.out _⟩
              case measure => simp [intOf]; omega
            · obtain ⟨m, hm⟩ : ∃ m, k = m + 1 := ⟨k - 1, by omega⟩
              have k2 : (0 : Int) < (k : Int) := by omega
              have k3 : decide ((0 : Int) < (k : Int)) = true := decide_eq_true k2
              have k4 : decide (0 < k) = true := decide_eq_true (by omega)
              have k5 : 0 < k := by omega
              have g2 := HPV.out m hm w2 HB2.out
              have hw := wrap_sub k m hm (by omega)
              have m0 : (0 : Int) ≤ (m : Int) := Int.natCast_nonneg _
              have m1 : (m : Int) < (sc.length : Int) := by omega
              have hg := rc.lessB (sc.getD m ByteArray.empty) s
              have HFK := hide (HFALL.out m (by omega))
              have HRK : Hid ((sc.getD m ByteArray.empty).data.toList < s.data.toList → rc.ris sc (k + 1 - 1)) := fun h i h1 h2 => by
                by_cases hi : i < k - 1
                · exact HR.out i hi h2
                · obtain rfl : i = m := by omega
                  rw [← hm, HKE.out]; exact h
              rw [← hm, HKE.out] at HFK
              generalize sc.getD m ByteArray.empty = q at *
              by_cases hlq : q.data.toList < s.data.toList
              · rw [decide_eq_true hlq] at hg
                have HQ := hide (HRK.out hlq)
                clear hlq hk0 HFK HRK
                have HM := hide hm
                clear hm
                go_wp2_with fail
                go_quiet (fail)
                go_wp2_with fail
                go_roundw
                case rel => exact ⟨k + 1, by omega, by go_num, HOA, HQ, rc.bdN' HBW.out _⟩
                case measure => simp [intOf]; omega
              · rw [decide_eq_false hlq] at hg
                have HQ := hide (HFK.out hlq)
                clear hlq hk0 HFK HRK
                have HM := hide hm
                clear hm
                go_wp2_with fail
                go_quiet (fail)
                go_wp2_with fail
                go_ret
                exact ⟨by rw [HQ.out] <;> rfl, keepW HBw.out (rc.bdN' HBW.out nq)⟩
        · have k1 : ¬ (k : Int) < (sc.length : Int) := by omega
          have HF : Hid (t = true) := HYES.out (fun j h => HO.out j h (by omega)) (fun i h1 h2 => HR.out i (by omega) h2)
          go_wp2_with fail
          go_ret
          exact ⟨by rw [HF.out] <;> rfl, keepW HBw.out HBz.out⟩
end Go.Proofs.YtilhfmhjgfmejaaGreatDoor.rg
