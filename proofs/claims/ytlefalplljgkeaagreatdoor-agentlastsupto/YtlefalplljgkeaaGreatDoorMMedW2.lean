import Derived.Test.YtlefalplljgkeaaGreatDoorMMedW1
namespace Go.Proofs.YtlefalplljgkeaaGreatDoor.fd
open Go.ChangeShapes Go.WideShapes Go.ChangeAt Go.RowKit Go.Proofs.YtlefalplljgkeaaGreatDoor.common Go.Proofs.YtlefalplljgkeaaGreatDoor.bk
attribute [local go_sem ↓] Go.wp_at_zero Go.wp_at_succ

theorem eqL_yes (r : List UInt8) : eqL (61 :: r) = valL r := rfl
theorem eqL_no {l : List UInt8} (h : ∀ r, l ≠ 61 :: r) : eqL l = none := by
  cases l with
  | nil => rfl
  | cons c t => show (if _ then _ else _) = _; rw [if_neg (fun e => h t (by rw [e]))]
theorem valL_yes (r : List UInt8) : valL (34 :: r) = qL r := rfl
theorem valL_no {l : List UInt8} (h : ∀ r, l ≠ 34 :: r) : valL l = tokL l := by
  cases l with
  | nil => rfl
  | cons c t => show (if _ then _ else _) = _; rw [if_neg (fun e => h t (by rw [e]))]
theorem slL_yes (r : List UInt8) : slL (47 :: r) = tokL r := rfl
theorem slL_no {l : List UInt8} (h : ∀ r, l ≠ 47 :: r) : slL l = none := by
  cases l with
  | nil => rfl
  | cons c t => show (if _ then _ else _) = _; rw [if_neg (fun e => h t (by rw [e]))]

set_option maxRecDepth 100000 in
set_option maxHeartbeats 1600000 in
theorem param_any (b : Nat) (s : ByteArray) (l : List UInt8) (w : World) (h : At w b s l) (hs : s.size ≤ 4611686018427387904) :
    Calls Tryz.prog 75 #[ptr b] w fun e w' => Tk (parL l) b s w e w' := by
  have HA := hide h
  have HP : Hid (parL l = (tokL l).bind eqL) := rfl
  clear h
  go_enter Tryz.func75, Tryz.ntmps75
  go_wp2_with fail
  refine (token_m b s l w HA.out hs).mono ?_
  rintro x w1 ⟨hm1, ⟨r1, hr1, rfl, ha1⟩ | ⟨hr1, rfl⟩⟩
  · rw [hr1] at HP
    have HA1 := hide ha1
    have HM1 := hide hm1
    clear hr1 ha1 hm1
    go_wp2_with fail
    refine (takeL_any b s r1 61 _ HA1.out hs).mono ?_
    rintro x w2 ⟨rfl, ha2, hm2⟩
    rcases tk_cases 61 r1 with ⟨r2, rfl, ht⟩ | ⟨hn, ht⟩
    · rw [ht] at ha2 ⊢
      have HA2 := hide ha2
      have HM2 := hide (HM1.out.trans hm2)
      have HP2 : Hid (parL l = valL r2) := HP.out
      clear ha2 hm2 ht HP
      go_wp2_with fail
      refine (takeL_any b s r2 34 _ HA2.out hs).mono ?_
      rintro x w3 ⟨rfl, ha3, hm3⟩
      rcases tk_cases 34 r2 with ⟨r3, rfl, ht⟩ | ⟨hn, ht⟩
      · rw [ht] at ha3 ⊢
        have HA3 := hide ha3
        have HM3 := hide (HM2.out.trans hm3)
        have HP3 : Hid (parL l = qL r3) := HP2.out
        clear ha3 hm3 ht HP2
        go_wp2_with fail
        refine (quoted_any b s r3 _ HA3.out hs).mono ?_
        rintro x w4 ⟨hm4, ⟨r4, hr4, rfl, ha4⟩ | ⟨hr4, rfl⟩⟩
        · go_wp2_with fail
          go_ret
          exact ⟨HM3.out.trans hm4, Or.inl ⟨r4, HP3.out.trans hr4, rfl, ha4⟩⟩
        · go_wp2_with fail
          go_ret
          exact ⟨HM3.out.trans hm4, Or.inr ⟨HP3.out.trans hr4, rfl⟩⟩
      · rw [ht] at ha3 ⊢
        have HA3 := hide ha3
        have HM3 := hide (HM2.out.trans hm3)
        have HP3 : Hid (parL l = tokL r2) := HP2.out.trans (valL_no hn)
        clear ha3 hm3 ht HP2 hn
        go_wp2_with fail
        refine (token_m b s r2 _ HA3.out hs).mono ?_
        rintro x w4 ⟨hm4, ⟨r4, hr4, rfl, ha4⟩ | ⟨hr4, rfl⟩⟩
        · go_wp2_with fail
          go_ret
          exact ⟨HM3.out.trans hm4, Or.inl ⟨r4, HP3.out.trans hr4, rfl, ha4⟩⟩
        · go_wp2_with fail
          go_ret
          exact ⟨HM3.out.trans hm4, Or.inr ⟨HP3.out.trans hr4, rfl⟩⟩
    · rw [ht] at ha2 ⊢
      have HM2 := hide (HM1.out.trans hm2)
      have HP2 : Hid (parL l = none) := HP.out.trans (eqL_no hn)
      clear ha2 hm2 ht HP hn
      go_wp2_with fail
      go_ret
      exact ⟨HM2.out, Or.inr ⟨HP2.out, rfl⟩⟩
  · rw [hr1] at HP
    have HM1 := hide hm1
    clear hr1 hm1
    go_wp2_with fail
    go_ret
    exact ⟨HM1.out, Or.inr ⟨HP.out, rfl⟩⟩

set_option maxRecDepth 100000 in
set_option maxHeartbeats 1600000 in
theorem kind_any (b : Nat) (s : ByteArray) (l : List UInt8) (w : World) (h : At w b s l) (hs : s.size ≤ 4611686018427387904) :
    Calls Tryz.prog 56 #[ptr b] w fun e w' => Tk (kindL l) b s w e w' := by
  have HA := hide h
  have HP : Hid (kindL l = (tokL l).bind slL) := rfl
  clear h
  go_enter Tryz.func56, Tryz.ntmps56
  go_wp2_with fail
  refine (token_m b s l w HA.out hs).mono ?_
  rintro x w1 ⟨hm1, ⟨r1, hr1, rfl, ha1⟩ | ⟨hr1, rfl⟩⟩
  · rw [hr1] at HP
    have HA1 := hide ha1
    have HM1 := hide hm1
    clear hr1 ha1 hm1
    go_wp2_with fail
    refine (takeL_any b s r1 47 _ HA1.out hs).mono ?_
    rintro x w2 ⟨rfl, ha2, hm2⟩
    rcases tk_cases 47 r1 with ⟨r2, rfl, ht⟩ | ⟨hn, ht⟩
    · rw [ht] at ha2 ⊢
      have HA2 := hide ha2
      have HM2 := hide (HM1.out.trans hm2)
      have HP2 : Hid (kindL l = tokL r2) := HP.out
      clear ha2 hm2 ht HP
      go_wp2_with fail
      refine (token_m b s r2 _ HA2.out hs).mono ?_
      rintro x w4 ⟨hm4, ⟨r4, hr4, rfl, ha4⟩ | ⟨hr4, rfl⟩⟩
      · go_wp2_with fail
        go_ret
        exact ⟨HM2.out.trans hm4, Or.inl ⟨r4, HP2.out.trans hr4, rfl, ha4⟩⟩
      · go_wp2_with fail
        go_ret
        exact ⟨HM2.out.trans hm4, Or.inr ⟨HP2.out.trans hr4, rfl⟩⟩
    · rw [ht] at ha2 ⊢
      have HM2 := hide (HM1.out.trans hm2)
      have HP2 : Hid (kindL l = none) := HP.out.trans (slL_no hn)
      clear ha2 hm2 ht HP hn
      go_wp2_with fail
      go_ret
      exact ⟨HM2.out, Or.inr ⟨HP2.out, rfl⟩⟩
  · rw [hr1] at HP
    have HM1 := hide hm1
    clear hr1 hm1
    go_wp2_with fail
    go_ret
    exact ⟨HM1.out, Or.inr ⟨HP.out, rfl⟩⟩

theorem semL_yes {l r : List UInt8} (h : l.dropWhile Fd.white = 59 :: r) : semL l = some (r.dropWhile Fd.white) := by
  unfold semL; rw [h]; rfl
theorem semL_no {l : List UInt8} (h : ∀ r, l.dropWhile Fd.white ≠ 59 :: r) : semL l = none := by
  unfold semL
  cases hh : l.dropWhile Fd.white with
  | nil => rfl
  | cons c t => show (if _ then _ else _) = _; rw [if_neg (fun e => h t (by rw [hh, e]))]

set_option maxRecDepth 100000 in
set_option maxHeartbeats 3200000 in
theorem params_any (b : Nat) (s : ByteArray) (l0 : List UInt8) (w : World) (h : At w b s l0) (hs : s.size ≤ 4611686018427387904) :
    Calls Tryz.prog 57 #[ptr b] w fun e w' => e = .returned (.bool (pars l0)) ∧ Mv b w w' := by
  have hmf : ∀ (fn : Fn) (first cap : Array Value) (w : World), (Instr.makeFunc fn first cap).run Tryz.prog w = .ok (.func fn first cap) w := fun _ _ _ _ => rfl
  have HA := hide h
  clear h
  go_enter Tryz.func57, Tryz.ntmps57
  go_wp2_with fail
  go_loopw [2] (fun _ wr => ∃ l, At wr b s l ∧ pars l = pars l0 ∧ Mv b w wr) (fun _ wr => s.size - place wr b)
  case atStart => exact ⟨l0, HA.out, rfl, Mv.refl _ _⟩
  case round =>
    obtain ⟨l, ha, heq, hmv⟩ := hrel
    have hll := ha.len
    have HP0 := hide ha.place
    have HAL := hide ha
    have HEQ := hide heq
    have HMV := hide hmv
    have HM0 := more_any b s _ _ ha.2
    clear ha heq hmv
    by_cases hl : l = []
    · subst hl
      rw [show decide (s.size - ([] : List UInt8).length < s.size) = false by simp] at HM0
      have HM := hide HM0
      clear HM0
      go_wp2_with fail
      refine HM.out.mono ?_
      rintro x w1 ⟨rfl, m, rfl⟩
      go_wp2_with fail
      go_ret
      exact ⟨by rw [← HEQ.out]; rfl, HMV.out.drewN m⟩
    · have hl1 : 0 < l.length := List.length_pos_iff.2 hl
      rw [show decide (s.size - l.length < s.size) = true from decide_eq_true (by omega)] at HM0
      have HM := hide HM0
      have HOP : Hid (oneP l = (semL l).bind fun r => if hd Fd.tok r then parL r else some r) := rfl
      have HLN := hide hl
      clear HM0 hl
      go_wp2_with fail
      refine HM.out.mono ?_
      rintro x w1 ⟨rfl, m, rfl⟩
      go_wp2_with fail
      refine (takeWhile_p b s l _ Fd.white _ (HAL.out.drewN m) hs enters_white (fun W c => isWhite_any c W)).mono ?_
      rintro x w2 ⟨rfl, ha2, hm2⟩
      have HA2 := hide ha2
      have HM2 := hide ((HMV.out.drewN m).trans hm2)
      clear ha2 hm2
      go_wp2_with fail
      refine (takeL_any b s _ 59 _ HA2.out hs).mono ?_
      rintro x w3 ⟨rfl, ha3, hm3⟩
      rcases tk_cases 59 (l.dropWhile Fd.white) with ⟨r3, hr3, ht⟩ | ⟨hn, ht⟩
      · rw [ht] at ha3 ⊢
        have HA3 := hide ha3
        have HM3 := hide (HM2.out.trans hm3)
        rw [semL_yes hr3] at HOP
        clear ha3 hm3 ht hr3
        go_wp2_with fail
        refine (takeWhile_p b s r3 _ Fd.white _ HA3.out hs enters_white (fun W c => isWhite_any c W)).mono ?_
        rintro x w4 ⟨rfl, ha4, hm4⟩
        have HA4 := hide ha4
        have HM4 := hide (HM3.out.trans hm4)
        have HP4 := hide ha4.place
        clear ha4 hm4
        generalize r3.dropWhile Fd.white = r4 at *
        have HCM : Hid (∀ W, At W b s r4 → Calls Tryz.prog 74 #[ptr b, .func (.func 50) #[.pointer (some ⟨b, 2, none⟩)] #[]] W fun e w' => e = .returned (.bool (hd Fd.tok r4)) ∧ ∃ m, w' = W.drewN m) :=
          fun W hW => comesL_m b s r4 _ _ Fd.tok W hW enters_tok (fun X c hX => isTokenByte_any b 2 c X hX)
        have HPA := hide (fun W (hW : At W b s r4) => param_any b s r4 W hW hs)
        cases hhd : hd Fd.tok r4 with
        | false =>
          rw [hhd] at HCM
          have HO2 : Hid (oneP l = some r4) := by show _ = _; rw [HOP.out]; simp [hhd]
          have HPY := hide (pars_yes HLN.out HO2.out)
          have HLT := hide (oneP_len HO2.out)
          clear hhd HOP HPA
          go_wp2_with fail
          go_quiet ((go_at_call 74; exact Calls.quiet_of (HCM.out _ (HA4.out.drewN _))))
          have HA5 := hide (HA4.out.drewN nq)
          have HM5 := hide (HM4.out.drewN nq)
          have HP5 := hide HA5.out.place
          go_wp2_with fail
          go_roundw
          case rel => exact ⟨r4, HA5.out, HPY.out.symm.trans HEQ.out, HM5.out⟩
          case measure =>
            have h0 := HP0.out
            have h5 := HP5.out
            have h6 := HLT.out
            rw [h0, h5]
            omega
        | true =>
          rw [hhd] at HCM
          have HO2 : Hid (oneP l = parL r4) := by show _ = _; rw [HOP.out]; simp [hhd]
          clear hhd HOP
          cases hpr : parL r4 with
          | some r6 =>
            have HPS : Hid (∀ W, At W b s r4 → Calls Tryz.prog 75 #[ptr b] W fun e w' => e = .returned (.bool true) ∧ At w' b s r6 ∧ Mv b W w') := fun W hW => (HPA.out W hW).mono fun e w' ⟨hm, h⟩ => by
              rcases h with ⟨r, hr, he, ha⟩ | ⟨hr, _⟩
              · rw [hpr] at hr; injection hr with hr; subst hr; exact ⟨he, ha, hm⟩
              · rw [hpr] at hr; cases hr
            have HO3 : Hid (oneP l = some r6) := HO2.out.trans hpr
            have HPY := hide (pars_yes HLN.out HO3.out)
            have HLT := hide (oneP_len HO3.out)
            clear hpr HPA HO2
            go_wp2_with fail
            go_region_with (first
              | (go_at_call 74; refine (HCM.out _ HA4.out.drew).mono ?_; rintro x w5 ⟨rfl, m5, rfl⟩)
              | (go_at_call 75; refine (HPS.out _ (HA4.out.drewN _)).mono ?_; rintro x w6 ⟨rfl, ha6, hm6⟩))
            all_goals
              have HA6 := hide ha6
              have HM6 := hide ((HM4.out.drewN _).trans hm6)
              have HP6 := hide ha6.place
              clear ha6 hm6
              go_wp2_with fail
              refine ⟨⟨_, _, _, _, _, _, _, _, _, _, _, _, _, _, _, _, _, _, _, _, _, _, _, _, _, _, _, _, _, _, _, ⟨r6, HA6.out, HPY.out.symm.trans HEQ.out, HM6.out⟩, rfl⟩, ?_⟩
              have h0 := HP0.out
              have h5 := HP6.out
              have h6 := HLT.out
              rw [h0, h5]
              omega
          | none =>
            have HPS : Hid (∀ W, At W b s r4 → Calls Tryz.prog 75 #[ptr b] W fun e w' => e = .returned (.bool false) ∧ Mv b W w') := fun W hW => (HPA.out W hW).mono fun e w' ⟨hm, h⟩ => by
              rcases h with ⟨r, hr, _⟩ | ⟨_, he⟩
              · rw [hpr] at hr; cases hr
              · exact ⟨he, hm⟩
            have HO3 : Hid (oneP l = none) := HO2.out.trans hpr
            have HPN := hide (HEQ.out.symm.trans (pars_no HLN.out HO3.out))
            clear hpr HPA HO2
            go_wp2_with fail
            go_region_with (first
              | (go_at_call 74; refine (HCM.out _ HA4.out.drew).mono ?_; rintro x w5 ⟨rfl, m5, rfl⟩)
              | (go_at_call 75; refine (HPS.out _ (HA4.out.drewN _)).mono ?_; rintro x w6 ⟨rfl, hm6⟩))
            all_goals
              have HM6 := hide ((HM4.out.drewN _).trans hm6)
              clear hm6
              go_wp2_with fail
              go_ret
              exact ⟨by rw [HPN.out]; rfl, HM6.out⟩
      · rw [ht] at ha3 ⊢
        have HM3 := hide (HM2.out.trans hm3)
        rw [semL_no hn] at HOP
        have HPN := hide (HEQ.out.symm.trans (pars_no HLN.out HOP.out))
        clear ha3 hm3 ht hn
        go_wp2_with fail
        go_ret
        exact ⟨by rw [HPN.out]; rfl, HM3.out⟩

end Go.Proofs.YtlefalplljgkeaaGreatDoor.fd
