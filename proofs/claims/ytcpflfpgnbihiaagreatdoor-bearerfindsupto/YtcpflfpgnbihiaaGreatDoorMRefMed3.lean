import Derived.Test.YtcpflfpgnbihiaaGreatDoorMRefMed2
import Derived.Test.YtcpflfpgnbihiaaGreatDoorMMedW3
namespace Go.Proofs.YtcpflfpgnbihiaaGreatDoor.fd
open Go.ChangeShapes Go.WideShapes Go.ChangeAt Go.RowKit Go.Proofs.YtcpflfpgnbihiaaGreatDoor.common Go.Proofs.YtcpflfpgnbihiaaGreatDoor.bk
attribute [local go_sem ↓] Go.wp_at_zero Go.wp_at_succ

def medN (l : List UInt8) : Value :=
  match medR l with
  | none => .tuple #[.string ⟨#[]⟩, .int .i64 2]
  | some t => .tuple #[S t, .int .i64 0]
theorem medN_none {l : List UInt8} (h : medR l = none) : medN l = .tuple #[.string ⟨#[]⟩, .int .i64 2] := by unfold medN; rw [h]
theorem medN_some {l t : List UInt8} (h : medR l = some t) : medN l = .tuple #[S t, .int .i64 0] := by unfold medN; rw [h]
theorem medR_no {l : List UInt8} (h : kindL l = none) : medR l = none := by unfold medR; rw [h]
theorem medR_bad {l r : List UInt8} (h : kindL l = some r) (hp : pars r = false) : medR l = none := by unfold medR; rw [h]; simp [hp]
theorem medR_ok {l r : List UInt8} (h : kindL l = some r) (hp : pars r = true) : medR l = some (Fd.lows (l.take (l.length - r.length))) := by unfold medR; rw [h]; simp [hp]
theorem dw_head {p : UInt8 → Bool} {l r : List UInt8} {c : UInt8} (h : l.dropWhile p = c :: r) : p c = false := by
  cases hp : p c with
  | false => rfl
  | true =>
    have h1 : hd p (l.dropWhile p) = false := by
      have : ∀ m : List UInt8, hd p (m.dropWhile p) = false := by
        intro m
        induction m with
        | nil => rfl
        | cons a t ih =>
          rw [List.dropWhile_cons]
          split
          · exact ih
          · rename_i hh; exact Bool.eq_false_iff.2 hh
      exact this l
    rw [h] at h1
    have h2 : p c = false := h1
    rw [hp] at h2; cases h2
/-- what neither is a semicolon nor begins a parameter ends it all -/
theorem pars_stuck {c : UInt8} (r : List UInt8) (h1 : Fd.white c = false) (h2 : c ≠ 59) : pars (c :: r) = false := by
  refine pars_no (by simp) ?_
  unfold oneP
  rw [semL_no]
  · rfl
  · intro t e
    rw [List.dropWhile_cons_of_neg (by rw [h1]; decide)] at e
    injection e with e _
    exact h2 e
theorem tokL_hd {l : List UInt8} (h : hd Fd.tok l = false) : parL l = none := by
  unfold parL tokL
  cases l with
  | nil => rfl
  | cons c t => rw [List.takeWhile_cons_of_neg (by have h2 : Fd.tok c = false := h; rw [h2]; decide), if_pos rfl]; rfl

set_option maxRecDepth 100000 in
set_option maxHeartbeats 6400000 in
theorem refMedia_any (s : ByteArray) (w : World) (hs : s.size ≤ 140737488355328) :
    Calls Tryz.prog 33 #[.string s] w fun e w' => e = .returned (medN s.data.toList) ∧ Below w.heap.size w w' := by
  have HLL := hide (len_list s)
  obtain ⟨R, hR⟩ : ∃ R, medN s.data.toList = R := ⟨_, rfl⟩
  rw [hR]
  have HBAD : Hid (medR s.data.toList = none → R = .tuple #[.string ⟨#[]⟩, .int .i64 2]) := fun h => by rw [← hR]; exact medN_none h
  have HOK : Hid (∀ t, medR s.data.toList = some t → R = .tuple #[S t, .int .i64 0]) := fun t h => by rw [← hR]; exact medN_some h
  have HKD : Hid (kindL s.data.toList = (tokL s.data.toList).bind slL) := rfl
  clear hR
  go_enter Tryz.func33, Tryz.ntmps33
  go_wp2_with fail
  refine (refTok6_any s 0 w (Nat.zero_le _) (by omega)).mono ?_
  rintro x w1 ⟨⟨k1, h01, hk1, rfl, ht1, ht2⟩, rfl⟩
  obtain ⟨hz, hnz⟩ := tokL_at h01 hk1 ht1 ht2
  rw [List.drop_zero] at hz hnz
  clear ht1 ht2 h01
  by_cases hk0 : k1 = 0
  · rw [hz hk0] at HKD
    have HRB := hide (HBAD.out (medR_no HKD.out))
    have hk0i : (k1 : Int) = 0 := by omega
    clear hz hnz
    go_wp2_with fail
    go_ret2
    exact ⟨by rw [HRB.out]; rfl, Below.refl _ _⟩
  · rw [hnz hk0] at HKD
    have HKD1 : Hid (kindL s.data.toList = slL (s.data.toList.drop k1)) := HKD.out
    have hk0i : ¬ (k1 : Int) = 0 := by omega
    have hk0b : ((k1 : Int) == 0) = false := beq_false_of_ne hk0i
    have hk0n : (k1 == 0) = false := beq_false_of_ne hk0
    clear hz hnz HKD
    by_cases hlt : k1 < s.size
    · have hki : ¬ (s.size : Int) ≤ (k1 : Int) := by omega
      have hkj : (k1 : Int) < (s.size : Int) := by omega
      have hkd : decide (s.size ≤ k1) = false := decide_eq_false (by omega)
      have hkn : ¬ s.size ≤ k1 := by omega
      rw [drop_at6 s k1 hlt] at HKD1
      by_cases h47 : s[k1] = 47
      · have h1 : (s[k1].toNat : Int) = 47 := by rw [h47]; rfl
        rw [h47, slL_yes] at HKD1
        clear h47
        go_wp2_with fail
        refine (refTok6_any s (k1 + 1) w1 (by omega) (by omega)).mono ?_
        rintro x w2 ⟨⟨k2, h12, hk2, rfl, ht1, ht2⟩, rfl⟩
        obtain ⟨hz, hnz⟩ := tokL_at h12 hk2 ht1 ht2
        clear ht1 ht2
        by_cases hkk : k2 = k1 + 1
        · rw [hz hkk] at HKD1
          have HRB := hide (HBAD.out (medR_no HKD1.out))
          have hki2 : (k2 : Int) = (k1 : Int) + 1 := by omega
          clear hz hnz
          go_wp2_with fail
          go_ret2
          exact ⟨by rw [HRB.out]; rfl, Below.refl _ _⟩
        · rw [hnz hkk] at HKD1
          have hki2 : ¬ (k2 : Int) = (k1 : Int) + 1 := by omega
          have hki3 : ((k2 : Int) == (k1 : Int) + 1) = false := beq_false_of_ne hki2
          have HPB : Hid (pars (s.data.toList.drop k2) = false → R = .tuple #[.string ⟨#[]⟩, .int .i64 2]) := fun h => HBAD.out (medR_bad HKD1.out h)
          have HPO : Hid (pars (s.data.toList.drop k2) = true → R = .tuple #[S (Fd.lows (s.data.toList.take k2)), .int .i64 0]) := fun h => by
            have := HOK.out _ (medR_ok HKD1.out h)
            rw [List.length_drop, HLL.out, show s.size - (s.size - k2) = k2 by omega] at this
            exact this
          clear hz hnz HKD1 HBAD HOK
          go_wp2_with fail
          go_loopw [6, 7] (fun v n wr => ∃ a m : Nat, a ≤ s.size ∧ m ≤ a ∧ v = .int .i64 a ∧ n = .int .i64 m ∧ pars (s.data.toList.drop a) = pars (s.data.toList.drop k2) ∧ wr = w2) (fun v _ _ => s.size - (intOf v).toNat)
          case atStart => exact ⟨k2, 0, hk2, Nat.zero_le _, rfl, rfl, rfl, rfl⟩
          case round =>
            obtain ⟨a, m, ha, hma, rfl, rfl, hpe, rfl⟩ := hrel
            have HPE := hide hpe
            clear hpe
            have hms : (m : Int) ≤ (s.size : Int) := by omega
            have hmsn : m ≤ s.size := by omega
            by_cases hal : a < s.size
            · have hali : (a : Int) < (s.size : Int) := by omega
              have hne : s.data.toList.drop a ≠ [] := by
                intro e
                have := congrArg List.length e
                rw [List.length_drop, HLL.out, List.length_nil] at this
                omega
              have HNE := hide hne
              have HOP : Hid (oneP (s.data.toList.drop a) = (semL (s.data.toList.drop a)).bind fun r => if hd Fd.tok r then parL r else some r) := rfl
              clear hne
              go_wp2_with fail
              refine (refWhite_any s a _ ha (by omega)).mono ?_
              rintro x w3 ⟨⟨j, haj, hj, rfl, hw1⟩, rfl⟩
              by_cases hjl : j < s.size
              · have hjli : ¬ (s.size : Int) ≤ (j : Int) := by omega
                have hjlj : (j : Int) < (s.size : Int) := by omega
                have hjd : decide (s.size ≤ j) = false := decide_eq_false (by omega)
                have hjn : ¬ s.size ≤ j := by omega
                by_cases h59 : s[j] = 59
                · have h1' : (s[j].toNat : Int) = 59 := by rw [h59]; rfl
                  rw [drop_at6 s j hjl, h59] at hw1
                  rw [semL_yes hw1] at HOP
                  have HOP1 : Hid (oneP (s.data.toList.drop a) = if hd Fd.tok ((s.data.toList.drop (j + 1)).dropWhile Fd.white) then parL ((s.data.toList.drop (j + 1)).dropWhile Fd.white) else some ((s.data.toList.drop (j + 1)).dropWhile Fd.white)) := HOP.out
                  clear h59 hw1 HOP
                  go_wp2_with fail
                  refine (refWhite_any s (j + 1) _ (by omega) (by omega)).mono ?_
                  rintro x w4 ⟨⟨i, hji, hi, rfl, hw2⟩, rfl⟩
                  have HHD := hide (fun c r (h : s.data.toList.drop i = c :: r) => dw_head (hw2.trans h))
                  rw [hw2] at HOP1
                  clear hw2
                  by_cases hil : i < s.size
                  · have hili : (i : Int) < (s.size : Int) := by omega
                    have HDI := hide (drop_at6 s i hil)
                    by_cases h59b : s[i] = 59
                    · have h2' : (s[i].toNat : Int) = 59 := by rw [h59b]; rfl
                      have h2c : ((s[i].toNat : Int) == 59) = true := by rw [h2']; rfl
                      have HO2 : Hid (oneP (s.data.toList.drop a) = some (s.data.toList.drop i)) := by
                        show _ = _
                        rw [HOP1.out, if_neg]
                        rw [HDI.out, h59b]
                        intro h
                        have h2 : Fd.tok 59 = true := h
                        revert h2
                        decide
                      clear h59b HOP1 HHD HDI
                      have HPY := hide (pars_yes HNE.out HO2.out)
                      have hln := oneP_len HO2.out
                      rw [List.length_drop, List.length_drop, HLL.out] at hln
                      go_wp2_with fail
                      go_roundw
                      case rel => exact ⟨i, m + 1, by omega, by omega, rfl, by go_num, HPY.out.symm.trans HPE.out, by trivial⟩
                      case measure => simp [intOf]; omega
                    · have h2' : ¬ (s[i].toNat : Int) = 59 := fun e => h59b (UInt8.toNat_inj.1 (by show s[i].toNat = 59; omega))
                      have h2c : ((s[i].toNat : Int) == 59) = false := beq_false_of_ne h2'
                      have HPR := hide (fun W => refParam_any s i W (by omega) (by omega))
                      have HWH := hide (HHD.out _ _ HDI.out)
                      have HST : Hid (pars (s.data.toList.drop i) = false) := by show _ = _; rw [HDI.out]; exact pars_stuck _ HWH.out h59b
                      cases hp : parL (s.data.toList.drop i) with
                      | some r =>
                        have hhd : hd Fd.tok (s.data.toList.drop i) = true := by
                          cases hh : hd Fd.tok (s.data.toList.drop i) with
                          | true => rfl
                          | false => rw [tokL_hd hh] at hp; cases hp
                        have HO1 : Hid (oneP (s.data.toList.drop a) = some r) := by show _ = _; rw [HOP1.out, if_pos hhd, hp]
                        rw [hp] at HPR
                        clear h59b HOP1 HHD HDI hp hhd
                        go_wp2_with fail
                        refine (HPR.out _).mono ?_
                        rintro x w5 ⟨⟨q, hq, hqe, rfl⟩ | ⟨hqe, _⟩, rfl⟩
                        · injection hqe with hqe
                          subst hqe
                          have HO2 := HO1
                          have q0 : ¬ (q : Int) < 0 := by omega
                          clear HO1 HPR
                          have HPY := hide (pars_yes HNE.out HO2.out)
                          have hln := oneP_len HO2.out
                          rw [List.length_drop, List.length_drop, HLL.out] at hln
                          go_wp2_with fail
                          go_roundw
                          case rel => exact ⟨q, m + 1, by omega, by omega, rfl, by go_num, HPY.out.symm.trans HPE.out, by trivial⟩
                          case measure => simp [intOf]; omega
                        · cases hqe
                      | none =>
                        have HPF : Hid (pars (s.data.toList.drop a) = false) := by
                          show _ = _
                          cases hh : hd Fd.tok (s.data.toList.drop i) with
                          | true => exact pars_no HNE.out (by rw [HOP1.out, if_pos hh, hp])
                          | false => rw [pars_yes HNE.out (r := s.data.toList.drop i) (by rw [HOP1.out, if_neg (by rw [hh]; decide)])]; exact HST.out
                        have HRB := hide (HPB.out (HPE.out.symm.trans HPF.out))
                        rw [hp] at HPR
                        clear h59b HOP1 HHD HDI hp
                        go_wp2_with fail
                        refine (HPR.out _).mono ?_
                        rintro x w5 ⟨⟨q, hq, hqe, _⟩ | ⟨_, rfl⟩, rfl⟩
                        · cases hqe
                        · go_wp2_with fail
                          go_ret2
                          exact ⟨by rw [HRB.out]; rfl, Below.refl _ _⟩
                  · have hili : ¬ (i : Int) < (s.size : Int) := by omega
                    have HO2 : Hid (oneP (s.data.toList.drop a) = some (s.data.toList.drop i)) := by
                      show _ = _
                      rw [HOP1.out, if_neg]
                      rw [List.drop_of_length_le (by rw [HLL.out]; omega)]
                      decide
                    clear HOP1 HHD
                    have HPY := hide (pars_yes HNE.out HO2.out)
                    have hln := oneP_len HO2.out
                    rw [List.length_drop, List.length_drop, HLL.out] at hln
                    go_wp2_with fail
                    go_roundw
                    case rel => exact ⟨i, m + 1, by omega, by omega, rfl, by go_num, HPY.out.symm.trans HPE.out, by trivial⟩
                    case measure => simp [intOf]; omega
                · have h1' : ¬ (s[j].toNat : Int) = 59 := fun e => h59 (UInt8.toNat_inj.1 (by show s[j].toNat = 59; omega))
                  have h1c : ((s[j].toNat : Int) == 59) = false := beq_false_of_ne h1'
                  rw [drop_at6 s j hjl] at hw1
                  rw [semL_no (fun r e => h59 (by rw [hw1] at e; injection e))] at HOP
                  have HRB := hide (HPB.out (HPE.out.symm.trans (pars_no HNE.out HOP.out)))
                  clear h59 hw1 HOP
                  go_wp2_with fail
                  go_ret2
                  exact ⟨by rw [HRB.out]; rfl, Below.refl _ _⟩
              · have hjli : (s.size : Int) ≤ (j : Int) := by omega
                rw [List.drop_of_length_le (show s.data.toList.length ≤ j by rw [HLL.out]; omega)] at hw1
                rw [semL_no (fun r e => by rw [hw1] at e; cases e)] at HOP
                have HRB := hide (HPB.out (HPE.out.symm.trans (pars_no HNE.out HOP.out)))
                clear hw1 HOP
                go_wp2_with fail
                go_ret2
                exact ⟨by rw [HRB.out]; rfl, Below.refl _ _⟩
            · have hali : ¬ (a : Int) < (s.size : Int) := by omega
              have hpr : pars (s.data.toList.drop k2) = true := by
                rw [← HPE.out, List.drop_of_length_le (by rw [HLL.out]; omega)]; rfl
              have HRO := hide (HPO.out hpr)
              have k20 : (0 : Int) ≤ (k2 : Int) := Int.natCast_nonneg _
              have k2s : (k2 : Int) ≤ (s.size : Int) := by omega
              obtain ⟨K, hK⟩ : ∃ K : ByteArray, s.extract 0 k2 = K := ⟨_, rfl⟩
              have HKL : Hid (K.data.toList = s.data.toList.take k2) := by show _ = _; rw [← hK]; simp
              have hKs : K.size ≤ 140737488355328 := by rw [← hK, ByteArray.size_extract]; omega
              clear hpr
              go_wp2_with fail
              refine (lower_any K _ hKs).mono ?_
              rintro x w4 ⟨rfl, hb4⟩
              rw [HKL.out]
              have HB4 := hide hb4
              clear hb4
              go_wp2_with fail
              go_ret2
              exact ⟨by rw [HRO.out]; rfl, HB4.out⟩
      · have h1 : ¬ (s[k1].toNat : Int) = 47 := fun e => h47 (UInt8.toNat_inj.1 (by show s[k1].toNat = 47; omega))
        have h1b : ((s[k1].toNat : Int) == 47) = false := beq_false_of_ne h1
        rw [slL_no (fun r e => h47 (by injection e))] at HKD1
        have HRB := hide (HBAD.out (medR_no HKD1.out))
        clear h47
        go_wp2_with fail
        go_ret2
        exact ⟨by rw [HRB.out]; rfl, Below.refl _ _⟩
    · have hki : (s.size : Int) ≤ (k1 : Int) := by omega
      rw [List.drop_of_length_le (by rw [HLL.out]; omega)] at HKD1
      have HRB := hide (HBAD.out (medR_no HKD1.out))
      go_wp2_with fail
      go_ret2
      exact ⟨by rw [HRB.out]; rfl, Below.refl _ _⟩

end Go.Proofs.YtcpflfpgnbihiaaGreatDoor.fd
