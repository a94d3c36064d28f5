import Derived.Test.YtmdjppjfjkgnpaaDoorRedSafeK
namespace Go.Proofs.YtmdjppjfjkgnpaaDoor.tm
open Go.ChangeShapes Go.WideShapes Go.ChangeAt Go.RowKit Go.Proofs.YtmdjppjfjkgnpaaDoor.common Go.Proofs.YtmdjppjfjkgnpaaDoor.bk
attribute [local go_sem ↓] Go.wp_at_zero Go.wp_at_succ

set_option maxRecDepth 100000 in
set_option maxHeartbeats 800000 in
theorem lawRedirectSafe (s : ByteArray) (w : World) (h : Nums w) (hl : Loc w) :
    Calls Tryd.prog 3 #[.string s] w fun e w' => e = .returned (.bool true) ∧ Below w.heap.size w w' := by
  have HN := hide h
  have HL := hide hl
  clear h hl
  have H1 := hide (red_b ⟨ex1.toArray⟩ HN.out HL.out (Below.refl _ _))
  have H2 : Hid (∀ W, Below w.heap.size w W → _) := fun W hb => red_b ⟨ex2.toArray⟩ HN.out HL.out hb
  have H3 : Hid (∀ W, Below w.heap.size w W → _) := fun W hb => red_b ⟨ex3.toArray⟩ HN.out HL.out hb
  have H4 : Hid (∀ W, Below w.heap.size w W → _) := fun W hb => red_b s HN.out HL.out hb
  rw [show (⟨ex1.toArray⟩ : ByteArray).data.toList = ex1 from rfl, ex1_red] at H1
  rw [show (⟨ex2.toArray⟩ : ByteArray).data.toList = ex2 from rfl, ex2_red] at H2
  rw [show (⟨ex3.toArray⟩ : ByteArray).data.toList = ex3 from rfl, ex3_red] at H3
  go_enter Tryd.func3, Tryd.ntmps3
  go_wp2_with fail
  refine H1.out.mono ?_
  rintro x w1 ⟨rfl, hb1⟩
  have B1 := hide hb1
  clear hb1
  go_wp2_with fail
  refine (H2.out _ B1.out).mono ?_
  rintro x w2 ⟨rfl, hb2⟩
  have B2 := hide hb2
  clear hb2
  go_wp2_with fail
  refine (H3.out _ B2.out).mono ?_
  rintro x w3 ⟨rfl, hb3⟩
  have B3 := hide hb3
  clear hb3
  cases hr : redL s.data.toList with
  | false =>
    rw [hr] at H4
    clear hr
    go_wp2_with fail
    refine (H4.out _ B3.out).mono ?_
    rintro x w4 ⟨rfl, hb4⟩
    have B4 := hide hb4
    clear hb4
    go_wp2_with fail
    go_ret
    exact ⟨rfl, B4.out⟩
  | true =>
    rw [hr] at H4
    have HR := hide hr
    clear hr
    go_wp2_with fail
    refine (H4.out _ B3.out).mono ?_
    rintro x w4 ⟨rfl, hb4⟩
    have B4 := hide hb4
    clear hb4 H1 H2 H3 H4 B1 B2 B3
    have h512 := red_len HR.out
    rw [len_list] at h512
    have HSafe : Hid (∀ k (hk : k < s.size), safeB s[k] = true) := fun k hk => List.all_eq_true.1 (red_safe HR.out) _ (by
      have : s[k] = s.data.toList[k]'(by rw [len_list]; exact hk) := rfl
      rw [this]
      exact List.getElem_mem _)
    have hne0 : s ≠ ⟨#[]⟩ := fun e => red_some HR.out (by rw [e])
    obtain ⟨n1, _, n3⟩ := word_ne hne0
    clear hne0
    have h512i : ¬ (512 : Int) < (s.size : Int) := by omega
    go_wp2_with fail
    go_loopw [3] (fun i wr => ∃ k : Nat, k ≤ s.size ∧ i = .int .i64 k ∧ w4 = wr) (fun i _ => s.size - (intOf i).toNat)
    case atStart => exact ⟨0, Nat.zero_le _, rfl, rfl⟩
    case round =>
      obtain ⟨k, hk, rfl, rfl⟩ := hrel
      by_cases hlt : k < s.size
      · have hki : (k : Int) < (s.size : Int) := by omega
        have hsf := of_decide_eq_true (HSafe.out k hlt)
        have a1 : ¬ (s[k].toNat : Int) ≤ 32 := by omega
        have a2 : ¬ (127 : Int) ≤ (s[k].toNat : Int) := by omega
        have a3 : ((s[k].toNat : Int) == 35) = false := beq_false_of_ne (by omega)
        have a4 : ((s[k].toNat : Int) == 34) = false := beq_false_of_ne (by omega)
        have a5 : ((s[k].toNat : Int) == 60) = false := beq_false_of_ne (by omega)
        have a6 : ((s[k].toNat : Int) == 62) = false := beq_false_of_ne (by omega)
        have a7 : ((s[k].toNat : Int) == 92) = false := beq_false_of_ne (by omega)
        have b3 : ¬ (s[k].toNat : Int) = 35 := by omega
        have b4 : ¬ (s[k].toNat : Int) = 34 := by omega
        have b5 : ¬ (s[k].toNat : Int) = 60 := by omega
        have b6 : ¬ (s[k].toNat : Int) = 62 := by omega
        have b7 : ¬ (s[k].toNat : Int) = 92 := by omega
        clear hsf
        go_wp2_with fail
        go_roundw
        case rel => exact ⟨k + 1, by omega, by go_num, by trivial⟩
        case measure => simp [intOf]; omega
      · obtain rfl : k = s.size := by omega
        clear hk hlt
        have hxx : ¬ (s.size : Int) < (s.size : Int) := by omega
        have HH := hide (fun W => head_any s ⟨mHttp.toArray⟩ W)
        have HG := hide (fun W => head_any s ⟨mHttps.toArray⟩ W)
        cases hp : (⟨mHttp.toArray⟩ : ByteArray).data.toList.isPrefixOf s.data.toList with
        | true =>
          rw [hp] at HH
          have h7 : 7 ≤ s.size := by
            have := congrArg List.length (pre_app hp)
            rw [List.length_append, len_list] at this
            rw [this]
            exact Nat.le_add_right _ _
          have h7i : (7 : Int) ≤ (s.size : Int) := by omega
          have hloc := red_local HR.out hp
          obtain ⟨r, hr⟩ : ∃ r, r = s.extract 7 s.size := ⟨_, rfl⟩
          rw [← ext_from, ← hr] at hloc
          have HC := hide (loc_cases hloc)
          clear hp hloc
          go_wp2_with fail
          refine (HH.out _).mono ?_
          rintro x w5 ⟨rfl, hw⟩
          obtain rfl := hw.symm
          go_wp2_with fail
          rw [← hr]
          clear hr HH HG
          have G0 := hide (fun W => head_any r ⟨(tH 0).toArray⟩ W)
          have G1 := hide (fun W => head_any r ⟨(tH 1).toArray⟩ W)
          have G2 := hide (fun W => head_any r ⟨(tH 2).toArray⟩ W)
          rcases HC.out with ⟨hp, hb⟩ | ⟨hp, hq, hb⟩ | ⟨hp, hq, hq2, hb⟩
          · have hn : 9 ≤ r.size := by
              have := congrArg List.length (pre_app hp)
              rw [List.length_append, len_list] at this
              rw [this]
              exact Nat.le_add_right _ _
            have HE : Hid (∀ W, Calls Tryd.prog 9 #[.string r, .int .i64 9] W fun e w' => e = .returned (.bool true) ∧ w' = W) := fun W => ends_any r 9 W hn (beh_ends hb)
            rw [show (⟨(tH 0).toArray⟩ : ByteArray).data.toList.isPrefixOf r.data.toList = true from hp] at G0
            clear hb hn HC hp
            refine (G0.out _).mono ?_
            rintro x w6 ⟨rfl, hw⟩
            obtain rfl := hw.symm
            go_wp2_with fail
            refine (HE.out _).mono ?_
            rintro x w7 ⟨rfl, hw⟩
            obtain rfl := hw.symm
            go_wp2_with fail
            go_ret
            exact ⟨rfl, B4.out⟩
          · have hn : 9 ≤ r.size := by
              have := congrArg List.length (pre_app hq)
              rw [List.length_append, len_list] at this
              rw [this]
              exact Nat.le_add_right _ _
            have HE : Hid (∀ W, Calls Tryd.prog 9 #[.string r, .int .i64 9] W fun e w' => e = .returned (.bool true) ∧ w' = W) := fun W => ends_any r 9 W hn (beh_ends hb)
            rw [show (⟨(tH 0).toArray⟩ : ByteArray).data.toList.isPrefixOf r.data.toList = false from hp] at G0
            rw [show (⟨(tH 1).toArray⟩ : ByteArray).data.toList.isPrefixOf r.data.toList = true from hq] at G1
            clear hb hn HC hp hq
            refine (G0.out _).mono ?_
            rintro x w6 ⟨rfl, hw⟩
            obtain rfl := hw.symm
            go_wp2_with fail
            refine (G1.out _).mono ?_
            rintro x w6 ⟨rfl, hw⟩
            obtain rfl := hw.symm
            go_wp2_with fail
            refine (HE.out _).mono ?_
            rintro x w7 ⟨rfl, hw⟩
            obtain rfl := hw.symm
            go_wp2_with fail
            go_ret
            exact ⟨rfl, B4.out⟩
          · have hn : 5 ≤ r.size := by
              have := congrArg List.length (pre_app hq2)
              rw [List.length_append, len_list] at this
              rw [this]
              exact Nat.le_add_right _ _
            have HE : Hid (∀ W, Calls Tryd.prog 9 #[.string r, .int .i64 5] W fun e w' => e = .returned (.bool true) ∧ w' = W) := fun W => ends_any r 5 W hn (beh_ends hb)
            rw [show (⟨(tH 0).toArray⟩ : ByteArray).data.toList.isPrefixOf r.data.toList = false from hp] at G0
            rw [show (⟨(tH 1).toArray⟩ : ByteArray).data.toList.isPrefixOf r.data.toList = false from hq] at G1
            rw [show (⟨(tH 2).toArray⟩ : ByteArray).data.toList.isPrefixOf r.data.toList = true from hq2] at G2
            clear hb hn HC hp hq hq2
            refine (G0.out _).mono ?_
            rintro x w6 ⟨rfl, hw⟩
            obtain rfl := hw.symm
            go_wp2_with fail
            refine (G1.out _).mono ?_
            rintro x w6 ⟨rfl, hw⟩
            obtain rfl := hw.symm
            go_wp2_with fail
            refine (G2.out _).mono ?_
            rintro x w6 ⟨rfl, hw⟩
            obtain rfl := hw.symm
            go_wp2_with fail
            refine (HE.out _).mono ?_
            rintro x w7 ⟨rfl, hw⟩
            obtain rfl := hw.symm
            go_wp2_with fail
            go_ret
            exact ⟨rfl, B4.out⟩
        | false =>
          rw [hp] at HH
          go_wp2_with fail
          refine (HH.out _).mono ?_
          rintro x w5 ⟨rfl, hw⟩
          obtain rfl := hw.symm
          go_wp2_with fail
          clear HH
          cases hg : (⟨mHttps.toArray⟩ : ByteArray).data.toList.isPrefixOf s.data.toList with
          | true =>
            have HA := hide (sec_at (red_secure HR.out hg))
            rw [hg] at HG
            have h8 : 8 ≤ s.size := by
              have := congrArg List.length (pre_app hg)
              rw [List.length_append, len_list] at this
              rw [this]
              exact Nat.le_add_right _ _
            clear hp hg
            refine (HG.out _).mono ?_
            rintro x w6 ⟨rfl, hw⟩
            obtain rfl := hw.symm
            clear HG
            go_wp2_with fail
            go_loopw [7] (fun i wr => ∃ k : Nat, k ≤ s.size ∧ i = .int .i64 k ∧ Hid (noAt (s.data.toList.drop k) = true) ∧ w4 = wr) (fun i _ => s.size - (intOf i).toNat)
            case atStart => exact ⟨8, h8, rfl, HA, rfl⟩
            case round =>
              obtain ⟨k, hk, rfl, HK, rfl⟩ := hrel
              by_cases hlt : k < s.size
              · have hki : (k : Int) < (s.size : Int) := by omega
                have HD := hide (drop_at2 s k hlt)
                rcases is_cases 47 47 rfl s[k] with ⟨u1, a1, a2⟩ | ⟨u1, a1, a2⟩
                · have q1 : ((s[k].toNat : Int) != 47) = false := by rw [bne, a2]; rfl
                  have q2 : ((s[k].toNat : Int) != 63) = true := by rw [a1]; rfl
                  go_wp2_with fail
                  go_ret
                  exact ⟨rfl, B4.out⟩
                · have q1 : ((s[k].toNat : Int) != 47) = true := by rw [bne, a2]; rfl
                  rcases is_cases 63 63 rfl s[k] with ⟨v1, b1, b2⟩ | ⟨v1, b1, b2⟩
                  · have q2 : ((s[k].toNat : Int) != 63) = false := by rw [bne, b2]; rfl
                    go_wp2_with fail
                    go_ret
                    exact ⟨rfl, B4.out⟩
                  · have q2 : ((s[k].toNat : Int) != 63) = true := by rw [bne, b2]; rfl
                    have hst := HK.out
                    rw [HD.out] at hst
                    have hst2 := noAt_step hst (of_decide_eq_false u1) (of_decide_eq_false v1)
                    have HS2 := hide hst2.2
                    have c1 : ¬ (s[k].toNat : Int) = 64 := by have := hst2.1; omega
                    have c2 : ((s[k].toNat : Int) == 64) = false := beq_false_of_ne c1
                    clear hst hst2 HD u1 v1
                    go_wp2_with fail
                    go_roundw
                    case rel => exact ⟨k + 1, by omega, by go_num, HS2, by trivial⟩
                    case measure => simp [intOf]; omega
              · obtain rfl : k = s.size := by omega
                clear hk hlt
                go_wp2_with fail
                go_ret
                exact ⟨rfl, B4.out⟩
          | false =>
            have HP := hide (priv_cases (red_private HR.out hg hp))
            rw [hg] at HG
            clear hp hg
            refine (HG.out _).mono ?_
            rintro x w6 ⟨rfl, hw⟩
            obtain rfl := hw.symm
            clear HG
            go_wp2_with fail
            obtain ⟨m, t, e, hm, hdot, _, ht, _⟩ := HP.out
            have HE := hide e
            have HM := hide hm
            have HDt := hide hdot
            have HT := hide ht
            have hsz : s.size = m.length + 2 + t.length := by
              have := congrArg List.length e
              rw [List.length_append, List.length_cons, List.length_cons, len_list] at this
              omega
            have HSZ := hide hsz
            clear HP e hm hdot ht hsz
            have HX : Hid (∀ j (hj : j < s.size), s[j] = s.data.toList[j]'(by rw [len_list]; exact hj)) := fun _ _ => rfl
            go_loopw [8, 9] (fun d i wr => ∃ k : Nat, k ≤ m.length ∧ i = .int .i64 k ∧ d = .bool ((s.data.toList.take k).contains 46) ∧ w4 = wr) (fun _ i _ => s.size - (intOf i).toNat)
            case atStart => exact ⟨0, Nat.zero_le _, rfl, rfl, rfl⟩
            case round =>
              obtain ⟨k, hk, rfl, rfl, rfl⟩ := hrel
              have hlt : k < s.size := by have := HSZ.out; omega
              have hki : (k : Int) < (s.size : Int) := by omega
              obtain ⟨p, hp⟩ : ∃ p, k + 1 = p := ⟨_, rfl⟩
              have hpi : (p : Int) < (s.size : Int) := by have := HSZ.out; omega
              have w1p : IntKind.i64.wrap ((k : Int) + 1) = (p : Int) := by rw [wrap_le _ (by omega) (by omega)]; omega
              have w2p : wrap64 ((k : Int) + 1) = (p : Int) := by rw [IntWalk.wrap64_in _ (by omega)]; omega
              by_cases hkm : k < m.length
              · have hc : s[k] ≠ 58 := by
                  rw [HX.out k hlt]
                  simp only [HE.out]
                  rw [List.getElem_append_left hkm]
                  exact HM.out _ (List.getElem_mem _)
                have c1 : ¬ (s[k].toNat : Int) = 58 := fun e => hc (UInt8.toNat_inj.1 (by rw [show s[k].toNat = 58 by omega]; rfl))
                have c2 : ((s[k].toNat : Int) == 58) = false := beq_false_of_ne c1
                have HT2 : Hid ((s.data.toList.take (k + 1)).contains 46 = ((s.data.toList.take k).contains 46 || ((s[k].toNat : Int) == 46))) := by
                  show _ = _
                  rw [List.take_succ_eq_append_getElem (by rw [len_list]; exact hlt), ← HX.out k hlt, List.contains_append]
                  congr 1
                  rw [Bool.eq_iff_iff, beq_iff_eq]
                  constructor
                  · intro h
                    have : 46 = s[k] := by simpa using h
                    rw [← this]; rfl
                  · intro h
                    have : s[k] = 46 := UInt8.toNat_inj.1 (by rw [show s[k].toNat = 46 by omega]; rfl)
                    rw [this]; rfl
                clear hc
                generalize (s.data.toList.take k).contains 46 = d at *
                have HP2 := hide hp
                clear hp
                cases d with
                | true =>
                  have HN : Hid ((s.data.toList.take (k + 1)).contains 46 = true) := by show _ = _; rw [HT2.out]; rfl
                  clear HT2
                  go_wp2_with fail
                  go_roundw
                  case rel => exact ⟨k + 1, by omega, by have := HP2.out; go_num, by rw [HN.out], by trivial⟩
                  case measure => have := HP2.out; simp [intOf]; omega
                | false =>
                  rcases is_cases 46 46 rfl s[k] with ⟨u1, a1, a2⟩ | ⟨u1, a1, a2⟩
                  · have HN : Hid ((s.data.toList.take (k + 1)).contains 46 = true) := by show _ = _; rw [HT2.out, a2]; rfl
                    clear HT2
                    go_wp2_with fail
                    go_roundw
                    case rel => exact ⟨k + 1, by omega, by have := HP2.out; go_num, by rw [HN.out], by trivial⟩
                    case measure => have := HP2.out; simp [intOf]; omega
                  · have HN : Hid ((s.data.toList.take (k + 1)).contains 46 = false) := by show _ = _; rw [HT2.out, a2]; rfl
                    clear HT2
                    go_wp2_with fail
                    go_roundw
                    case rel => exact ⟨k + 1, by omega, by have := HP2.out; go_num, by rw [HN.out], by trivial⟩
                    case measure => have := HP2.out; simp [intOf]; omega
              · obtain rfl : k = m.length := by omega
                have HTm : Hid ((s.data.toList.take m.length).contains 46 = true) := by
                  show _ = _
                  rw [HE.out, List.take_left]
                  exact HDt.out
                have hc : s[m.length] = 58 := by
                  rw [HX.out _ hlt]
                  simp only [HE.out]
                  rw [List.getElem_append_right (Nat.le_refl _)]
                  simp
                have hps : p < s.size := by have := HSZ.out; omega
                have hc2 : s[p] = 47 := by
                  rw [HX.out _ hps]
                  simp only [HE.out]
                  rw [List.getElem_append_right (by omega)]
                  simp only [show p - m.length = 1 by omega]
                  rfl
                have c1 : (s[m.length].toNat : Int) = 58 := by rw [hc]; rfl
                have c2 : (s[p].toNat : Int) = 47 := by rw [hc2]; rfl
                obtain ⟨q, hq⟩ : ∃ q, m.length + 2 = q := ⟨_, rfl⟩
                have w3p : IntKind.i64.wrap ((m.length : Int) + 2) = (q : Int) := by rw [wrap_le _ (by omega) (by omega)]; omega
                have w4p : wrap64 ((m.length : Int) + 2) = (q : Int) := by rw [IntWalk.wrap64_in _ (by omega)]; omega
                rw [HTm.out]
                by_cases hqs : q < s.size
                · have hqi : (q : Int) < (s.size : Int) := by omega
                  have hqn : ¬ (s.size : Int) ≤ (q : Int) := by omega
                  have hc3 : s[q] ≠ 47 := by
                    rw [HX.out _ hqs]
                    simp only [HE.out]
                    rw [List.getElem_append_right (by omega)]
                    simp only [show q - m.length = 2 by omega]
                    have hl : 0 < t.length := by have := HSZ.out; omega
                    intro e
                    refine HT.out ?_
                    rw [List.head?_eq_getElem?, List.getElem?_eq_getElem hl]
                    exact congrArg some e
                  have c3 : ¬ (s[q].toNat : Int) = 47 := fun e => hc3 (UInt8.toNat_inj.1 (by rw [show s[q].toNat = 47 by omega]; rfl))
                  have c4 : ((s[q].toNat : Int) != 47) = true := bne_iff_ne.2 c3
                  have c5 : ((s[q].toNat : Int) == 47) = false := beq_false_of_ne c3
                  clear hp hq hc hc2 hc3 HTm hkm hk
                  generalize m.length = k at *
                  go_wp2_with fail
                  go_ret
                  exact ⟨rfl, B4.out⟩
                · have hqn : (s.size : Int) ≤ (q : Int) := by omega
                  clear hp hq hc hc2 HTm hkm hk
                  generalize m.length = k at *
                  go_wp2_with fail
                  go_ret
                  exact ⟨rfl, B4.out⟩

end Go.Proofs.YtmdjppjfjkgnpaaDoor.tm
