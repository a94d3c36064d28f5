import Derived.Test.YtilhfmhjgfmejaaGreatDoorMRefHost9
namespace Go.Proofs.YtilhfmhjgfmejaaGreatDoor.tm
open Go.ChangeShapes Go.WideShapes Go.ChangeAt Go.RowKit Go.Proofs.YtilhfmhjgfmejaaGreatDoor.common Go.Proofs.YtilhfmhjgfmejaaGreatDoor.bk
attribute [local go_sem ↓] Go.wp_at_zero Go.wp_at_succ

theorem numOf_snoc (c : UInt8) : ∀ (l : List UInt8) (n : Nat), numOf n (l ++ [c]) = 10 * numOf n l + (c.toNat - 48)
  | [], _ => rfl
  | _ :: r, _ => numOf_snoc c r _
theorem numOf_le : ∀ (l : List UInt8) (n : Nat), l.all (Tm.btw 48 57) = true → numOf n l < (n + 1) * 10 ^ l.length
  | [], n, _ => by
    show n < (n + 1) * 1
    omega
  | c :: r, n, h => by
    rw [List.all_cons, Bool.and_eq_true] at h
    have hc := of_decide_eq_true h.1
    have := numOf_le r (10 * n + (c.toNat - 48)) h.2
    show numOf (10 * n + (c.toNat - 48)) r < (n + 1) * 10 ^ (r.length + 1)
    refine Nat.lt_of_lt_of_le this ?_
    rw [Nat.pow_succ, Nat.mul_comm (10 ^ r.length) 10, ← Nat.mul_assoc]
    exact Nat.mul_le_mul_right _ (by omega)
theorem numOf_few (l : List UInt8) (h : l.all (Tm.btw 48 57) = true) (hl : l.length ≤ 5) : numOf 0 l < 100000 := by
  have h1 := numOf_le l 0 h
  have h2 : 10 ^ l.length ≤ 10 ^ 5 := Nat.pow_le_pow_right (by decide) hl
  omega

set_option maxRecDepth 100000 in
set_option maxHeartbeats 1600000 in
theorem refPort_any (s : ByteArray) (w : World) :
    Calls Tryz.prog 125 #[.string s] w fun e w' => e = .returned (.bool (portL s.data.toList)) ∧ w' = w := by
  obtain ⟨R, hR⟩ : ∃ R, R = portL s.data.toList := ⟨_, rfl⟩
  have HW : Hid (R = (!s.data.toList.isEmpty && decide (s.size ≤ 5) && decide ((s.data.toList.headD 0).toNat ≠ 48) && s.data.toList.all (Tm.btw 48 57) && decide (numOf 0 s.data.toList ≤ 65535))) := by
    show _ = _
    rw [hR, port_eq]
    unfold portD
    rw [len_list]
  rw [← hR]
  clear hR
  by_cases he : s = ⟨#[]⟩
  · subst he
    have HQ : Hid (R = false) := HW.out
    go_enter Tryz.func125, Tryz.ntmps125
    go_wp2_with fail
    go_ret
    exact ⟨by rw [HQ.out]; rfl, rfl⟩
  · obtain ⟨h1, h2, h3⟩ := word_ne he
    by_cases hm : 5 < s.size
    · have hmi : (5 : Int) < (s.size : Int) := by omega
      have HQ : Hid (R = false) := by show _ = _; rw [HW.out, decide_eq_false (by omega), Bool.and_false, Bool.false_and, Bool.false_and, Bool.false_and]
      go_enter Tryz.func125, Tryz.ntmps125
      go_wp2_with fail
      go_ret
      exact ⟨by rw [HQ.out]; rfl, rfl⟩
    · have hmi : ¬ (5 : Int) < (s.size : Int) := by omega
      have hp : 0 < s.size := by
        cases hz : s.size with
        | zero => exact absurd (str_nil s (List.eq_nil_of_length_eq_zero (by rw [len_list]; exact hz))) he
        | succ n => omega
      have hpi : (0 : Int) < (s.size : Int) := by omega
      have HHd := head_is s hp
      rw [h2, decide_eq_true (show s.size ≤ 5 by omega), HHd] at HW
      have HT : Hid (∀ k (_ : k < s.size), (s.data.toList.take (k + 1)).all (Tm.btw 48 57) = ((s.data.toList.take k).all (Tm.btw 48 57) && Tm.btw 48 57 s[k])) := fun k h => Tm.all_take _ _ k (by simpa using h)
      have HT2 : Hid (∀ k (_ : k < s.size), s.data.toList.take (k + 1) = s.data.toList.take k ++ [s[k]]) := fun k h => take_snoc s k h
      have HTE : Hid (s.data.toList.take s.size = s.data.toList) := take_all s
      have HA : Hid (∀ k, (s.data.toList.take k).all (Tm.btw 48 57) = false → s.data.toList.all (Tm.btw 48 57) = false) := fun k h => Tm.all_short _ _ k h
      clear HHd he
      rcases is_cases 48 48 rfl s[0] with ⟨u1, a1, a2⟩ | ⟨u1, a1, a2⟩
      · have HQ : Hid (R = false) := by
          show _ = _
          rw [HW.out, decide_eq_false (by have := of_decide_eq_true u1; omega)]
          simp
        go_enter Tryz.func125, Tryz.ntmps125
        go_wp2_with fail
        go_ret
        exact ⟨by rw [HQ.out]; rfl, rfl⟩
      have HQ : Hid (R = (s.data.toList.all (Tm.btw 48 57) && decide (numOf 0 s.data.toList ≤ 65535))) := by
        show _ = _
        rw [HW.out, decide_eq_true (by have := of_decide_eq_false u1; omega)]; rfl
      clear HW
      go_enter Tryz.func125, Tryz.ntmps125
      go_wp2_with fail
      go_loopw [3, 4] (fun n i wr => ∃ k : Nat, k ≤ s.size ∧ i = .int .i64 k ∧ Hid ((s.data.toList.take k).all (Tm.btw 48 57) = true) ∧ (∃ v : Nat, v < 100000 ∧ n = .int .i64 v ∧ Hid (v = numOf 0 (s.data.toList.take k))) ∧ wr = w) (fun _ i _ => s.size - (intOf i).toNat)
      case atStart => exact ⟨0, Nat.zero_le _, rfl, by show _ = _; simp, ⟨0, by omega, rfl, rfl⟩, rfl⟩
      case round =>
        obtain ⟨k, hk, rfl, HAK, ⟨v, hv, rfl, HV⟩, rfl⟩ := hrel
        by_cases hlt : k < s.size
        · have hki : (k : Int) < (s.size : Int) := by omega
          have HTK := hide (HT.out k hlt)
          have hc := s[k].toNat_lt
          rcases btw_cases 48 57 48 57 rfl rfl s[k] with ⟨b1, b2, b3⟩ | ⟨b1, b2, b3⟩ | ⟨b1, b2⟩
          · have HR : Hid ((s.data.toList.take (k + 1)).all (Tm.btw 48 57) = true) := by
              show _ = _
              rw [HTK.out, b1, HAK.out]; rfl
            obtain ⟨v2, hv2⟩ : ∃ v2, v2 = 10 * v + (s[k].toNat - 48) := ⟨_, rfl⟩
            have HV2 : Hid (v2 = numOf 0 (s.data.toList.take (k + 1))) := by
              show _ = _
              rw [HT2.out k hlt, numOf_snoc, ← HV.out]
              exact hv2
            have hv3 : v2 < 100000 := by
              rw [HV2.out]
              exact numOf_few _ HR.out (by rw [List.length_take, len_list]; omega)
            have c1 : ¬ (s[k].toNat : Int) < 48 := by omega
            have c2 : ¬ (57 : Int) < (s[k].toNat : Int) := by omega
            obtain ⟨D, hD⟩ : ∃ D : Nat, s[k].toNat = 48 + D := ⟨s[k].toNat - 48, by omega⟩
            have hD9 : D ≤ 9 := by omega
            have e1 : (s[k].toNat : Int) - 48 = (D : Int) := by omega
            obtain rfl : v2 = 10 * v + D := by omega
            clear hv2 hD
            go_wp2_with fail
            go_roundw
            case rel => exact ⟨k + 1, by omega, by go_num, HR, ⟨10 * v + D, hv3, by first | go_num | (congr 1; omega), HV2⟩, by trivial⟩
            case measure => simp [intOf]; omega
          · have HR : Hid (R = false) := by
              show _ = _
              rw [HQ.out, HA.out (k + 1) (by rw [HTK.out, b1, Bool.and_false]), Bool.false_and]
            have c1 : ¬ (s[k].toNat : Int) < 48 := by omega
            have c2 : (57 : Int) < (s[k].toNat : Int) := by have := of_decide_eq_false b3; omega
            go_wp2_with fail
            go_ret
            exact ⟨by rw [HR.out]; rfl, rfl⟩
          · have HR : Hid (R = false) := by
              show _ = _
              rw [HQ.out, HA.out (k + 1) (by rw [HTK.out, b1, Bool.and_false]), Bool.false_and]
            have c1 : (s[k].toNat : Int) < 48 := by omega
            go_wp2_with fail
            go_ret
            exact ⟨by rw [HR.out]; rfl, rfl⟩
        · obtain rfl : k = s.size := by omega
          rw [HTE.out] at HAK HV
          have HR : Hid (R = decide ((v : Int) ≤ 65535)) := by
            show _ = _
            rw [HQ.out, HAK.out, ← HV.out, Bool.true_and]
            exact decide_eq_decide.2 (by omega)
          go_wp2_with fail
          go_ret
          exact ⟨by rw [HR.out]; rfl, rfl⟩

end Go.Proofs.YtilhfmhjgfmejaaGreatDoor.tm

namespace Go.Proofs.YtilhfmhjgfmejaaGreatDoor.tm
open Go.ChangeShapes Go.WideShapes Go.ChangeAt Go.RowKit Go.Proofs.YtilhfmhjgfmejaaGreatDoor.common Go.Proofs.YtilhfmhjgfmejaaGreatDoor.bk
attribute [local go_sem ↓] Go.wp_at_zero Go.wp_at_succ

set_option maxRecDepth 100000 in
set_option maxHeartbeats 12800000 in
theorem refRuns_any (s : ByteArray) (n : Nat) (ask : Bool) (w : World) (hs : s.size ≤ 4611686018427387900) (hn : n ≤ s.size) :
    Calls Tryz.prog 77 #[.string s, .int .i64 (n : Int), .bool ask] w fun e w' => e = .returned (.bool (madeOf (moreB ask) (s.data.toList.drop n))) ∧ w' = w := by
  obtain ⟨R, hR⟩ : ∃ R, R = madeOf (moreB ask) (s.data.toList.drop n) := ⟨_, rfl⟩
  have HRR := hide hR
  rw [← hR]
  clear hR
  go_enter Tryz.func77, Tryz.ntmps77
  go_wp2_with fail
  go_loopw [1] (fun i wr => ∃ k : Nat, k ≤ s.size ∧ i = .int .i64 k ∧ Hid (R = madeOf (moreB ask) (s.data.toList.drop k)) ∧ wr = w) (fun i _ => s.size - (intOf i).toNat)
  case atStart => exact ⟨n, hn, rfl, HRR, rfl⟩
  case round =>
    obtain ⟨k, hk, rfl, HK, rfl⟩ := hrel
    by_cases hlt : k < s.size
    · have hki : (k : Int) < (s.size : Int) := by omega
      have HD := hide (drop_at2 s k hlt)
      have HU := hide (pctw.refUnreserved_any s[k] wr)
      have HMk := hide (refMark_any s[k] wr)
      have HO := hide (ok_is ask s[k])
      have HYes : Hid (okB (moreB ask) s[k] = true → R = madeOf (moreB ask) (s.data.toList.drop (k + 1))) := by
        intro h
        have hne : s[k] ≠ 37 := fun e => by rw [e, pct_no] at h; cases h
        rw [HK.out, HD.out, made_ok _ _ hne, h]; rfl
      have HNo : Hid (okB (moreB ask) s[k] = false → s[k].toNat ≠ 37 → R = false) := by
        intro h h37
        have hne : s[k] ≠ 37 := fun e => h37 (by rw [e]; rfl)
        rw [HK.out, HD.out, made_ok _ _ hne, h]; rfl
      have HPc : Hid (s[k].toNat = 37 → R = (hasD (s.data.toList.drop k) && madeOf (moreB ask) (s.data.toList.drop (k + 3)))) := by
        intro h
        have he : s[k] = 37 := UInt8.toNat_inj.1 h
        rw [HK.out, HD.out, he, made_pct, List.drop_drop]
      generalize Pct.unres s[k] = un at *
      generalize mrkB s[k] = ma at *
      clear HK HD
      have yes : okB (moreB ask) s[k] = true → True := fun _ => trivial
      cases un with
      | true =>
        have HN : Hid (R = madeOf (moreB ask) (s.data.toList.drop (k + 1))) := HYes.out (by rw [HO.out]; rfl)
        clear HYes HNo HPc HO yes
        go_wp2_with (first
          | (go_at_call 96; refine HU.out.mono ?_; rintro x w2 ⟨rfl, rfl⟩)
          | (go_at_call 97; refine HMk.out.mono ?_; rintro x w2 ⟨rfl, rfl⟩))
        go_roundw
        case rel => exact ⟨k + 1, by omega, by go_num, HN, by trivial⟩
        case measure => simp [intOf]; omega
      | false =>
      cases ma with
      | true =>
        have HN : Hid (R = madeOf (moreB ask) (s.data.toList.drop (k + 1))) := HYes.out (by rw [HO.out]; rfl)
        clear HYes HNo HPc HO yes
        go_wp2_with (first
          | (go_at_call 96; refine HU.out.mono ?_; rintro x w2 ⟨rfl, rfl⟩)
          | (go_at_call 97; refine HMk.out.mono ?_; rintro x w2 ⟨rfl, rfl⟩))
        go_roundw
        case rel => exact ⟨k + 1, by omega, by go_num, HN, by trivial⟩
        case measure => simp [intOf]; omega
      | false =>
      rw [Bool.false_or, Bool.false_or] at HO
      rcases is_cases 58 58 rfl s[k] with ⟨a1, a2, a3⟩ | ⟨a1, a2, a3⟩
      · have HN : Hid (R = madeOf (moreB ask) (s.data.toList.drop (k + 1))) := HYes.out (by rw [HO.out, a1]; first | rfl | simp)
        unfold pctw.B at HU; unfold B at HMk
        rw [a2] at HU HMk
        clear HYes HNo HPc HO yes
        go_wp2_with (first
          | (go_at_call 96; refine HU.out.mono ?_; rintro x w2 ⟨rfl, rfl⟩)
          | (go_at_call 97; refine HMk.out.mono ?_; rintro x w2 ⟨rfl, rfl⟩))
        go_roundw
        case rel => exact ⟨k + 1, by omega, by go_num, HN, by trivial⟩
        case measure => simp [intOf]; omega
      rw [a1, Bool.false_or] at HO
      rcases is_cases 64 64 rfl s[k] with ⟨b1, b2, b3⟩ | ⟨b1, b2, b3⟩
      · have HN : Hid (R = madeOf (moreB ask) (s.data.toList.drop (k + 1))) := HYes.out (by rw [HO.out, b1]; first | rfl | simp)
        unfold pctw.B at HU; unfold B at HMk
        rw [b2] at HU HMk
        clear HYes HNo HPc HO yes
        go_wp2_with (first
          | (go_at_call 96; refine HU.out.mono ?_; rintro x w2 ⟨rfl, rfl⟩)
          | (go_at_call 97; refine HMk.out.mono ?_; rintro x w2 ⟨rfl, rfl⟩))
        go_roundw
        case rel => exact ⟨k + 1, by omega, by go_num, HN, by trivial⟩
        case measure => simp [intOf]; omega
      rw [b1, Bool.false_or] at HO
      rcases is_cases 47 47 rfl s[k] with ⟨c1, c2, c3⟩ | ⟨c1, c2, c3⟩
      · have HN : Hid (R = madeOf (moreB ask) (s.data.toList.drop (k + 1))) := HYes.out (by rw [HO.out, c1]; first | rfl | simp)
        unfold pctw.B at HU; unfold B at HMk
        rw [c2] at HU HMk
        clear HYes HNo HPc HO yes
        go_wp2_with (first
          | (go_at_call 96; refine HU.out.mono ?_; rintro x w2 ⟨rfl, rfl⟩)
          | (go_at_call 97; refine HMk.out.mono ?_; rintro x w2 ⟨rfl, rfl⟩))
        go_roundw
        case rel => exact ⟨k + 1, by omega, by go_num, HN, by trivial⟩
        case measure => simp [intOf]; omega
      rw [c1, Bool.false_or] at HO
      have e63 : ask = true ∧ s[k].toNat = 63 ∨ (ask && decide (s[k].toNat = 63)) = false := by
        cases ask with
        | false => exact Or.inr rfl
        | true =>
          by_cases h : s[k].toNat = 63
          · exact Or.inl ⟨rfl, h⟩
          · exact Or.inr (by rw [decide_eq_false h]; rfl)
      rcases e63 with ⟨rfl, h63⟩ | h63
      · have HN : Hid (R = madeOf (moreB true) (s.data.toList.drop (k + 1))) := HYes.out (by rw [HO.out, decide_eq_true h63]; rfl)
        have h63i : (s[k].toNat : Int) = 63 := by omega
        unfold pctw.B at HU; unfold B at HMk
        rw [h63i] at HU HMk
        clear h63
        clear HYes HNo HPc HO yes
        go_wp2_with (first
          | (go_at_call 96; refine HU.out.mono ?_; rintro x w2 ⟨rfl, rfl⟩)
          | (go_at_call 97; refine HMk.out.mono ?_; rintro x w2 ⟨rfl, rfl⟩))
        go_roundw
        case rel => exact ⟨k + 1, by omega, by go_num, HN, by trivial⟩
        case measure => simp [intOf]; omega
      rw [h63] at HO
      have no63 : (ask = false) ∨ (ask = true ∧ ¬ (s[k].toNat : Int) = 63) := by
        cases ask with
        | false => exact Or.inl rfl
        | true => exact Or.inr ⟨rfl, fun e => by rw [decide_eq_true (by omega : s[k].toNat = 63)] at h63; cases h63⟩
      clear h63
      rcases is_cases 37 37 rfl s[k] with ⟨d1, d2, d3⟩ | ⟨d1, d2, d3⟩
      · have HP := hide (HPc.out (of_decide_eq_true d1))
        unfold pctw.B at HU; unfold B at HMk
        rw [d2] at HU HMk
        have d63 : ((s[k].toNat : Int) == 63) = false := beq_false_of_ne (by omega)
        clear HYes HNo HPc HO yes
        by_cases h2 : k + 2 < s.size
        · obtain ⟨p, hp⟩ : ∃ p, k + 1 = p := ⟨_, rfl⟩
          obtain ⟨q, hq⟩ : ∃ q, k + 2 = q := ⟨_, rfl⟩
          have hps : p < s.size := by omega
          have hqs : q < s.size := by omega
          have hpi : (p : Int) < (s.size : Int) := by omega
          have hqi : (q : Int) < (s.size : Int) := by omega
          have HHx := hide (hasD_at s k h2)
          simp only [hp, hq] at HHx
          have w1 : IntKind.i64.wrap ((k : Int) + 1) = (p : Int) := by rw [wrap_le _ (by omega) (by omega)]; omega
          have w2 : wrap64 ((k : Int) + 1) = (p : Int) := by rw [IntWalk.wrap64_in _ (by omega)]; omega
          have w3 : IntKind.i64.wrap ((k : Int) + 2) = (q : Int) := by rw [wrap_le _ (by omega) (by omega)]; omega
          have w4 : wrap64 ((k : Int) + 2) = (q : Int) := by rw [IntWalk.wrap64_in _ (by omega)]; omega
          have HX1 := hv_cases s[p]
          have HX2 := hv_cases s[q]
          rw [HHx.out] at HP
          have HP2 : Hid (R = ((hexB (s[p]'hps) && hexB (s[q]'hqs)) && madeOf (moreB ask) (s.data.toList.drop (k + 3)))) := HP.out
          clear HHx HP
          have HK3 := hide hq
          clear hp hq h2
          rcases HX1 with ⟨g1, g1i⟩ | ⟨g1, g1i⟩
          · rcases HX2 with ⟨g2, g2i⟩ | ⟨g2, g2i⟩
            · have HN : Hid (R = madeOf (moreB ask) (s.data.toList.drop (k + 3))) := by show _ = _; rw [HP2.out, g1, g2]; rfl
              clear g1 g2 HP2
              rcases no63 with rfl | ⟨rfl, n63⟩
              all_goals
                go_wp2_with (first
          | (go_at_call 96; refine HU.out.mono ?_; rintro x w2 ⟨rfl, rfl⟩)
          | (go_at_call 97; refine HMk.out.mono ?_; rintro x w2 ⟨rfl, rfl⟩)
          | (go_at_call 98; refine (refHex_any _ _).mono ?_; rintro x w2 ⟨rfl, rfl⟩))
                go_roundw
                case rel => exact ⟨k + 3, by have := HK3.out; omega, by go_num, HN, by trivial⟩
                case measure => have := HK3.out; simp [intOf]; omega
            · have HN : Hid (R = false) := by show _ = _; rw [HP2.out, g2, Bool.and_false, Bool.false_and]
              clear g1 g2 HP2
              rcases no63 with rfl | ⟨rfl, n63⟩
              all_goals
                go_wp2_with (first
          | (go_at_call 96; refine HU.out.mono ?_; rintro x w2 ⟨rfl, rfl⟩)
          | (go_at_call 97; refine HMk.out.mono ?_; rintro x w2 ⟨rfl, rfl⟩)
          | (go_at_call 98; refine (refHex_any _ _).mono ?_; rintro x w2 ⟨rfl, rfl⟩))
                go_ret
                exact ⟨by rw [HN.out]; rfl, rfl⟩
          · have HN : Hid (R = false) := by show _ = _; rw [HP2.out, g1, Bool.false_and, Bool.false_and]
            rcases HX2 with ⟨g2, g2i⟩ | ⟨g2, g2i⟩
            all_goals
              clear g1 g2 HP2
              rcases no63 with rfl | ⟨rfl, n63⟩
              all_goals
                go_wp2_with (first
          | (go_at_call 96; refine HU.out.mono ?_; rintro x w2 ⟨rfl, rfl⟩)
          | (go_at_call 97; refine HMk.out.mono ?_; rintro x w2 ⟨rfl, rfl⟩)
          | (go_at_call 98; refine (refHex_any _ _).mono ?_; rintro x w2 ⟨rfl, rfl⟩))
                go_ret
                exact ⟨by rw [HN.out]; rfl, rfl⟩
        · have HN : Hid (R = false) := by show _ = _; rw [HP.out, hasD_no s k h2]; rfl
          have h2i : ¬ (k : Int) + 2 < (s.size : Int) := by omega
          have w3 : IntKind.i64.wrap ((k : Int) + 2) = (k : Int) + 2 := wrap_le _ (by omega) (by omega)
          have w4 : wrap64 ((k : Int) + 2) = (k : Int) + 2 := IntWalk.wrap64_in _ (by omega)
          clear HP h2
          rcases no63 with rfl | ⟨rfl, n63⟩
          all_goals
            go_wp2_with (first
          | (go_at_call 96; refine HU.out.mono ?_; rintro x w2 ⟨rfl, rfl⟩)
          | (go_at_call 97; refine HMk.out.mono ?_; rintro x w2 ⟨rfl, rfl⟩))
            go_ret
            exact ⟨by rw [HN.out]; rfl, rfl⟩
      · have HN : Hid (R = false) := HNo.out HO.out (of_decide_eq_false d1)
        clear HYes HNo HPc HO yes
        rcases no63 with rfl | ⟨rfl, n63⟩
        all_goals
          go_wp2_with (first
          | (go_at_call 96; refine HU.out.mono ?_; rintro x w2 ⟨rfl, rfl⟩)
          | (go_at_call 97; refine HMk.out.mono ?_; rintro x w2 ⟨rfl, rfl⟩))
          go_ret
          exact ⟨by rw [HN.out]; rfl, rfl⟩
    · obtain rfl : k = s.size := by omega
      have HN : Hid (R = true) := by show _ = _; rw [HK.out, List.drop_eq_nil_of_le (by rw [len_list]; exact Nat.le_refl _)]; rfl
      clear HK
      go_wp2_with fail
      go_ret
      exact ⟨by rw [HN.out]; rfl, rfl⟩

end Go.Proofs.YtilhfmhjgfmejaaGreatDoor.tm
