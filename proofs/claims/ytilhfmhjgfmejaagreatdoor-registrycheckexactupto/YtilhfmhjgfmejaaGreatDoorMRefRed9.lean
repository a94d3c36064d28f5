import Derived.Test.YtilhfmhjgfmejaaGreatDoorMRefWeb9
import Derived.Test.YtilhfmhjgfmejaaGreatDoorMRefPriv9
import Derived.Test.YtilhfmhjgfmejaaGreatDoorMTmSplit
namespace Go.Proofs.YtilhfmhjgfmejaaGreatDoor.tm
open Go.ChangeShapes Go.WideShapes Go.ChangeAt Go.RowKit Go.Proofs.YtilhfmhjgfmejaaGreatDoor.common Go.Proofs.YtilhfmhjgfmejaaGreatDoor.bk
open Go.Proofs.YtilhfmhjgfmejaaGreatDoor.fd (before behind cut_no cut_at)
attribute [local go_sem ↓] Go.wp_at_zero Go.wp_at_succ

set_option maxRecDepth 100000 in
set_option maxHeartbeats 3200000 in
theorem refWeb_any (s : ByteArray) (loc : Bool) (w : World) (hs : s.size ≤ 4611686018427387900) :
    Calls Tryz.prog 79 #[.string s, .bool loc] w fun e w' => e = .returned (.bool (webR (nmB loc) s.data.toList)) ∧ w' = w := by
  obtain ⟨R, hR⟩ : ∃ R, R = webR (nmB loc) s.data.toList := ⟨_, rfl⟩
  have HR := hide hR
  rw [← hR]
  clear hR
  have HT : Hid (∀ k (_ : k < s.size), s.data.toList.take (k + 1) = s.data.toList.take k ++ [s[k]]) := fun k h => take_snoc s k h
  have HE : Hid (s.data.toList.take s.size = s.data.toList) := take_all s
  go_enter Tryz.func79, Tryz.ntmps79
  go_wp2_with fail
  go_loopw [5] (fun i wr => ∃ k : Nat, k ≤ s.size ∧ i = .int .i64 (k : Int) ∧ Hid (∀ x ∈ s.data.toList.take k, ([47] : List UInt8).contains x = false) ∧ wr = w) (fun i _ => s.size - (intOf i).toNat)
  case atStart => exact ⟨0, Nat.zero_le _, rfl, fun x h => by simp at h, rfl⟩
  case round =>
    obtain ⟨k, hk, rfl, HK, rfl⟩ := hrel
    by_cases hlt : k < s.size
    · have hki : (k : Int) < (s.size : Int) := by omega
      have hke : (k : Int) ≤ (s.size : Int) := by omega
      rcases is_cases 47 47 rfl s[k] with ⟨a1, a2, a3⟩ | ⟨a1, a2, a3⟩
      · have e47 : s[k] = 47 := UInt8.toNat_inj.1 (of_decide_eq_true a1)
        have e := hd_app (b := s.data.toList.drop k) HK.out (Or.inr ⟨47, _, by rw [drop_at2 s k hlt, e47], rfl⟩)
        rw [List.take_append_drop] at e
        have HF : Hid (R = (siteR (nmB loc) (s.extract 0 k).data.toList && madeOf (moreB false) (s.data.toList.drop k))) := by
          show _ = _
          rw [HR.out]
          unfold webR
          rw [e.1, e.2, ext_to]; rfl
        have HS := hide (fun W => refSite_any (s.extract 0 k) loc W (by rw [ByteArray.size_extract]; omega))
        have HRn := hide (fun W => refRuns_any s k false W (by omega) hk)
        clear e e47 HR
        generalize siteR (nmB loc) (s.extract 0 k).data.toList = t at *
        generalize madeOf (moreB false) (s.data.toList.drop k) = u at *
        cases t
        all_goals
          go_wp2_with (first
            | (go_at_call 99; refine (HS.out _).mono ?_; rintro x w2 ⟨rfl, rfl⟩)
            | (go_at_call 77; refine (HRn.out _).mono ?_; rintro x w2 ⟨rfl, rfl⟩))
          go_ret
          exact ⟨by rw [HF.out]; rfl, rfl⟩
      · have HK2 : Hid (∀ x ∈ s.data.toList.take (k + 1), ([47] : List UInt8).contains x = false) := by
          show ∀ x ∈ s.data.toList.take (k + 1), ([47] : List UInt8).contains x = false
          rw [HT.out k hlt]
          intro x hx
          rcases List.mem_append.1 hx with hx | hx
          · exact HK.out x hx
          · rw [List.mem_singleton.1 hx, Bool.eq_false_iff]
            intro hc
            have : s[k] = 47 := by simpa using hc
            exact of_decide_eq_false a1 (by rw [this]; rfl)
        go_wp2_with fail
        go_roundw
        case rel => exact ⟨k + 1, by omega, by go_num, HK2, by trivial⟩
        case measure => simp [intOf]; omega
    · obtain rfl : k = s.size := by omega
      rw [HE.out] at HK
      have e := hd_app (b := []) HK.out (Or.inl rfl)
      rw [List.append_nil] at e
      have HF : Hid (R = siteR (nmB loc) s.data.toList) := by
        show _ = _
        rw [HR.out]
        unfold webR
        rw [e.1, e.2, show madeOf [47] [] = true from rfl, Bool.and_true]
      have HS := hide (fun W => refSite_any s loc W hs)
      have hxx : ¬ (s.size : Int) < (s.size : Int) := by omega
      clear e HR
      generalize siteR (nmB loc) s.data.toList = t at *
      go_wp2_with (go_at_call 99; refine (HS.out _).mono ?_; rintro x w2 ⟨rfl, rfl⟩)
      go_ret
      exact ⟨by rw [HF.out]; rfl, rfl⟩

set_option maxRecDepth 100000 in
set_option maxHeartbeats 1600000 in
theorem refBegins_any (s h : ByteArray) (w : World) :
    Calls Tryz.prog 78 #[.string s, .string h] w fun e w' => e = .returned (.bool (h.data.toList.isPrefixOf s.data.toList)) ∧ w' = w := by
  by_cases hle : h.size ≤ s.size
  · have h2 : (h.size : Int) ≤ (s.size : Int) := by omega
    have HX : Hid ((s.extract 0 h.size).data.toList = s.data.toList.take h.size) := ext_to s h.size
    go_enter Tryz.func78, Tryz.ntmps78
    go_wp2
    go_ret
    refine ⟨?_, rfl⟩
    rw [pre_take, len_list, ← HX.out]
    by_cases he : s.extract 0 h.size = h
    · rw [decide_eq_true (by rw [he])]; simp [he]
    · rw [decide_eq_false (fun h => he (ByteArray.ext (Array.toList_inj.1 h)))]
      have hb : ((s.extract 0 h.size).toList == h.toList) = false := beq_false_of_ne (fun h => he (ByteArray.ext (Array.toList_inj.1 (by rw [← ByteArray.toList_eq, ← ByteArray.toList_eq]; exact h))))
      show Ending.returned (Value.bool ((s.extract 0 h.size).toList == h.toList)) = _
      rw [hb]
  · have h2 : ¬ (h.size : Int) ≤ (s.size : Int) := by omega
    have h2d : decide ((h.size : Int) ≤ (s.size : Int)) = false := decide_eq_false h2
    rw [pre_short _ _ (by rw [len_list, len_list]; omega)]
    go_enter Tryz.func78, Tryz.ntmps78
    go_wp2
    go_ret
    exact ⟨rfl, rfl⟩

/-- what the document asks of what stands ahead of the query -/
def baseR (b : List UInt8) : Bool := if mHttps.isPrefixOf b then webR hostR (b.drop 8) else if mHttp.isPrefixOf b then webR isLoc (b.drop 7) else privR b
theorem refL_is (l : List UInt8) : refL l = (decide (l.length ≤ 512) && (madeOf [47, 63] (behind 63 l) && baseR (before 63 l))) := rfl
theorem pre_len {p l : List UInt8} (h : p.isPrefixOf l = true) : p.length ≤ l.length := by
  have := congrArg List.length (pre_app h)
  rw [List.length_append] at this
  omega

set_option maxRecDepth 100000 in
set_option maxHeartbeats 6400000 in
theorem refRed_any (s : ByteArray) (w : World) (hs : s.size ≤ 4611686018427387900) :
    Calls Tryz.prog 61 #[.string s] w fun e w' => e = .returned (.bool (refL s.data.toList)) ∧ Below w.heap.size w w' := by
  obtain ⟨R, hR⟩ : ∃ R, R = refL s.data.toList := ⟨_, rfl⟩
  have HR : Hid (R = (decide (s.size ≤ 512) && (madeOf [47, 63] (behind 63 s.data.toList) && baseR (before 63 s.data.toList)))) := by
    show _ = _
    rw [hR, refL_is, len_list]
  rw [← hR]
  clear hR
  by_cases hlong : 512 < s.size
  · have hi : (512 : Int) < (s.size : Int) := by omega
    have HF : Hid (R = false) := by show _ = _; rw [HR.out, decide_eq_false (by omega)]; rfl
    go_enter Tryz.func61, Tryz.ntmps61
    go_wp2_with fail
    go_ret
    exact ⟨by rw [HF.out]; rfl, Below.refl _ _⟩
  have hi : ¬ (512 : Int) < (s.size : Int) := by omega
  rw [decide_eq_true (show s.size ≤ 512 by omega), Bool.true_and] at HR
  have HSp := hide (refSplit_any s w (by omega))
  have l1 := before_le 63 s.data.toList
  have l2 := behind_le 63 s.data.toList
  rw [len_list] at l1 l2
  obtain ⟨b, hb⟩ : ∃ b : ByteArray, b = ⟨(before 63 s.data.toList).toArray⟩ := ⟨_, rfl⟩
  obtain ⟨q, hq⟩ : ∃ q : ByteArray, q = ⟨(behind 63 s.data.toList).toArray⟩ := ⟨_, rfl⟩
  have hbl : b.data.toList = before 63 s.data.toList := by rw [hb]
  have hql : q.data.toList = behind 63 s.data.toList := by rw [hq]
  have hbs : b.size ≤ 512 := by rw [hb, str_size]; omega
  have hqs : q.size ≤ 512 := by rw [hq, str_size]; omega
  rw [← hbl, ← hql] at HR
  unfold S at HSp
  rw [← hb, ← hq] at HSp
  clear hb hq hbl hql l1 l2
  have HRn := hide (fun W => refRuns_any q 0 true W (by omega) (Nat.zero_le _))
  rw [List.drop_zero] at HRn
  change Hid (∀ W, Calls _ _ _ _ fun e w' => e = .returned (.bool (madeOf [47, 63] q.data.toList)) ∧ _) at HRn
  have HB1 := hide (fun W => refBegins_any b ⟨mHttps.toArray⟩ W)
  have HB2 := hide (fun W => refBegins_any b ⟨mHttp.toArray⟩ W)
  change Hid (∀ W, Calls _ _ _ _ fun e w' => e = .returned (.bool (mHttps.isPrefixOf b.data.toList)) ∧ _) at HB1
  change Hid (∀ W, Calls _ _ _ _ fun e w' => e = .returned (.bool (mHttp.isPrefixOf b.data.toList)) ∧ _) at HB2
  generalize madeOf [47, 63] q.data.toList = t at *
  cases t with
  | false =>
    have HF : Hid (R = false) := HR.out
    go_enter Tryz.func61, Tryz.ntmps61
    go_wp2_with fail
    refine HSp.out.mono ?_
    rintro x w1 ⟨rfl, hb1⟩
    have B1 := hide hb1
    clear hb1
    go_wp2_with (go_at_call 77; refine (HRn.out _).mono ?_; rintro x w2 ⟨rfl, hw⟩; obtain rfl := hw.symm)
    go_ret
    exact ⟨by rw [HF.out]; rfl, B1.out⟩
  | true =>
  have HF : Hid (R = baseR b.data.toList) := HR.out
  clear HR
  cases h1 : mHttps.isPrefixOf b.data.toList with
  | true =>
    have hl := pre_len h1
    rw [len_list] at hl
    have h8 : 8 ≤ b.size := hl
    have h8i : (8 : Int) ≤ (b.size : Int) := by omega
    have HW := hide (fun W => refWeb_any (b.extract 8 b.size) false W (by rw [ByteArray.size_extract]; omega))
    have HG : Hid (R = webR (nmB false) (b.extract 8 b.size).data.toList) := by
      show _ = _
      rw [HF.out]
      unfold baseR
      rw [if_pos h1, ext_from]; rfl
    rw [h1] at HB1
    generalize webR (nmB false) (b.extract 8 b.size).data.toList = t at *
    clear h1 hl HF HB2
    go_enter Tryz.func61, Tryz.ntmps61
    go_wp2_with fail
    refine HSp.out.mono ?_
    rintro x w1 ⟨rfl, hb1⟩
    have B1 := hide hb1
    clear hb1
    go_wp2_with (first
      | (go_at_call 77; refine (HRn.out _).mono ?_; rintro x w2 ⟨rfl, hw⟩; obtain rfl := hw.symm)
      | (go_at_call 78; refine (HB1.out _).mono ?_; rintro x w2 ⟨rfl, hw⟩; obtain rfl := hw.symm)
      | (go_at_call 79; refine (HW.out _).mono ?_; rintro x w2 ⟨rfl, hw⟩; obtain rfl := hw.symm))
    go_ret
    exact ⟨by rw [HG.out]; rfl, B1.out⟩
  | false =>
  cases h2 : mHttp.isPrefixOf b.data.toList with
  | true =>
    have hl := pre_len h2
    rw [len_list] at hl
    have h7 : 7 ≤ b.size := hl
    have h7i : (7 : Int) ≤ (b.size : Int) := by omega
    have HW := hide (fun W => refWeb_any (b.extract 7 b.size) true W (by rw [ByteArray.size_extract]; omega))
    have HG : Hid (R = webR (nmB true) (b.extract 7 b.size).data.toList) := by
      show _ = _
      rw [HF.out]
      unfold baseR
      rw [if_neg (by rw [h1]; decide), if_pos h2, ext_from]; rfl
    rw [h1] at HB1
    rw [h2] at HB2
    generalize webR (nmB true) (b.extract 7 b.size).data.toList = t at *
    clear h1 h2 hl HF
    go_enter Tryz.func61, Tryz.ntmps61
    go_wp2_with fail
    refine HSp.out.mono ?_
    rintro x w1 ⟨rfl, hb1⟩
    have B1 := hide hb1
    clear hb1
    go_wp2_with (go_at_call 77; refine (HRn.out _).mono ?_; rintro x w2 ⟨rfl, hw⟩; obtain rfl := hw.symm)
    refine (HB1.out _).mono ?_
    rintro x w3 ⟨rfl, hw⟩
    obtain rfl := hw.symm
    go_wp2_with fail
    refine (HB2.out _).mono ?_
    rintro x w4 ⟨rfl, hw⟩
    obtain rfl := hw.symm
    go_wp2_with (go_at_call 79; refine (HW.out _).mono ?_; rintro x w5 ⟨rfl, hw⟩; obtain rfl := hw.symm)
    go_ret
    exact ⟨by rw [HG.out]; rfl, B1.out⟩
  | false =>
    have HG : Hid (R = privR b.data.toList) := by
      show _ = _
      rw [HF.out]
      unfold baseR
      rw [if_neg (by rw [h1]; decide), if_neg (by rw [h2]; decide)]
    rw [h1] at HB1
    rw [h2] at HB2
    clear h1 h2 HF
    have HT : Hid (∀ k (_ : k < b.size), b.data.toList.take (k + 1) = b.data.toList.take k ++ [b[k]]) := fun k h => take_snoc b k h
    have HE : Hid (b.data.toList.take b.size = b.data.toList) := take_all b
    have hS1 : Hid (∀ z : ByteArray, ∀ W, Calls Tryz.prog 78 #[.string z, .string ⟨#[47]⟩] W fun e w' => e = .returned (.bool ([47].isPrefixOf z.data.toList)) ∧ w' = W) := fun z W => refBegins_any z ⟨#[47]⟩ W
    have hS2 : Hid (∀ z : ByteArray, ∀ W, Calls Tryz.prog 78 #[.string z, .string ⟨#[47, 47]⟩] W fun e w' => e = .returned (.bool ([47, 47].isPrefixOf z.data.toList)) ∧ w' = W) := fun z W => refBegins_any z ⟨#[47, 47]⟩ W
    go_enter Tryz.func61, Tryz.ntmps61
    go_wp2_with fail
    refine HSp.out.mono ?_
    rintro x w1 ⟨rfl, hb1⟩
    have B1 := hide hb1
    clear hb1
    go_wp2_with (go_at_call 77; refine (HRn.out _).mono ?_; rintro x w2 ⟨rfl, hw⟩; obtain rfl := hw.symm)
    refine (HB1.out _).mono ?_
    rintro x w3 ⟨rfl, hw⟩
    obtain rfl := hw.symm
    go_wp2_with fail
    refine (HB2.out _).mono ?_
    rintro x w4 ⟨rfl, hw⟩
    obtain rfl := hw.symm
    go_wp2_with fail
    go_loopw [9] (fun i wr => ∃ k : Nat, k ≤ b.size ∧ i = .int .i64 (k : Int) ∧ Hid (∀ x ∈ b.data.toList.take k, x ≠ (58 : UInt8)) ∧ w1 = wr) (fun i _ => b.size - (intOf i).toNat)
    case atStart => exact ⟨0, Nat.zero_le _, rfl, fun x h => by simp at h, rfl⟩
    case round =>
      obtain ⟨k, hk, rfl, HK, rfl⟩ := hrel
      by_cases hlt : k < b.size
      · have hki : (k : Int) < (b.size : Int) := by omega
        have hke : (k : Int) ≤ (b.size : Int) := by omega
        rcases is_cases 58 58 rfl b[k] with ⟨a1, a2, a3⟩ | ⟨a1, a2, a3⟩
        · have e58 : b[k] = 58 := UInt8.toNat_inj.1 (of_decide_eq_true a1)
          have e3 : b.data.toList = b.data.toList.take k ++ 58 :: b.data.toList.drop (k + 1) := by
            have h1 := drop_at2 b k hlt
            rw [e58] at h1
            rw [← h1, List.take_append_drop]
          obtain ⟨c1, c2, c3⟩ := cut_at (r := b.data.toList.drop (k + 1)) HK.out
          rw [← e3] at c1 c2 c3
          have HX : Hid (R = (privS (b.extract 0 k).data.toList && [47].isPrefixOf (b.extract (k + 1) b.size).data.toList && !([47, 47].isPrefixOf (b.extract (k + 1) b.size).data.toList) && madeOf (moreB false) (b.extract (k + 1) b.size).data.toList)) := by
            show _ = _
            rw [HG.out]
            unfold privR
            rw [c1, c2, c3, Bool.true_and, ext_to, ext_from]; rfl
          clear c1 c2 c3 e3 e58 HG
          have hk1 : (k : Int) + 1 ≤ (b.size : Int) := by omega
          have h10 : (0 : Int) ≤ (k : Int) + 1 := by omega
          have h1t : ((k : Int) + 1).toNat = k + 1 := by omega
          have ww : IntKind.i64.wrap ((k : Int) + 1) = (k : Int) + 1 := wrap_le _ (by omega) (by omega)
          have HPv := hide (fun W => refPriv_any (b.extract 0 k) W (by rw [ByteArray.size_extract]; omega))
          have HS1 := hide (hS1.out (b.extract (k + 1) b.size))
          have HS2 := hide (hS2.out (b.extract (k + 1) b.size))
          have HRm := hide (fun W => refRuns_any (b.extract (k + 1) b.size) 0 false W (by rw [ByteArray.size_extract]; omega) (Nat.zero_le _))
          rw [List.drop_zero] at HRm
          generalize privS (b.extract 0 k).data.toList = p1 at *
          generalize ([47] : List UInt8).isPrefixOf (b.extract (k + 1) b.size).data.toList = p2 at *
          generalize ([47, 47] : List UInt8).isPrefixOf (b.extract (k + 1) b.size).data.toList = p3 at *
          generalize madeOf (moreB false) (b.extract (k + 1) b.size).data.toList = p4 at *
          clear hS1 hS2
          cases p1 <;> cases p2 <;> cases p3
          all_goals
            go_wp2_with (go_at_call 80; refine (HPv.out _).mono ?_; rintro x w5 ⟨rfl, hw⟩; obtain rfl := hw.symm)
            refine (HS1.out _).mono ?_
            rintro x w6 ⟨rfl, hw⟩
            obtain rfl := hw.symm
            go_wp2_with fail
            refine (HS2.out _).mono ?_
            rintro x w7 ⟨rfl, hw⟩
            obtain rfl := hw.symm
            go_wp2_with (go_at_call 77; refine (HRm.out _).mono ?_; rintro x w8 ⟨rfl, hw⟩; obtain rfl := hw.symm)
            go_ret
            exact ⟨by rw [HX.out]; rfl, B1.out⟩
        · have HK2 : Hid (∀ x ∈ b.data.toList.take (k + 1), x ≠ (58 : UInt8)) := by
            show ∀ x ∈ b.data.toList.take (k + 1), x ≠ (58 : UInt8)
            rw [HT.out k hlt]
            intro x hx
            rcases List.mem_append.1 hx with hx | hx
            · exact HK.out x hx
            · rw [List.mem_singleton.1 hx]
              intro e
              exact of_decide_eq_false a1 (by rw [e]; rfl)
          go_wp2_with fail
          go_roundw
          case rel => exact ⟨k + 1, by omega, by go_num, HK2, by trivial⟩
          case measure => simp [intOf]; omega
      · obtain rfl : k = b.size := by omega
        rw [HE.out] at HK
        have HX : Hid (R = false) := by
          show _ = _
          rw [HG.out]
          unfold privR
          rw [(cut_no HK.out).2.2]; rfl
        have hxx : ¬ (b.size : Int) < (b.size : Int) := by omega
        go_wp2_with fail
        go_ret
        exact ⟨by rw [HX.out]; rfl, B1.out⟩

end Go.Proofs.YtilhfmhjgfmejaaGreatDoor.tm
