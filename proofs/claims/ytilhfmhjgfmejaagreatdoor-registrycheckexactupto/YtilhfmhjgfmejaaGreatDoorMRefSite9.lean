import Derived.Test.YtilhfmhjgfmejaaGreatDoorMRefHost9
namespace Go.Proofs.YtilhfmhjgfmejaaGreatDoor.tm
open Go.ChangeShapes Go.WideShapes Go.ChangeAt Go.RowKit Go.Proofs.YtilhfmhjgfmejaaGreatDoor.common Go.Proofs.YtilhfmhjgfmejaaGreatDoor.bk
attribute [local go_sem ↓] Go.wp_at_zero Go.wp_at_succ

theorem host_one {l : List UInt8} (h : ∀ x ∈ l, x ≠ 46) : hostN ⟨l.toArray⟩ = isLab ⟨l.toArray⟩ := by
  unfold hostN tsq.parts
  rw [show (⟨l.toArray⟩ : ByteArray).data.toList = l by simp, Tm.split_one 46 l h]
  simp
theorem host_more {l r : List UInt8} (h : ∀ x ∈ l, x ≠ 46) : hostN ⟨(l ++ 46 :: r).toArray⟩ = (isLab ⟨l.toArray⟩ && hostN ⟨r.toArray⟩) := by
  unfold hostN tsq.parts
  rw [show (⟨(l ++ 46 :: r).toArray⟩ : ByteArray).data.toList = l ++ 46 :: r by simp, Tm.split_at 46 l r h, show (⟨r.toArray⟩ : ByteArray).data.toList = r by simp]
  simp
theorem num_val (c : UInt8) : numB c = (decide (Pct.hexv c < 16) || decide (c.toNat = 58) || decide (c.toNat = 46)) := by
  unfold numB
  rw [hexB_val]
theorem drop_split (s : ByteArray) (f k : Nat) (hf : f ≤ k) (hk : k < s.size) : s.data.toList.drop f = (s.extract f k).data.toList ++ s[k] :: s.data.toList.drop (k + 1) := by
  rw [ext_list, ← drop_at2 s k hk]
  have := List.take_append_drop (k - f) (s.data.toList.drop f)
  rw [List.drop_drop, show f + (k - f) = k by omega] at this
  exact this.symm
theorem ext_snoc (s : ByteArray) (f k : Nat) (hf : f ≤ k) (hk : k < s.size) : (s.extract f (k + 1)).data.toList = (s.extract f k).data.toList ++ [s[k]] := by
  rw [ext_list, ext_list, show k + 1 - f = (k - f) + 1 by omega, List.take_succ_eq_append_getElem (by rw [List.length_drop, len_list]; omega)]
  congr 2
  rw [List.getElem_drop]
  simp only [show f + (k - f) = k by omega]
  rfl
/-- how the labels go on from a place -/
def labsF (s : ByteArray) (f : Nat) : Bool := if f ≤ s.size then hostN ⟨(s.data.toList.drop f).toArray⟩ else true

set_option maxRecDepth 100000 in
set_option maxHeartbeats 3200000 in
theorem refHost_any (s : ByteArray) (w : World) (hs : s.size ≤ 4611686018427387900) :
    Calls Tryz.prog 126 #[.string s] w fun e w' => e = .returned (.bool (hostR s.data.toList)) ∧ w' = w := by
  obtain ⟨R, hR⟩ : ∃ R, R = hostR s.data.toList := ⟨_, rfl⟩
  have HR := hide hR
  rw [← hR]
  clear hR
  have HBk : Hid (brk s.data.toList = (decide (2 < s.size) && decide (s.data.toList.headD 0 = 91) && decide (s.data.toList.getLastD 0 = 93))) := by
    show _ = _
    unfold brk
    rw [len_list]
  by_cases hyes : brk s.data.toList = true
  · have HQ : Hid (R = ((s.data.toList.drop 1).take (s.size - 2)).all numB) := by
      show _ = _
      rw [HR.out]
      unfold hostR
      rw [if_pos hyes, len_list]
    rw [hyes] at HBk
    have hb := HBk.out.symm
    rw [Bool.and_eq_true, Bool.and_eq_true] at hb
    have h2 := of_decide_eq_true hb.1.1
    have h2i : (2 : Int) < (s.size : Int) := by omega
    have hz0 : 0 < s.size := by omega
    obtain ⟨n, hn⟩ : ∃ n, s.size = n + 1 := ⟨s.size - 1, by omega⟩
    have hln : n < s.size := by omega
    have hlni : (n : Int) < (s.size : Int) := by omega
    have h0i : (0 : Int) < (s.size : Int) := by omega
    have w1 : IntKind.i64.wrap ((s.size : Int) - 1) = (n : Int) := by rw [wrap_le _ (by omega) (by omega)]; omega
    have w64 : wrap64 ((s.size : Int) - 1) = (n : Int) := by rw [IntWalk.wrap64_in _ (by omega)]; omega
    have q0 : (s[0].toNat : Int) = 91 := by
      have := of_decide_eq_true hb.1.2
      rw [head_is s (by omega)] at this
      rw [this]; rfl
    have q1 : (s[n].toNat : Int) = 93 := by
      have := of_decide_eq_true hb.2
      rw [last_is s (by omega)] at this
      have e : s.size - 1 = n := by omega
      simp only [e] at this
      rw [this]; rfl
    have HT : Hid (∀ k (_ : k + 1 < s.size), ((s.data.toList.drop 1).take (k + 1)).all numB = (((s.data.toList.drop 1).take k).all numB && numB s[k + 1])) := fun k h => by
      rw [Tm.all_take _ _ k (by rw [List.length_drop, len_list]; omega)]
      congr 2
      rw [List.getElem_drop]
      simp only [Nat.add_comm 1 k]
      rfl
    have HA : Hid (∀ k, k ≤ s.size - 2 → ((s.data.toList.drop 1).take k).all numB = false → ((s.data.toList.drop 1).take (s.size - 2)).all numB = false) := fun k hk h => by
      have := Tm.all_short ((s.data.toList.drop 1).take (s.size - 2)) numB k (by rw [List.take_take, Nat.min_eq_left hk]; exact h)
      exact this
    clear hb hyes HBk HR
    have HN := hide hn
    clear hn
    go_enter Tryz.func126, Tryz.ntmps126
    go_wp2_with fail
    go_loopw [3] (fun i wr => ∃ k : Nat, k + 1 ≤ n ∧ i = .int .i64 ((k + 1 : Nat) : Int) ∧ Hid (((s.data.toList.drop 1).take k).all numB = true) ∧ wr = w) (fun i _ => s.size - (intOf i).toNat)
    case atStart => exact ⟨0, by have := HN.out; omega, rfl, by show _ = _; simp, rfl⟩
    case round =>
      obtain ⟨k, hk, rfl, HAK, rfl⟩ := hrel
      obtain ⟨p, hp⟩ : ∃ p, k + 1 = p := ⟨_, rfl⟩
      rw [hp]
      by_cases hlt : p < n
      · have hki : (p : Int) < (n : Int) := by omega
        have hps : p < s.size := by omega
        have hpsi : (p : Int) < (s.size : Int) := by omega
        have HTK := hide (HT.out k (by omega))
        have HV := hide (fun W => refHex_any s[p] W)
        have HB := hide (num_val s[p])
        simp only [hp] at HTK
        rw [HAK.out, Bool.true_and] at HTK
        have HB2 : Hid (numB s[p] = (hexB s[p] || decide (s[p].toNat = 58) || decide (s[p].toNat = 46))) := rfl
        have HTK2 : Hid (((s.data.toList.drop 1).take p).all numB = numB (s[p]'hps)) := HTK.out
        have HNo : Hid (numB s[p] = false → R = false) := fun h => by
          rw [HQ.out]
          exact HA.out p (by have := HN.out; omega) (by rw [HTK2.out, h])
        have HP := hide hp
        clear HTK hp HB
        rcases hv_cases s[p] with ⟨g1, g2⟩ | ⟨g1, g2⟩
        · have HX : Hid (((s.data.toList.drop 1).take p).all numB = true) := by show _ = _; rw [HTK2.out, HB2.out, g1]; rfl
          clear HTK2 HB2 HNo g1
          go_wp2_with (go_at_call 98; refine (HV.out _).mono ?_; rintro x w2 ⟨rfl, rfl⟩)
          go_roundw
          case rel => exact ⟨p, by omega, by go_num, HX, by trivial⟩
          case measure => simp [intOf]; omega
        · rcases is_cases 58 58 rfl s[p] with ⟨a1, a2, a3⟩ | ⟨a1, a2, a3⟩
          · have HX : Hid (((s.data.toList.drop 1).take p).all numB = true) := by show _ = _; rw [HTK2.out, HB2.out, a1, Bool.or_true, Bool.true_or]
            unfold B at HV
            rw [a2] at HV
            clear HTK2 HB2 HNo g1
            go_wp2_with (go_at_call 98; refine (HV.out _).mono ?_; rintro x w2 ⟨rfl, rfl⟩)
            go_roundw
            case rel => exact ⟨p, by omega, by go_num, HX, by trivial⟩
            case measure => simp [intOf]; omega
          · have q2 : ((s[p].toNat : Int) != 58) = true := by rw [bne, a3]; rfl
            rcases is_cases 46 46 rfl s[p] with ⟨b1, b2, b3⟩ | ⟨b1, b2, b3⟩
            · have HX : Hid (((s.data.toList.drop 1).take p).all numB = true) := by show _ = _; rw [HTK2.out, HB2.out, b1, Bool.or_true]
              unfold B at HV
              rw [b2] at HV
              clear HTK2 HB2 HNo g1
              go_wp2_with (go_at_call 98; refine (HV.out _).mono ?_; rintro x w2 ⟨rfl, rfl⟩)
              go_roundw
              case rel => exact ⟨p, by omega, by go_num, HX, by trivial⟩
              case measure => simp [intOf]; omega
            · have q3 : ((s[p].toNat : Int) != 46) = true := by rw [bne, b3]; rfl
              have HX := hide (HNo.out (by rw [HB2.out, g1, a1, b1]; rfl))
              clear HTK2 HB2 HNo g1
              go_wp2_with (go_at_call 98; refine (HV.out _).mono ?_; rintro x w2 ⟨rfl, rfl⟩)
              go_ret
              exact ⟨by rw [HX.out]; rfl, rfl⟩
      · obtain rfl : p = n := by omega
        have hxx : ¬ (p : Int) < (p : Int) := by omega
        have HF : Hid (R = true) := by
          show _ = _
          rw [HQ.out, show s.size - 2 = k by have := HN.out; omega]
          exact HAK.out
        go_wp2_with fail
        go_ret
        exact ⟨by rw [HF.out]; rfl, rfl⟩
  · have HQ : Hid (R = labsF s 0) := by
      show _ = _
      rw [HR.out]
      unfold hostR labsF
      rw [if_neg hyes, if_pos (Nat.zero_le _), List.drop_zero]
    rw [Bool.not_eq_true] at hyes
    rw [hyes] at HBk
    have HLb : Hid (∀ f k W, Calls Tryz.prog 147 #[.string (s.extract f k)] W fun e w' => e = .returned (.bool (isLab (s.extract f k))) ∧ w' = W) := fun f k W => refLabel_any (s.extract f k) W (by rw [ByteArray.size_extract]; omega)
    have H1 : Hid (∀ f, f ≤ s.size → (∀ x ∈ (s.extract f s.size).data.toList, x ≠ (46 : UInt8)) → labsF s f = isLab (s.extract f s.size)) := fun f hf h => by
      unfold labsF
      rw [if_pos hf, ← ext_from, host_one h, str_of]
    have H2 : Hid (∀ f k (_ : f ≤ k) (hk : k < s.size), (∀ x ∈ (s.extract f k).data.toList, x ≠ (46 : UInt8)) → s[k].toNat = 46 → labsF s f = (isLab (s.extract f k) && labsF s (k + 1))) := fun f k hf hk h he => by
      have e46 : s[k] = 46 := UInt8.toNat_inj.1 he
      unfold labsF
      rw [if_pos (by omega), if_pos (by omega), drop_split s f k hf hk, e46, host_more h, str_of]
    have H3 : Hid (∀ f k (_ : f ≤ k) (hk : k < s.size), (∀ x ∈ (s.extract f k).data.toList, x ≠ (46 : UInt8)) → s[k].toNat ≠ 46 → ∀ x ∈ (s.extract f (k + 1)).data.toList, x ≠ (46 : UInt8)) := fun f k hf hk h he x hx => by
      rw [ext_snoc s f k hf hk] at hx
      rcases List.mem_append.1 hx with hx | hx
      · exact h x hx
      · rw [List.mem_singleton.1 hx]
        intro e; exact he (by rw [e]; rfl)
    have H4 : Hid (labsF s (s.size + 1) = true) := by show _ = _; unfold labsF; rw [if_neg (by omega)]
    have H5 : Hid (∀ f, ∀ x ∈ (s.extract f f).data.toList, x ≠ (46 : UInt8)) := fun f x hx => by
      rw [ext_list, Nat.sub_self, List.take_zero] at hx
      cases hx
    have hcond : (2 < s.size ∧ ∃ (h0 : 0 < s.size) (n : Nat) (hn : n < s.size), s.size = n + 1 ∧ (s[0].toNat = 91 ∧ s[n].toNat ≠ 93 ∨ s[0].toNat ≠ 91)) ∨ ¬ 2 < s.size := by
      by_cases h2 : 2 < s.size
      · refine Or.inl ⟨h2, by omega, s.size - 1, by omega, by omega, ?_⟩
        have hb := HBk.out.symm
        rw [decide_eq_true h2, Bool.true_and, head_is s (by omega), last_is s (by omega)] at hb
        by_cases h91 : (s[0]'(by omega)).toNat = 91
        · left
          refine ⟨h91, fun h93 => ?_⟩
          rw [decide_eq_true (UInt8.toNat_inj.1 h91 : s[0]'(by omega) = 91), decide_eq_true (UInt8.toNat_inj.1 h93 : s[s.size - 1]'(by omega) = 93)] at hb
          cases hb
        · exact Or.inr h91
      · exact Or.inr h2
    clear HBk HR hyes
    have hcond2 : (∃ n : Nat, ∃ (h0 : 0 < s.size) (hn : n < s.size), (2 : Int) < (s.size : Int) ∧ (0 : Int) < (s.size : Int) ∧ (n : Int) < (s.size : Int) ∧ IntKind.i64.wrap ((s.size : Int) - 1) = (n : Int) ∧ wrap64 ((s.size : Int) - 1) = (n : Int) ∧ (s[0].toNat : Int) = 91 ∧ ((s[n].toNat : Int) == 93) = false ∧ ¬ (s[n].toNat : Int) = 93) ∨ (∃ (h0 : 0 < s.size), (2 : Int) < (s.size : Int) ∧ (0 : Int) < (s.size : Int) ∧ ((s[0].toNat : Int) == 91) = false ∧ ¬ (s[0].toNat : Int) = 91) ∨ ¬ (2 : Int) < (s.size : Int) := by
      rcases hcond with ⟨h2, h0, n, hn, he, h | h⟩ | h
      · exact Or.inl ⟨n, h0, hn, by omega, by omega, by omega, by rw [wrap_le _ (by omega) (by omega)]; omega, by rw [IntWalk.wrap64_in _ (by omega)]; omega, by omega, beq_false_of_ne (by omega), by omega⟩
      · exact Or.inr (Or.inl ⟨h0, by omega, by omega, beq_false_of_ne (by omega), by omega⟩)
      · exact Or.inr (Or.inr (by omega))
    clear hcond
    rcases hcond2 with ⟨n, h0, hn, z1, z2, z3, z4, z5, z6, z7, z8⟩ | ⟨h0, z1, z2, z3, z4⟩ | z1
    all_goals
      go_enter Tryz.func126, Tryz.ntmps126
      go_wp2_with fail
      go_loopw [4, 5] (fun fr i wr => ∃ f k : Nat, f ≤ k ∧ k ≤ s.size + 1 ∧ fr = .int .i64 (f : Int) ∧ i = .int .i64 (k : Int) ∧ Hid (∀ x ∈ (s.extract f k).data.toList, x ≠ (46 : UInt8)) ∧ Hid (R = labsF s f) ∧ (k = s.size + 1 → f = k) ∧ wr = w) (fun _ i _ => s.size + 1 - (intOf i).toNat)
      case atStart => exact ⟨0, 0, Nat.le_refl _, Nat.zero_le _, rfl, rfl, H5.out 0, HQ, fun h => by omega, rfl⟩
      case round =>
        obtain ⟨f, k, hfk, hk, rfl, rfl, HD, HF, he, rfl⟩ := hrel
        by_cases hend : k = s.size + 1
        · have HG : Hid (R = true) := by show _ = _; rw [HF.out, he hend, hend]; exact H4.out
          have hki : ¬ (k : Int) ≤ (s.size : Int) := by omega
          clear he hend
          go_wp2_with fail
          go_ret
          exact ⟨by rw [HG.out]; rfl, rfl⟩
        have hki : (k : Int) ≤ (s.size : Int) := by omega
        have hfi : (f : Int) ≤ (k : Int) := by omega
        have f0 : (0 : Int) ≤ (f : Int) := Int.natCast_nonneg _
        clear he
        by_cases hlast : k = s.size
        · have HD1 : Hid (∀ x ∈ (s.extract f s.size).data.toList, x ≠ (46 : UInt8)) := by rw [← hlast]; exact HD
          have HG : Hid (R = isLab (s.extract f s.size)) := by show _ = _; rw [HF.out]; exact H1.out f (by omega) HD1.out
          have hL := HLb.out f s.size
          subst hlast
          have HLx := hide hL
          clear hL
          generalize isLab (s.extract f s.size) = t at *
          cases t with
          | true =>
            go_wp2_with (go_at_call 147; refine (HLx.out _).mono ?_; rintro x w2 ⟨rfl, rfl⟩)
            go_roundw
            case rel => exact ⟨s.size + 1, s.size + 1, Nat.le_refl _, Nat.le_refl _, by go_num, by go_num, H5.out _, by show _ = _; rw [HG.out, H4.out], fun _ => rfl, by trivial⟩
            case measure => simp [intOf]
          | false =>
            go_wp2_with (go_at_call 147; refine (HLx.out _).mono ?_; rintro x w2 ⟨rfl, rfl⟩)
            go_ret
            exact ⟨by rw [HG.out]; rfl, rfl⟩
        · have hlt : k < s.size := by omega
          have hlti : (k : Int) < (s.size : Int) := by omega
          have hnl : ¬ (k : Int) = (s.size : Int) := by omega
          have hnlb : ((k : Int) == (s.size : Int)) = false := beq_false_of_ne hnl
          rcases is_cases 46 46 rfl s[k] with ⟨a1, a2, a3⟩ | ⟨a1, a2, a3⟩
          · have HG : Hid (R = (isLab (s.extract f k) && labsF s (k + 1))) := by show _ = _; rw [HF.out]; exact H2.out f k hfk hlt HD.out (of_decide_eq_true a1)
            have HLx := hide (HLb.out f k)
            generalize isLab (s.extract f k) = t at *
            cases t with
            | true =>
              go_wp2_with (go_at_call 147; refine (HLx.out _).mono ?_; rintro x w2 ⟨rfl, rfl⟩)
              go_roundw
              case rel => exact ⟨k + 1, k + 1, Nat.le_refl _, by omega, by go_num, by go_num, H5.out _, by show _ = _; rw [HG.out]; rfl, fun h => rfl, by trivial⟩
              case measure => simp [intOf]; omega
            | false =>
              go_wp2_with (go_at_call 147; refine (HLx.out _).mono ?_; rintro x w2 ⟨rfl, rfl⟩)
              go_ret
              exact ⟨by rw [HG.out]; rfl, rfl⟩
          · have HD2 := hide (H3.out f k hfk hlt HD.out (of_decide_eq_false a1))
            go_wp2_with fail
            go_roundw
            case rel => exact ⟨f, k + 1, by omega, by omega, rfl, by go_num, HD2, HF, fun h => by omega, by trivial⟩
            case measure => simp [intOf]; omega
end Go.Proofs.YtilhfmhjgfmejaaGreatDoor.tm
