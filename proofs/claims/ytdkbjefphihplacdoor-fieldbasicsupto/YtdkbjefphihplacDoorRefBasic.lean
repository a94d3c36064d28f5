import Derived.Test.YtdkbjefphihplacDoorRefLow
import Derived.Test.YtdkbjefphihplacDoorBasicRd
import Derived.Test.YtdkbjefphihplacDoorRefUnStd
import Derived.Test.YtdkbjefphihplacDoorRefUnesc
import Derived.Test.YtdkbjefphihplacDoorFieldRef
namespace Go.Proofs.YtdkbjefphihplacDoor.fd
open Go.ChangeShapes Go.WideShapes Go.ChangeAt Go.RowKit Go.Proofs.YtdkbjefphihplacDoor.common Go.Proofs.YtdkbjefphihplacDoor.bk
attribute [local go_sem ↓] Go.wp_at_zero Go.wp_at_succ

/-- what the document answers: two texts and a number -/
def failN (n : Int) : Value := .tuple #[.string ⟨#[]⟩, .string ⟨#[]⟩, .int .i64 n]
def unN (u p : List UInt8) : Value :=
  match Pct.unesc true u, Pct.unesc true p with
  | some a, some b => .tuple #[S a, S b, .int .i64 0]
  | _, _ => failN 2
def credN (ok : Bool) (l : List UInt8) : Value :=
  if l.takeWhile isBl = [] then failN 2 else
    if ok && (codedL (l.dropWhile isBl)).contains 58 then unN (before 58 (codedL (l.dropWhile isBl))) (behind 58 (codedL (l.dropWhile isBl))) else failN 2
def basicN (ok : Bool) (l : List UInt8) : Value :=
  if l.takeWhile Fd.tok = [] then failN 2 else if Fd.lows (l.takeWhile Fd.tok) = Fd.lows nameL then credN ok (l.dropWhile Fd.tok) else failN 5

theorem tok_snoc {l : List UInt8} {k : Nat} (hk : k < l.length) {p : UInt8 → Bool} (h : ∀ x ∈ l.take k, p x = true) (h2 : p (l.getD k 0) = true) : ∀ x ∈ l.take (k + 1), p x = true := by
  rw [List.getD_eq_getElem?_getD, List.getElem?_eq_getElem hk, Option.getD_some] at h2
  rw [List.take_succ_eq_append_getElem hk]
  intro x hx
  rcases List.mem_append.1 hx with h3 | h3
  · exact h x h3
  · simp at h3; subst h3; exact h2

theorem bl_get (l : List UInt8) (k i : Nat) : (l.drop k).getD i 0 = l.getD (k + i) 0 := by
  rw [List.getD_eq_getElem?_getD, List.getD_eq_getElem?_getD, List.getElem?_drop]
theorem ext0_list (s : ByteArray) (k : Nat) : (s.extract 0 k).data.toList = s.data.toList.take k := by
  rw [Lib.extract_data]; simp
theorem extD_list (s : ByteArray) (m : Nat) : (s.extract m s.size).data.toList = s.data.toList.drop m := radw.ext_drop s m

set_option maxRecDepth 100000 in
set_option maxHeartbeats 6400000 in
theorem refBasic_any (s : ByteArray) (w : World) (hs : s.size ≤ 1048576) :
    Calls Tryd.prog 7 #[.string s] w fun e w' => (∃ ok : Bool, (ok = true ↔ radw.okStd ((s.data.toList.dropWhile Fd.tok).dropWhile isBl)) ∧ e = .returned (basicN ok s.data.toList)) ∧ Below w.heap.size w w' := by
  obtain ⟨ok, hok⟩ := ok_exists (radw.okStd ((s.data.toList.dropWhile Fd.tok).dropWhile isBl))
  suffices h : Calls Tryd.prog 7 #[.string s] w fun e w' => e = .returned (basicN ok s.data.toList) ∧ Below w.heap.size w w' from h.mono fun _ _ ⟨h1, h2⟩ => ⟨⟨ok, hok, h1⟩, h2⟩
  obtain ⟨R, hR⟩ : ∃ R, basicN ok s.data.toList = R := ⟨_, rfl⟩
  rw [hR]
  have HOK := hide hok
  have HR := hide hR
  clear hok hR
  have HLEN := hide (len_list s)
  go_enter Tryd.func7, Tryd.ntmps7
  go_wp2_with fail
  go_loopw [5, 6] (fun i o wr => ∃ k : Nat, k ≤ s.size ∧ i = .int .i64 k ∧ (∀ x ∈ s.data.toList.take k, Fd.tok x = true) ∧ wr = w) (fun i _ _ => s.size - (intOf i).toNat)
  case atStart => exact ⟨0, Nat.zero_le _, rfl, fun x hx => by simp at hx, rfl⟩
  case round =>
    obtain ⟨k, hk, rfl, hall, rfl⟩ := hrel
    by_cases hgo : k < s.size ∧ Fd.tok (s.data.toList.getD k 0) = true
    · obtain ⟨hlt, ht⟩ := hgo
      have hki : (k : Int) < (s.size : Int) := by omega
      have HNX := hide (tok_snoc (l := s.data.toList) (k := k) (by rw [len_list]; exact hlt) hall ht)
      rw [getD_list s k hlt] at ht
      have HT : Hid (∀ W, Calls Tryd.prog 18 #[B s[k]] W fun e w' => e = .returned (.bool true) ∧ w' = W) := by
        intro W; rw [← ht]; exact tokenByte_any _ W
      clear ht hall
      go_wp2_with (go_at_call 18; refine (HT.out _).mono ?_; rintro x w2 ⟨rfl, rfl⟩)
      go_roundw
      case rel => exact ⟨k + 1, by omega, by go_num, HNX.out, by trivial⟩
      case measure => simp [intOf]; omega
    · have hstop : s.size ≤ k ∨ (∃ h : k < s.size, Fd.tok s[k] = false) := by
        by_cases h : k < s.size
        · refine Or.inr ⟨h, ?_⟩
          cases hb : Fd.tok s[k] with
          | false => rfl
          | true => exact absurd ⟨h, by rw [getD_list s k h]; exact hb⟩ hgo
        · exact Or.inl (by omega)
      have hsp := span_at (p := Fd.tok) (l := s.data.toList) (k := k) hall (by
        rcases hstop with h | ⟨h, h2⟩
        · exact Or.inl (by rw [len_list]; exact h)
        · exact Or.inr (by rw [getD_list s k h]; exact h2))
      have HTW := hide hsp.1
      have HDW := hide hsp.2
      have hks : (k : Int) ≤ (s.size : Int) := by omega
      have HV0 : Hid (k = 0 → R = failN 2) := by
        intro h
        rw [← HR.out]; unfold basicN; rw [HTW.out, h]; rfl
      have HV1 : Hid (0 < k → ¬ Fd.lows (s.data.toList.take k) = Fd.lows nameL → R = failN 5) := by
        intro h h2
        rw [← HR.out]; unfold basicN; rw [HTW.out, if_neg (fun e => by have := congrArg List.length e; rw [List.length_take, HLEN.out, List.length_nil] at this; omega), if_neg h2]
      have HV2 : Hid (0 < k → Fd.lows (s.data.toList.take k) = Fd.lows nameL → R = credN ok (s.data.toList.drop k)) := by
        intro h h2
        rw [← HR.out]; unfold basicN; rw [HTW.out, HDW.out, if_neg (fun e => by have := congrArg List.length e; rw [List.length_take, HLEN.out, List.length_nil] at this; omega), if_pos h2]
      have HT : Hid (∀ h : k < s.size, ∀ W, Calls Tryd.prog 18 #[B (s[k]'h)] W fun e w' => e = .returned (.bool false) ∧ w' = W) := by
        intro h W
        rcases hstop with h1 | ⟨_, h2⟩
        · omega
        · rw [← h2]; exact tokenByte_any _ W
      rw [HDW.out] at HOK
      have hxs : (s.extract 0 k).size = k := by rw [ByteArray.size_extract]; omega
      have HX0 := hide (ext0_list s k)
      clear hall hsp hgo HTW HDW HR
      have hst : (¬ (k : Int) < (s.size : Int)) ∨ (k < s.size ∧ (k : Int) < (s.size : Int)) := by omega
      clear hstop
      rcases hst with hnk | ⟨hlt, hki⟩
      all_goals
        by_cases hk0 : k = 0
        · have HF := hide (HV0.out hk0)
          subst hk0
          go_wp2_with (go_at_call 18; refine (HT.out (by assumption) _).mono ?_; rintro x w2 ⟨rfl, rfl⟩)
          go_ret3
          exact ⟨by rw [HF.out]; rfl, Below.refl _ _⟩
        · have hk0i : ¬ (k : Int) = 0 := by omega
          have hkp : 0 < k := by omega
          clear hk0
          go_wp2_with (go_at_call 18; refine (HT.out (by assumption) _).mono ?_; rintro x w2 ⟨rfl, rfl⟩)
          refine (lower_any (s.extract 0 k) _ (by omega)).mono ?_
          rintro x w1 ⟨rfl, hb1⟩
          have HB1 := hide hb1
          clear hb1
          rw [HX0.out]
          by_cases hnm : Fd.lows (s.data.toList.take k) = Fd.lows nameL
          · have HV := hide (HV2.out hkp hnm)
            rw [hnm]
            clear hnm HV0 HV1 HV2
            have eN : (⟨(Fd.lows nameL).toArray⟩ : ByteArray) = ⟨#[98, 97, 115, 105, 99]⟩ := rfl
            rw [eN]
            clear eN
            go_wp2_with fail
            go_loopw [8] (fun i wr => ∃ j : Nat, k ≤ j ∧ j ≤ s.size ∧ i = .int .i64 j ∧ (∀ x ∈ (s.data.toList.drop k).take (j - k), isBl x = true) ∧ wr = w1) (fun i _ => s.size - (intOf i).toNat)
            case atStart => exact ⟨k, Nat.le_refl _, hk, rfl, fun x hx => by simp at hx, rfl⟩
            case round =>
              obtain ⟨j, hkj, hj, rfl, hbl, rfl⟩ := hrel
              by_cases hgo : j < s.size ∧ s.data.toList.getD j 0 = 32
              · obtain ⟨hltj, h32⟩ := hgo
                have HNX : Hid (∀ x ∈ (s.data.toList.drop k).take (j + 1 - k), isBl x = true) := by
                  rw [show j + 1 - k = (j - k) + 1 by omega]
                  exact tok_snoc (l := s.data.toList.drop k) (k := j - k) (by rw [List.length_drop, len_list]; omega) hbl (by rw [bl_get, show k + (j - k) = j by omega, h32]; rfl)
                rw [getD_list s j hltj] at h32
                have h32i : (s[j].toNat : Int) = 32 := by rw [h32]; rfl
                have hji : (j : Int) < (s.size : Int) := by omega
                clear h32 hbl
                go_wp2_with fail
                go_roundw
                case rel => exact ⟨j + 1, by omega, by omega, by go_num, HNX.out, by trivial⟩
                case measure => simp [intOf]; omega
              · have hsp := span_at (p := isBl) (l := s.data.toList.drop k) (k := j - k) hbl (by
                  rw [List.length_drop, len_list, bl_get, show k + (j - k) = j by omega]
                  by_cases h : j < s.size
                  · exact Or.inr (decide_eq_false fun e => hgo ⟨h, e⟩)
                  · exact Or.inl (by omega))
                have hst2 : (¬ (j : Int) < (s.size : Int)) ∨ (∃ h : j < s.size, (j : Int) < (s.size : Int) ∧ ¬ ((s[j].toNat : Int) = 32) ∧ ((s[j].toNat : Int) == 32) = false) := by
                  by_cases h : j < s.size
                  · have hn : ¬ ((s[j].toNat : Int) = 32) := fun e => hgo ⟨h, by rw [getD_list s j h]; exact UInt8.toNat_inj.1 (by show s[j].toNat = 32; omega)⟩
                    exact Or.inr ⟨h, by omega, hn, beq_false_of_ne hn⟩
                  · exact Or.inl (by omega)
                have HD : Hid ((s.data.toList.drop k).dropWhile isBl = s.data.toList.drop j) := by
                  show _ = _
                  rw [hsp.2, List.drop_drop]; congr 1; omega
                have HC0 : Hid (j = k → R = failN 2) := by
                  intro h
                  rw [HV.out]; unfold credN; rw [hsp.1, h, Nat.sub_self]; rfl
                have HC1 : Hid (k < j → R = if ok && (codedL (s.data.toList.drop j)).contains 58 then unN (before 58 (codedL (s.data.toList.drop j))) (behind 58 (codedL (s.data.toList.drop j))) else failN 2) := by
                  intro h
                  rw [HV.out]; unfold credN; rw [hsp.1, HD.out, if_neg (fun e => by have := congrArg List.length e; rw [List.length_take, List.length_drop, HLEN.out, List.length_nil] at this; omega)]
                rw [HD.out] at HOK
                have hjs : (j : Int) ≤ (s.size : Int) := by omega
                clear hsp hgo hbl HD HV
                by_cases hjk : j = k
                · rcases hst2 with hnj | ⟨hltj, hji, h32, h32b⟩
                  all_goals try (exfalso; omega)
                  all_goals
                    have HF := hide (HC0.out hjk)
                    subst hjk
                    go_wp2_with fail
                    go_ret3
                    exact ⟨by rw [HF.out]; rfl, HB1.out⟩
                · rcases hst2 with hnj | ⟨hltj, hji, h32, h32b⟩
                  all_goals try (exfalso; omega)
                  all_goals
                    have hjki : ¬ (j : Int) = (k : Int) := by omega
                    have HF := hide (HC1.out (by omega))
                    have HXJ := hide (extD_list s j)
                    have hxz : (s.extract j s.size).size ≤ 1048576 := by rw [ByteArray.size_extract]; omega
                    have HTS : Hid ((codedL (s.data.toList.drop j)).length ≤ 1048576) := by
                      show _ ≤ _
                      have h1 := coded_len (s.data.toList.drop j)
                      rw [List.length_drop, len_list] at h1
                      omega
                    clear hjk HC0 HC1
                    go_wp2_with fail
                    refine (radw.refUnStd_any (s.extract j s.size) _ hxz).mono ?_
                    rintro x w2 ⟨hb2, hcase⟩
                    rw [HXJ.out] at hcase
                    have HB2 := hide (keepD HB1.out hb2)
                    clear hb2 hxz
                    rcases hcase with ⟨h1, rfl⟩ | ⟨h1, rfl⟩
                    · rw [HOK.out.2 h1, Bool.true_and] at HF
                      obtain ⟨T, hT⟩ : ∃ T : ByteArray, T = ⟨(codedL (s.data.toList.drop j)).toArray⟩ := ⟨_, rfl⟩
                      have hTl : codedL (s.data.toList.drop j) = T.data.toList := by rw [hT]
                      have hTs : T.size ≤ 1048576 := by rw [hT, str_size]; exact HTS.out
                      have hT' : (⟨(Rad.un64 Rad.stdT (radw.lets0 (s.data.toList.drop j))).toArray⟩ : ByteArray) = T := hT.symm
                      rw [hT']
                      rw [hTl] at HF
                      clear hT hT' hTl h1 HOK HXJ
                      go_wp2_with fail
                      refine (find6_any T 58 _ (by unfold reachBytes; omega)).mono ?_
                      rintro x w3 ⟨⟨m, rfl, hbf, hfd⟩, rfl⟩
                      rcases hfd with ⟨hm, hbh, hct⟩ | ⟨hm, hct⟩
                      · rw [hct, if_pos rfl, hbf, hbh] at HF
                        have hmi : ¬ (m : Int) = (T.size : Int) := by omega
                        have hml : (m : Int) < (T.size : Int) := by omega
                        have HU0 := hide (ext0_list T m)
                        have HU1 := hide (extD_list T (m + 1))
                        have hu0 : (T.extract 0 m).size ≤ reachBytes := by rw [ByteArray.size_extract]; unfold reachBytes; omega
                        have hu1 : (T.extract (m + 1) T.size).size ≤ reachBytes := by rw [ByteArray.size_extract]; unfold reachBytes; omega
                        have HZ0 := hide hu0
                        have HZ1 := hide hu1
                        clear hbf hbh hct hu0 hu1
                        go_wp2_with fail
                        refine (pctw.refUnescape_any (T.extract 0 m) true _ HZ0.out).mono ?_
                        rintro x w4 ⟨hb4, h4⟩
                        rw [HU0.out] at h4
                        have HB4 := hide (keepD HB2.out hb4)
                        clear hb4
                        rcases h4 with ⟨a, ha, rfl⟩ | ⟨ha, rfl⟩
                        all_goals
                          have HA := hide ha
                          clear ha
                          go_wp2_with fail
                          refine (pctw.refUnescape_any (T.extract (m + 1) T.size) true _ HZ1.out).mono ?_
                          rintro x w5 ⟨hb5, h5⟩
                          rw [HU1.out] at h5
                          have HB5 := hide (keepD HB4.out hb5)
                          clear hb5
                          rcases h5 with ⟨b, hb, rfl⟩ | ⟨hb, rfl⟩
                          all_goals
                            have HQ := hide hb
                            clear hb
                            go_wp2_with fail
                            go_ret3
                            exact ⟨by rw [HF.out]; unfold unN; rw [HA.out, HQ.out]; try rfl, HB5.out⟩
                      · rw [hct, if_neg (by decide)] at HF
                        have hmi : (m : Int) = (T.size : Int) := by omega
                        clear hbf hct
                        go_wp2_with fail
                        go_ret3
                        exact ⟨by rw [HF.out]; rfl, HB2.out⟩
                    · have hokf : ok = false := by
                        cases h : ok with
                        | false => rfl
                        | true => exact absurd (HOK.out.1 h) h1
                      rw [hokf, Bool.false_and, if_neg (by decide)] at HF
                      clear h1 hokf HOK
                      go_wp2_with fail
                      go_ret3
                      exact ⟨by rw [HF.out]; rfl, HB2.out⟩
          · have HF := hide (HV1.out hkp hnm)
            have hne : ((⟨(Fd.lows (s.data.toList.take k)).toArray⟩ : ByteArray).toList == [98, 97, 115, 105, 99]) = false := by
              rw [ByteArray.toList_eq]; exact beq_false_of_ne hnm
            generalize (⟨(Fd.lows (s.data.toList.take k)).toArray⟩ : ByteArray) = L at *
            clear hnm
            go_wp2_with fail
            go_ret3
            exact ⟨by rw [HF.out]; rfl, HB1.out⟩

end Go.Proofs.YtdkbjefphihplacDoor.fd
