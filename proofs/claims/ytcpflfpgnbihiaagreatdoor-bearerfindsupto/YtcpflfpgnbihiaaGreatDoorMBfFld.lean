import Derived.Test.YtcpflfpgnbihiaaGreatDoorMBfText
namespace Go.Proofs.YtcpflfpgnbihiaaGreatDoor.bf
open Go.ChangeShapes Go.WideShapes Go.ChangeAt Go.RowKit Go.Proofs.YtcpflfpgnbihiaaGreatDoor.common Go.Proofs.YtcpflfpgnbihiaaGreatDoor.bk Go.Proofs.YtcpflfpgnbihiaaGreatDoor.fd
attribute [local go_sem ↓] Go.wp_at_zero Go.wp_at_succ

/-- what a field shows, as a value -/
def shV (v : List UInt8) : Value := .tuple #[S (Bf.shw v).1, .bool (Bf.shw v).2]
abbrev isB (c : UInt8) : Bool := c == 32
theorem ext0_l (s : ByteArray) (k : Nat) : (s.extract 0 k).data.toList = s.data.toList.take k := by rw [Lib.extract_data]; simp

set_option maxRecDepth 100000 in
set_option maxHeartbeats 6400000 in
theorem byField_any (s : ByteArray) (w : World) (hs : s.size ≤ 140737488355328) :
    Calls Tryz.prog 19 #[.string s] w fun e w' => e = .returned (shV s.data.toList) ∧ Below w.heap.size w w' := by
  obtain ⟨R, hR⟩ : ∃ R, shV s.data.toList = R := ⟨_, rfl⟩
  rw [hR]
  have HR := hide hR
  clear hR
  go_enter Tryz.func19, Tryz.ntmps19
  go_wp2_with fail
  go_loopw [4, 5] (fun i _ wr => ∃ k : Nat, k ≤ s.size ∧ i = .int .i64 k ∧ Hid (∀ x ∈ s.data.toList.take k, Fd.tok x = true) ∧ Hid (wr = w)) (fun i _ _ => s.size - (intOf i).toNat)
  case atStart => exact ⟨0, Nat.zero_le _, rfl, fun x hx => by simp at hx, show w = w from rfl⟩
  case round =>
    obtain ⟨k, hk, rfl, HALL, HW⟩ := hrel
    by_cases hgo : ∃ h : k < s.size, Fd.tok s[k] = true
    · obtain ⟨hlt, ht⟩ := hgo
      have hki : (k : Int) < (s.size : Int) := by omega
      have HNX := hide (snoc_all hlt HALL.out ht)
      have HT : Hid (∀ W, Calls Tryz.prog 37 #[B s[k]] W fun e w' => e = .returned (.bool true) ∧ w' = W) := by
        intro W; rw [← ht]; exact tokenByte_any _ W
      clear ht
      go_wp2_with (go_at_call 37; refine (HT.out _).mono ?_; rintro x w2 ⟨rfl, rfl⟩)
      go_roundw
      case rel => exact ⟨k + 1, by omega, by go_num, HNX, HW⟩
      case measure => simp [intOf]; omega
    · have hstop : s.size ≤ k ∨ (∃ h : k < s.size, Fd.tok s[k] = false) := by
        by_cases h : k < s.size
        · refine Or.inr ⟨h, ?_⟩
          cases hb : Fd.tok s[k] with
          | false => rfl
          | true => exact absurd ⟨h, hb⟩ hgo
        · exact Or.inl (by omega)
      obtain ⟨htw, hdw⟩ := span_at (p := Fd.tok) (l := s.data.toList) (k := k) HALL.out (by
        rcases hstop with h | ⟨h, h3⟩
        · exact Or.inl (by rw [len_list]; exact h)
        · exact Or.inr (by rw [getD_list s k h]; exact h3))
      have HV1 : Hid (¬ Fd.lows (s.data.toList.take k) = Bf.bearer → R = .tuple #[.string ⟨#[]⟩, .bool false]) := fun h => by
        rw [← HR.out]; unfold shV Bf.shw; rw [htw, if_neg h]
      have HV2 : Hid (Fd.lows (s.data.toList.take k) = Bf.bearer → R = .tuple #[S (if (s.data.toList.drop k).head? = some 32 then (s.data.toList.drop k).dropWhile isB else []), .bool true]) := fun h => by
        rw [← HR.out]; unfold shV Bf.shw; rw [htw, hdw, if_pos h]
      have HT : Hid (∀ h : k < s.size, ∀ W, Calls Tryz.prog 37 #[B (s[k]'h)] W fun e w' => e = .returned (.bool false) ∧ w' = W) := by
        intro h W
        rcases hstop with h1 | ⟨_, h2⟩
        · omega
        · rw [← h2]; exact tokenByte_any _ W
      have hks : (k : Int) ≤ (s.size : Int) := by omega
      have k0 : (0 : Int) ≤ (k : Int) := Int.natCast_nonneg _
      have hst : (¬ (k : Int) < (s.size : Int)) ∨ (k < s.size ∧ (k : Int) < (s.size : Int)) := by omega
      have hxs : (s.extract 0 k).size ≤ 140737488355328 := by rw [ByteArray.size_extract]; omega
      have HLO : Hid (∀ W, Calls Tryz.prog 36 #[.string (s.extract 0 k)] W fun e w' => e = .returned (.string ⟨(Fd.lows (s.data.toList.take k)).toArray⟩) ∧ Below W.heap.size W w') := fun W => by
        rw [← ext0_l]; exact lower_any _ W hxs
      clear hstop htw hdw hgo HALL HR hxs
      rcases hst with hnk | ⟨hlt, hki⟩
      all_goals
        go_wp2_with (go_at_call 37; refine (HT.out (by assumption) _).mono ?_; rintro x w2 ⟨rfl, rfl⟩)
        refine (HLO.out _).mono ?_
        rintro x w1 ⟨rfl, hb1⟩
        have HB1 : Hid (Below w.heap.size w w1) := by
          have := HW.out
          subst this
          exact hb1
        clear hb1 HT HLO HW
        by_cases hnm : Fd.lows (s.data.toList.take k) = Bf.bearer
        · have HV := hide (HV2.out hnm)
          rw [hnm]
          clear hnm HV1 HV2
          have eN : (⟨Bf.bearer.toArray⟩ : ByteArray) = ⟨#[98, 101, 97, 114, 101, 114]⟩ := rfl
          rw [eN]
          clear eN
          go_wp2_with fail
          generalize w1 = v1 at *
          go_loopw [7] (fun i wr => ∃ j : Nat, k ≤ j ∧ j ≤ s.size ∧ i = .int .i64 j ∧ Hid ((s.data.toList.drop k).dropWhile isB = (s.data.toList.drop j).dropWhile isB) ∧ Hid (j = k ∨ (s.data.toList.drop k).head? = some 32) ∧ Hid (wr = v1)) (fun i _ => s.size - (intOf i).toNat)
          case atStart => exact ⟨k, Nat.le_refl _, hk, rfl, show _ = _ from rfl, Or.inl rfl, show v1 = v1 from rfl⟩
          case round =>
            obtain ⟨j, hkj, hj, rfl, HJ, HH, HW⟩ := hrel
            by_cases hg2 : ∃ h : j < s.size, s[j] = 32
            · obtain ⟨hlj, h32⟩ := hg2
              have hji : (j : Int) < (s.size : Int) := by omega
              have h32i : (s[j].toNat : Int) = 32 := by rw [h32]; rfl
              have hD := drop_cons s j hlj
              have HNX : Hid ((s.data.toList.drop k).dropWhile isB = (s.data.toList.drop (j + 1)).dropWhile isB) := by
                show _ = _; rw [HJ.out, hD, List.dropWhile_cons, if_pos (by rw [h32]; rfl)]
              have HNH : Hid (j + 1 = k ∨ (s.data.toList.drop k).head? = some 32) := by
                rcases HH.out with h | h
                · subst h; exact Or.inr (by rw [hD, h32]; rfl)
                · exact Or.inr h
              clear h32 hD HJ HH
              go_wp2_with fail
              go_roundw
              case rel => exact ⟨j + 1, by omega, by omega, by go_num, HNX, HNH, HW⟩
              case measure => simp [intOf]; omega
            · have hD : (s.data.toList.drop j).dropWhile isB = s.data.toList.drop j ∧ (j = k → (s.data.toList.drop k).head? ≠ some 32) := by
                by_cases h : j < s.size
                · have hn : s[j] ≠ 32 := fun e => hg2 ⟨h, e⟩
                  refine ⟨?_, fun e => ?_⟩
                  · rw [drop_cons s j h, List.dropWhile_cons, if_neg (by simpa using hn)]
                  · subst e; rw [drop_cons s j h]; simpa using hn
                · have e0 : s.data.toList.drop j = [] := List.drop_of_length_le (by rw [len_list]; omega)
                  refine ⟨by rw [e0]; rfl, fun e => ?_⟩
                  subst e; rw [e0]; simp
              have hst2 : (¬ (j : Int) < (s.size : Int)) ∨ (∃ h : j < s.size, (j : Int) < (s.size : Int) ∧ ¬ ((s[j].toNat : Int) = 32) ∧ ((s[j].toNat : Int) == 32) = false) := by
                by_cases h : j < s.size
                · have hn : ¬ ((s[j].toNat : Int) = 32) := fun e => hg2 ⟨h, UInt8.toNat_inj.1 (by show s[j].toNat = 32; omega)⟩
                  exact Or.inr ⟨h, by omega, hn, beq_false_of_ne hn⟩
                · exact Or.inl (by omega)
              have hjs : (j : Int) ≤ (s.size : Int) := by omega
              have j0 : (0 : Int) ≤ (j : Int) := Int.natCast_nonneg _
              by_cases hjk : j = k
              · have HF : Hid (R = .tuple #[.string ⟨#[]⟩, .bool true]) := by
                  show _ = _; rw [HV.out, if_neg (hD.2 hjk)]
                clear hD hg2 HV HJ HH
                subst hjk
                rcases hst2 with hnj | ⟨hltj, hji, h32, h32b⟩
                all_goals try (exfalso; omega)
                all_goals
                  go_wp2_with fail
                  go_ret2
                  exact ⟨by rw [HF.out]; rfl, by rw [HW.out]; exact HB1.out⟩
              · have hh := HH.out.resolve_left hjk
                have HF : Hid (R = .tuple #[.string (s.extract j s.size), .bool true]) := by
                  show _ = _; rw [HV.out, if_pos hh, HJ.out, hD.1]
                  have : (⟨(s.data.toList.drop j).toArray⟩ : ByteArray) = s.extract j s.size := ba_ext (by rw [fd.ext_drop])
                  exact congrArg (fun t => Value.tuple #[.string t, .bool true]) this
                have hjki : ¬ (j : Int) = (k : Int) := by omega
                clear hD hg2 HV HJ HH hh
                rcases hst2 with hnj | ⟨hltj, hji, h32, h32b⟩
                all_goals try (exfalso; omega)
                all_goals first
                  | (obtain rfl : j = s.size := by omega
                     have e0 : s.extract s.size s.size = ByteArray.empty := by simp
                     rw [e0] at HF
                     clear e0
                     go_wp2_with fail
                     go_ret2
                     exact ⟨by rw [HF.out]; rfl, by rw [HW.out]; exact HB1.out⟩)
                  | (go_wp2_with fail
                     go_ret2
                     exact ⟨by rw [HF.out]; rfl, by rw [HW.out]; exact HB1.out⟩)
        · have HF := hide (HV1.out hnm)
          have hne : ((⟨(Fd.lows (s.data.toList.take k)).toArray⟩ : ByteArray).toList == [98, 101, 97, 114, 101, 114]) = false := by
            rw [ByteArray.toList_eq]; exact beq_false_of_ne hnm
          generalize (⟨(Fd.lows (s.data.toList.take k)).toArray⟩ : ByteArray) = L at *
          clear hnm HV1 HV2
          go_wp2_with fail
          go_ret2
          exact ⟨by rw [HF.out]; rfl, HB1.out⟩
end Go.Proofs.YtcpflfpgnbihiaaGreatDoor.bf
