import Derived.Test.YtmdjppjfjkgnpaaGreatDoorRedEq
import Derived.Test.YtmdjppjfjkgnpaaGreatDoorByteWalks
namespace Go.Proofs.YtmdjppjfjkgnpaaGreatDoor.tm
open Go.ChangeShapes Go.WideShapes Go.ChangeAt Go.RowKit Go.Proofs.YtmdjppjfjkgnpaaGreatDoor.common Go.Proofs.YtmdjppjfjkgnpaaGreatDoor.bk
attribute [local go_sem ↓] Go.wp_at_zero Go.wp_at_succ

def mrkB (b : UInt8) : Bool := [33, 36, 38, 39, 40, 41, 42, 43, 44, 59, 61].contains b
theorem byte_eq (p q : UInt8 → Bool) (h : (List.range 256).all (fun n => p (UInt8.ofNat n) == q (UInt8.ofNat n)) = true) (b : UInt8) : p b = q b := by
  have := List.all_eq_true.1 h b.toNat (List.mem_range.2 b.toNat_lt)
  rw [UInt8.ofNat_toNat] at this
  exact beq_iff_eq.1 this
theorem mrk_cases (c : UInt8) : (mrkB c = true ∧ (c.toNat = 33 ∨ c.toNat = 36 ∨ c.toNat = 38 ∨ c.toNat = 39 ∨ c.toNat = 40 ∨ c.toNat = 41 ∨ c.toNat = 42 ∨ c.toNat = 43 ∨ c.toNat = 44 ∨ c.toNat = 59 ∨ c.toNat = 61)) ∨ (mrkB c = false ∧ c.toNat ≠ 33 ∧ c.toNat ≠ 36 ∧ c.toNat ≠ 38 ∧ c.toNat ≠ 39 ∧ c.toNat ≠ 40 ∧ c.toNat ≠ 41 ∧ c.toNat ≠ 42 ∧ c.toNat ≠ 43 ∧ c.toNat ≠ 44 ∧ c.toNat ≠ 59 ∧ c.toNat ≠ 61) := by
  have h : mrkB c = decide (c.toNat = 33 ∨ c.toNat = 36 ∨ c.toNat = 38 ∨ c.toNat = 39 ∨ c.toNat = 40 ∨ c.toNat = 41 ∨ c.toNat = 42 ∨ c.toNat = 43 ∨ c.toNat = 44 ∨ c.toNat = 59 ∨ c.toNat = 61) := byte_eq mrkB (fun c => decide (c.toNat = 33 ∨ c.toNat = 36 ∨ c.toNat = 38 ∨ c.toNat = 39 ∨ c.toNat = 40 ∨ c.toNat = 41 ∨ c.toNat = 42 ∨ c.toNat = 43 ∨ c.toNat = 44 ∨ c.toNat = 59 ∨ c.toNat = 61)) (by decide +kernel) c
  by_cases hd : c.toNat = 33 ∨ c.toNat = 36 ∨ c.toNat = 38 ∨ c.toNat = 39 ∨ c.toNat = 40 ∨ c.toNat = 41 ∨ c.toNat = 42 ∨ c.toNat = 43 ∨ c.toNat = 44 ∨ c.toNat = 59 ∨ c.toNat = 61
  · exact Or.inl ⟨by rw [h, decide_eq_true hd], hd⟩
  · refine Or.inr ⟨by rw [h, decide_eq_false hd], ?_⟩
    omega

set_option maxHeartbeats 1600000 in
theorem refMark_any (c : UInt8) (w : World) :
    Calls Tryz.prog 32 #[B c] w fun e w' => e = .returned (.bool (mrkB c)) ∧ w' = w := by
  rcases mrk_cases c with ⟨e, h⟩ | ⟨e, h⟩
  · rw [e]
    clear e
    rcases h with h | h | h | h | h | h | h | h | h | h | h
    all_goals
      have hi : (c.toNat : Int) = _ := congrArg Int.ofNat h
      clear h
      go_enter Tryz.func32, Tryz.ntmps32
      go_wp2
      go_ret
      exact ⟨rfl, rfl⟩
  · rw [e]
    clear e
    have q33 : ((c.toNat : Int) == 33) = false := beq_false_of_ne (by omega)
    have p33 : ¬ (c.toNat : Int) = 33 := by omega
    have q36 : ((c.toNat : Int) == 36) = false := beq_false_of_ne (by omega)
    have p36 : ¬ (c.toNat : Int) = 36 := by omega
    have q38 : ((c.toNat : Int) == 38) = false := beq_false_of_ne (by omega)
    have p38 : ¬ (c.toNat : Int) = 38 := by omega
    have q39 : ((c.toNat : Int) == 39) = false := beq_false_of_ne (by omega)
    have p39 : ¬ (c.toNat : Int) = 39 := by omega
    have q40 : ((c.toNat : Int) == 40) = false := beq_false_of_ne (by omega)
    have p40 : ¬ (c.toNat : Int) = 40 := by omega
    have q41 : ((c.toNat : Int) == 41) = false := beq_false_of_ne (by omega)
    have p41 : ¬ (c.toNat : Int) = 41 := by omega
    have q42 : ((c.toNat : Int) == 42) = false := beq_false_of_ne (by omega)
    have p42 : ¬ (c.toNat : Int) = 42 := by omega
    have q43 : ((c.toNat : Int) == 43) = false := beq_false_of_ne (by omega)
    have p43 : ¬ (c.toNat : Int) = 43 := by omega
    have q44 : ((c.toNat : Int) == 44) = false := beq_false_of_ne (by omega)
    have p44 : ¬ (c.toNat : Int) = 44 := by omega
    have q59 : ((c.toNat : Int) == 59) = false := beq_false_of_ne (by omega)
    have p59 : ¬ (c.toNat : Int) = 59 := by omega
    have q61 : ((c.toNat : Int) == 61) = false := beq_false_of_ne (by omega)
    have p61 : ¬ (c.toNat : Int) = 61 := by omega
    clear h
    go_enter Tryz.func32, Tryz.ntmps32
    go_wp2
    go_ret
    exact ⟨rfl, rfl⟩

theorem hexB_val (c : UInt8) : hexB c = decide (Pct.hexv c < 16) := byte_eq hexB (fun c => decide (Pct.hexv c < 16)) (by decide +kernel) c
/-- what a digit stands for, as a whole number -/
def hvI (c : UInt8) : Int := if Pct.hexv c < 16 then (Pct.hexv c : Int) else -1
theorem refHex_any (c : UInt8) (w : World) : Calls Tryz.prog 33 #[B c] w fun e w' => e = .returned (.int .i64 (hvI c)) ∧ w' = w := by
  refine (pctw.refHexValue_any c w).mono ?_
  rintro e w' ⟨rfl, rfl⟩
  exact ⟨rfl, rfl⟩
theorem hv_cases (c : UInt8) : (hexB c = true ∧ ¬ hvI c < 0) ∨ (hexB c = false ∧ hvI c < 0) := by
  rw [hexB_val]
  unfold hvI
  by_cases h : Pct.hexv c < 16
  · rw [if_pos h]
    exact Or.inl ⟨decide_eq_true h, by omega⟩
  · rw [if_neg h]
    exact Or.inr ⟨decide_eq_false h, by decide⟩
theorem ok_val (c : UInt8) : okB [47] c = (Pct.unres c || (mrkB c || (decide (c.toNat = 58) || (decide (c.toNat = 64) || decide (c.toNat = 47))))) := byte_eq (okB [47]) (fun c => Pct.unres c || (mrkB c || (decide (c.toNat = 58) || (decide (c.toNat = 64) || decide (c.toNat = 47))))) (by decide +kernel) c
theorem ok_val2 (c : UInt8) : okB [47, 63] c = (Pct.unres c || (mrkB c || (decide (c.toNat = 58) || (decide (c.toNat = 64) || (decide (c.toNat = 47) || decide (c.toNat = 63)))))) := byte_eq (okB [47, 63]) (fun c => Pct.unres c || (mrkB c || (decide (c.toNat = 58) || (decide (c.toNat = 64) || (decide (c.toNat = 47) || decide (c.toNat = 63)))))) (by decide +kernel) c
def moreB (ask : Bool) : List UInt8 := if ask then [47, 63] else [47]
theorem ok_is (ask : Bool) (c : UInt8) : okB (moreB ask) c = (Pct.unres c || (mrkB c || (decide (c.toNat = 58) || (decide (c.toNat = 64) || (decide (c.toNat = 47) || (ask && decide (c.toNat = 63))))))) := by
  cases ask with
  | false =>
    rw [show moreB false = [47] from rfl, ok_val, Bool.false_and, Bool.or_false]
  | true =>
    rw [show moreB true = [47, 63] from rfl, ok_val2, Bool.true_and]
theorem pct_no (ask : Bool) : okB (moreB ask) 37 = false := by cases ask <;> decide
theorem hasD_at (s : ByteArray) (k : Nat) (h : k + 2 < s.size) : hasD (s.data.toList.drop k) = (hexB (s[k + 1]'(by omega)) && hexB (s[k + 2]'h)) := by
  unfold hasD
  rw [decide_eq_true (by rw [List.length_drop, len_list]; omega), Bool.true_and, List.drop_drop, drop_at2 s (k + 1) (by omega), drop_at2 s (k + 2) h]
  simp
theorem hasD_no (s : ByteArray) (k : Nat) (h : ¬ k + 2 < s.size) : hasD (s.data.toList.drop k) = false := by
  unfold hasD
  rw [decide_eq_false (by rw [List.length_drop, len_list]; omega), Bool.false_and]

end Go.Proofs.YtmdjppjfjkgnpaaGreatDoor.tm

namespace Go.Proofs.YtmdjppjfjkgnpaaGreatDoor.tm
open Go.ChangeShapes Go.WideShapes Go.ChangeAt Go.RowKit Go.Proofs.YtmdjppjfjkgnpaaGreatDoor.common Go.Proofs.YtmdjppjfjkgnpaaGreatDoor.bk
attribute [local go_sem ↓] Go.wp_at_zero Go.wp_at_succ

def ldB (b : UInt8) : Bool := letB b || Tm.btw 48 57 b
theorem ld_nat (c : UInt8) : ldB c = decide (65 ≤ c.toNat ∧ c.toNat ≤ 90 ∨ 97 ≤ c.toNat ∧ c.toNat ≤ 122 ∨ 48 ≤ c.toNat ∧ c.toNat ≤ 57) := byte_eq ldB (fun c => decide (65 ≤ c.toNat ∧ c.toNat ≤ 90 ∨ 97 ≤ c.toNat ∧ c.toNat ≤ 122 ∨ 48 ≤ c.toNat ∧ c.toNat ≤ 57)) (by decide +kernel) c
theorem lab_ld (c : UInt8) : labB c = (ldB c || decide (c.toNat = 45)) := rfl

set_option maxHeartbeats 1600000 in
theorem refLetter_any (c : UInt8) (w : World) :
    Calls Tryz.prog 77 #[B c] w fun e w' => e = .returned (.bool (ldB c)) ∧ w' = w := by
  have hc := c.toNat_lt
  have HU := hide (ld_nat c)
  generalize ldB c = u at *
  go_enter Tryz.func77, Tryz.ntmps77
  go_wp2
  all_goals (go_ret; refine ⟨?_, rfl⟩; rw [HU.out])
  all_goals
    simp only [Array.getD_eq_getD_getElem?]
    simp
    try (rw [Bool.eq_iff_iff])
    try (simp)
    try (omega)

set_option maxRecDepth 100000 in
set_option maxHeartbeats 6400000 in
theorem refLabel_any (s : ByteArray) (w : World) (hs : s.size ≤ 4611686018427387904) :
    Calls Tryz.prog 59 #[.string s] w fun e w' => e = .returned (.bool (isLab s)) ∧ w' = w := by
  obtain ⟨R, hR⟩ : ∃ R, R = isLab s := ⟨_, rfl⟩
  have HW : Hid (R = ((!s.data.toList.isEmpty && decide (s.size ≤ 63) && s.data.toList.all labB) && edge s.data.toList)) := by
    show _ = _
    rw [hR]
    unfold isLab Tm.word
    rw [len_list]
  rw [← hR]
  clear hR
  by_cases he : s = ⟨#[]⟩
  · subst he
    have HQ : Hid (R = false) := HW.out
    go_enter Tryz.func59, Tryz.ntmps59
    go_wp2_with fail
    go_ret
    exact ⟨by rw [HQ.out]; rfl, rfl⟩
  · obtain ⟨h1, h2, h3⟩ := word_ne he
    by_cases hm : 63 < s.size
    · have hmi : (63 : Int) < (s.size : Int) := by omega
      have HQ : Hid (R = false) := by show _ = _; rw [HW.out, decide_eq_false (by omega), Bool.and_false, Bool.false_and, Bool.false_and]
      go_enter Tryz.func59, Tryz.ntmps59
      go_wp2_with fail
      go_ret
      exact ⟨by rw [HQ.out]; rfl, rfl⟩
    · have hmi : ¬ (63 : Int) < (s.size : Int) := by omega
      have hp : 0 < s.size := by
        cases hz : s.size with
        | zero => exact absurd (str_nil s (List.eq_nil_of_length_eq_zero (by rw [len_list]; exact hz))) he
        | succ n => omega
      have hpi : (0 : Int) < (s.size : Int) := by omega
      obtain ⟨n, hn⟩ : ∃ n, s.size = n + 1 := ⟨s.size - 1, by omega⟩
      have hln : n < s.size := by omega
      have hlni : (n : Int) < (s.size : Int) := by omega
      have HHd := head_is s hp
      have HLs : s.data.toList.getLastD 0 = s[n] := by
        have := last_is s hp
        have e : s.size - 1 = n := by omega
        simp only [e] at this
        exact this
      have w1 : IntKind.i64.wrap ((s.size : Int) - 1) = (n : Int) := by rw [wrap_le _ (by omega) (by omega)]; omega
      have w64 : wrap64 ((s.size : Int) - 1) = (n : Int) := by rw [IntWalk.wrap64_in _ (by omega)]; omega
      have HE : Hid (edge s.data.toList = (decide (s[0].toNat ≠ 45) && decide (s[n].toNat ≠ 45))) := by
        show _ = _
        unfold edge
        rw [HHd, HLs]
      rw [h2, decide_eq_true (show s.size ≤ 63 by omega)] at HW
      have HT : Hid (∀ k (_ : k < s.size), (s.data.toList.take (k + 1)).all labB = ((s.data.toList.take k).all labB && labB s[k])) := fun k h => Tm.all_take _ _ k (by simpa using h)
      have HTE : Hid (s.data.toList.take s.size = s.data.toList) := take_all s
      have HA : Hid (∀ k, (s.data.toList.take k).all labB = false → s.data.toList.all labB = false) := fun k h => Tm.all_short _ _ k h
      have HN := hide hn
      clear HHd HLs hn he
      rcases is_cases 45 45 rfl s[0] with ⟨u1, a1, a2⟩ | ⟨u1, a1, a2⟩
      · have HQ : Hid (R = false) := by
          show _ = _
          rw [HW.out, HE.out, decide_eq_false (by have := of_decide_eq_true u1; omega), Bool.false_and, Bool.and_false]
        go_enter Tryz.func59, Tryz.ntmps59
        go_wp2_with fail
        go_ret
        exact ⟨by rw [HQ.out]; rfl, rfl⟩
      rcases is_cases 45 45 rfl s[n] with ⟨v1, b1, b2⟩ | ⟨v1, b1, b2⟩
      · have HQ : Hid (R = false) := by
          show _ = _
          rw [HW.out, HE.out, decide_eq_false (p := s[n].toNat ≠ 45) (by have := of_decide_eq_true v1; omega), Bool.and_false, Bool.and_false]
        go_enter Tryz.func59, Tryz.ntmps59
        go_wp2_with fail
        go_ret
        exact ⟨by rw [HQ.out]; rfl, rfl⟩
      have HQ : Hid (R = s.data.toList.all labB) := by
        show _ = _
        rw [HW.out, HE.out, decide_eq_true (by have := of_decide_eq_false u1; omega), decide_eq_true (by have := of_decide_eq_false v1; omega)]; simp
      clear HW HE
      go_enter Tryz.func59, Tryz.ntmps59
      go_wp2_with fail
      go_loopw [3] (fun i wr => ∃ k : Nat, k ≤ s.size ∧ i = .int .i64 k ∧ Hid ((s.data.toList.take k).all labB = true) ∧ wr = w) (fun i _ => s.size - (intOf i).toNat)
      case atStart => exact ⟨0, Nat.zero_le _, rfl, by show _ = _; simp, rfl⟩
      case round =>
        obtain ⟨k, hk, rfl, HAK, rfl⟩ := hrel
        by_cases hlt : k < s.size
        · have hki : (k : Int) < (s.size : Int) := by omega
          have HTK := hide (HT.out k hlt)
          have HL := hide (refLetter_any s[k] wr)
          have HB := hide (lab_ld s[k])
          rcases is_cases 45 45 rfl s[k] with ⟨c1, d1, d2⟩ | ⟨c1, d1, d2⟩
          · have HR : Hid ((s.data.toList.take (k + 1)).all labB = true) := by
              show _ = _
              rw [HTK.out, HB.out, HAK.out, c1, Bool.or_true]; rfl
            have d3 : ((s[k].toNat : Int) != 45) = false := by rw [bne, d2]; rfl
            unfold B at HL
            rw [d1] at HL
            generalize ldB s[k] = t at *
            cases t
            all_goals
              go_wp2_with (go_at_call 77; refine HL.out.mono ?_; rintro x w2 ⟨rfl, rfl⟩)
              go_roundw
              case rel => exact ⟨k + 1, by omega, by go_num, HR, by trivial⟩
              case measure => simp [intOf]; omega
          · have d3 : ((s[k].toNat : Int) != 45) = true := by rw [bne, d2]; rfl
            rw [c1, Bool.or_false] at HB
            rw [HB.out] at HTK
            generalize ldB s[k] = t at *
            cases t with
            | true =>
              have HR : Hid ((s.data.toList.take (k + 1)).all labB = true) := by
                show _ = _
                rw [HTK.out, HAK.out]; rfl
              go_wp2_with (go_at_call 77; refine HL.out.mono ?_; rintro x w2 ⟨rfl, rfl⟩)
              go_roundw
              case rel => exact ⟨k + 1, by omega, by go_num, HR, by trivial⟩
              case measure => simp [intOf]; omega
            | false =>
              have HR : Hid (R = false) := by
                show _ = _
                rw [HQ.out]
                exact HA.out (k + 1) (by rw [HTK.out, Bool.and_false])
              go_wp2_with (go_at_call 77; refine HL.out.mono ?_; rintro x w2 ⟨rfl, rfl⟩)
              go_ret
              exact ⟨by rw [HR.out]; rfl, rfl⟩
        · obtain rfl : k = s.size := by omega
          rw [HTE.out] at HAK
          have HR : Hid (R = true) := by show _ = _; rw [HQ.out, HAK.out]
          go_wp2_with fail
          go_ret
          exact ⟨by rw [HR.out]; rfl, rfl⟩

end Go.Proofs.YtmdjppjfjkgnpaaGreatDoor.tm

namespace Go.Proofs.YtmdjppjfjkgnpaaGreatDoor.tm
open Go.ChangeShapes Go.WideShapes Go.ChangeAt Go.RowKit Go.Proofs.YtmdjppjfjkgnpaaGreatDoor.common Go.Proofs.YtmdjppjfjkgnpaaGreatDoor.bk
attribute [local go_sem ↓] Go.wp_at_zero Go.wp_at_succ

theorem host_one {l : List UInt8} (h : ∀ x ∈ l, x ≠ 46) : hostN ⟨l.toArray⟩ = isLab ⟨l.toArray⟩ := by
  unfold hostN tsq.parts
  rw [show (⟨l.toArray⟩ : ByteArray).data.toList = l by simp, Tm.split_one 46 l h]
  simp
theorem host_more {l r : List UInt8} (h : ∀ x ∈ l, x ≠ 46) : hostN ⟨(l ++ 46 :: r).toArray⟩ = (isLab ⟨l.toArray⟩ && hostN ⟨r.toArray⟩) := by
  unfold hostN tsq.parts
  rw [show (⟨(l ++ 46 :: r).toArray⟩ : ByteArray).data.toList = l ++ 46 :: r by simp, Tm.split_at 46 l r h, show (⟨r.toArray⟩ : ByteArray).data.toList = r by simp]
  simp
theorem num_val (c : UInt8) : numB c = (decide (Pct.hexv c < 16) || decide (c.toNat = 58) || decide (c.toNat = 46)) := by
  unfold numB
  rw [hexB_val]
theorem drop_split (s : ByteArray) (f k : Nat) (hf : f ≤ k) (hk : k < s.size) : s.data.toList.drop f = (s.extract f k).data.toList ++ s[k] :: s.data.toList.drop (k + 1) := by
  rw [ext_list, ← drop_at2 s k hk]
  have := List.take_append_drop (k - f) (s.data.toList.drop f)
  rw [List.drop_drop, show f + (k - f) = k by omega] at this
  exact this.symm
theorem ext_snoc (s : ByteArray) (f k : Nat) (hf : f ≤ k) (hk : k < s.size) : (s.extract f (k + 1)).data.toList = (s.extract f k).data.toList ++ [s[k]] := by
  rw [ext_list, ext_list, show k + 1 - f = (k - f) + 1 by omega, List.take_succ_eq_append_getElem (by rw [List.length_drop, len_list]; omega)]
  congr 2
  rw [List.getElem_drop]
  simp only [show f + (k - f) = k by omega]
  rfl
theorem str_back (s : ByteArray) : (⟨s.data.toList.toArray⟩ : ByteArray) = s := str_of s

/-- how the labels go on from a place -/
def labsF (s : ByteArray) (f : Nat) : Bool := if f ≤ s.size then hostN ⟨(s.data.toList.drop f).toArray⟩ else true

set_option maxRecDepth 100000 in
set_option maxHeartbeats 3200000 in
theorem refHost_any (s : ByteArray) (w : World) (hs : s.size ≤ 4611686018427387900) :
    Calls Tryz.prog 47 #[.string s] w fun e w' => e = .returned (.bool (hostR s.data.toList)) ∧ w' = w := by
  obtain ⟨R, hR⟩ : ∃ R, R = hostR s.data.toList := ⟨_, rfl⟩
  have HR := hide hR
  rw [← hR]
  clear hR
  have HBk : Hid (brk s.data.toList = (decide (2 < s.size) && decide (s.data.toList.headD 0 = 91) && decide (s.data.toList.getLastD 0 = 93))) := by
    show _ = _
    unfold brk
    rw [len_list]
  by_cases hyes : brk s.data.toList = true
  · have HQ : Hid (R = ((s.data.toList.drop 1).take (s.size - 2)).all numB) := by
      show _ = _
      rw [HR.out]
      unfold hostR
      rw [if_pos hyes, len_list]
    rw [hyes] at HBk
    have hb := HBk.out.symm
    rw [Bool.and_eq_true, Bool.and_eq_true] at hb
    have h2 := of_decide_eq_true hb.1.1
    have h2i : (2 : Int) < (s.size : Int) := by omega
    have hz0 : 0 < s.size := by omega
    obtain ⟨n, hn⟩ : ∃ n, s.size = n + 1 := ⟨s.size - 1, by omega⟩
    have hln : n < s.size := by omega
    have hlni : (n : Int) < (s.size : Int) := by omega
    have h0i : (0 : Int) < (s.size : Int) := by omega
    have w1 : IntKind.i64.wrap ((s.size : Int) - 1) = (n : Int) := by rw [wrap_le _ (by omega) (by omega)]; omega
    have w64 : wrap64 ((s.size : Int) - 1) = (n : Int) := by rw [IntWalk.wrap64_in _ (by omega)]; omega
    have q0 : (s[0].toNat : Int) = 91 := by
      have := of_decide_eq_true hb.1.2
      rw [head_is s (by omega)] at this
      rw [this]; rfl
    have q1 : (s[n].toNat : Int) = 93 := by
      have := of_decide_eq_true hb.2
      rw [last_is s (by omega)] at this
      have e : s.size - 1 = n := by omega
      simp only [e] at this
      rw [this]; rfl
    have HT : Hid (∀ k (_ : k + 1 < s.size), ((s.data.toList.drop 1).take (k + 1)).all numB = (((s.data.toList.drop 1).take k).all numB && numB s[k + 1])) := fun k h => by
      rw [Tm.all_take _ _ k (by rw [List.length_drop, len_list]; omega)]
      congr 2
      rw [List.getElem_drop]
      simp only [Nat.add_comm 1 k]
      rfl
    have HA : Hid (∀ k, k ≤ s.size - 2 → ((s.data.toList.drop 1).take k).all numB = false → ((s.data.toList.drop 1).take (s.size - 2)).all numB = false) := fun k hk h => by
      have := Tm.all_short ((s.data.toList.drop 1).take (s.size - 2)) numB k (by rw [List.take_take, Nat.min_eq_left hk]; exact h)
      exact this
    clear hb hyes HBk HR
    have HN := hide hn
    clear hn
    go_enter Tryz.func47, Tryz.ntmps47
    go_wp2_with fail
    go_loopw [3] (fun i wr => ∃ k : Nat, k + 1 ≤ n ∧ i = .int .i64 ((k + 1 : Nat) : Int) ∧ Hid (((s.data.toList.drop 1).take k).all numB = true) ∧ wr = w) (fun i _ => s.size - (intOf i).toNat)
    case atStart => exact ⟨0, by have := HN.out; omega, rfl, by show _ = _; simp, rfl⟩
    case round =>
      obtain ⟨k, hk, rfl, HAK, rfl⟩ := hrel
      obtain ⟨p, hp⟩ : ∃ p, k + 1 = p := ⟨_, rfl⟩
      rw [hp]
      by_cases hlt : p < n
      · have hki : (p : Int) < (n : Int) := by omega
        have hps : p < s.size := by omega
        have hpsi : (p : Int) < (s.size : Int) := by omega
        have HTK := hide (HT.out k (by omega))
        have HV := hide (fun W => refHex_any s[p] W)
        have HB := hide (num_val s[p])
        simp only [hp] at HTK
        rw [HAK.out, Bool.true_and] at HTK
        have HB2 : Hid (numB s[p] = (hexB s[p] || decide (s[p].toNat = 58) || decide (s[p].toNat = 46))) := rfl
        have HTK2 : Hid (((s.data.toList.drop 1).take p).all numB = numB (s[p]'hps)) := HTK.out
        have HNo : Hid (numB s[p] = false → R = false) := fun h => by
          rw [HQ.out]
          exact HA.out p (by have := HN.out; omega) (by rw [HTK2.out, h])
        have HP := hide hp
        clear HTK hp HB
        rcases hv_cases s[p] with ⟨g1, g2⟩ | ⟨g1, g2⟩
        · have HX : Hid (((s.data.toList.drop 1).take p).all numB = true) := by show _ = _; rw [HTK2.out, HB2.out, g1]; rfl
          clear HTK2 HB2 HNo g1
          go_wp2_with (go_at_call 33; refine (HV.out _).mono ?_; rintro x w2 ⟨rfl, rfl⟩)
          go_roundw
          case rel => exact ⟨p, by omega, by go_num, HX, by trivial⟩
          case measure => simp [intOf]; omega
        · rcases is_cases 58 58 rfl s[p] with ⟨a1, a2, a3⟩ | ⟨a1, a2, a3⟩
          · have HX : Hid (((s.data.toList.drop 1).take p).all numB = true) := by show _ = _; rw [HTK2.out, HB2.out, a1, Bool.or_true, Bool.true_or]
            unfold B at HV
            rw [a2] at HV
            clear HTK2 HB2 HNo g1
            go_wp2_with (go_at_call 33; refine (HV.out _).mono ?_; rintro x w2 ⟨rfl, rfl⟩)
            go_roundw
            case rel => exact ⟨p, by omega, by go_num, HX, by trivial⟩
            case measure => simp [intOf]; omega
          · have q2 : ((s[p].toNat : Int) != 58) = true := by rw [bne, a3]; rfl
            rcases is_cases 46 46 rfl s[p] with ⟨b1, b2, b3⟩ | ⟨b1, b2, b3⟩
            · have HX : Hid (((s.data.toList.drop 1).take p).all numB = true) := by show _ = _; rw [HTK2.out, HB2.out, b1, Bool.or_true]
              unfold B at HV
              rw [b2] at HV
              clear HTK2 HB2 HNo g1
              go_wp2_with (go_at_call 33; refine (HV.out _).mono ?_; rintro x w2 ⟨rfl, rfl⟩)
              go_roundw
              case rel => exact ⟨p, by omega, by go_num, HX, by trivial⟩
              case measure => simp [intOf]; omega
            · have q3 : ((s[p].toNat : Int) != 46) = true := by rw [bne, b3]; rfl
              have HX := hide (HNo.out (by rw [HB2.out, g1, a1, b1]; rfl))
              clear HTK2 HB2 HNo g1
              go_wp2_with (go_at_call 33; refine (HV.out _).mono ?_; rintro x w2 ⟨rfl, rfl⟩)
              go_ret
              exact ⟨by rw [HX.out]; rfl, rfl⟩
      · obtain rfl : p = n := by omega
        have hxx : ¬ (p : Int) < (p : Int) := by omega
        have HF : Hid (R = true) := by
          show _ = _
          rw [HQ.out, show s.size - 2 = k by have := HN.out; omega]
          exact HAK.out
        go_wp2_with fail
        go_ret
        exact ⟨by rw [HF.out]; rfl, rfl⟩
  · have HQ : Hid (R = labsF s 0) := by
      show _ = _
      rw [HR.out]
      unfold hostR labsF
      rw [if_neg hyes, if_pos (Nat.zero_le _), List.drop_zero]
    rw [Bool.not_eq_true] at hyes
    rw [hyes] at HBk
    have HLb : Hid (∀ f k W, Calls Tryz.prog 59 #[.string (s.extract f k)] W fun e w' => e = .returned (.bool (isLab (s.extract f k))) ∧ w' = W) := fun f k W => refLabel_any (s.extract f k) W (by rw [ByteArray.size_extract]; omega)
    have H1 : Hid (∀ f, f ≤ s.size → (∀ x ∈ (s.extract f s.size).data.toList, x ≠ (46 : UInt8)) → labsF s f = isLab (s.extract f s.size)) := fun f hf h => by
      unfold labsF
      rw [if_pos hf, ← ext_from, host_one h, str_of]
    have H2 : Hid (∀ f k (_ : f ≤ k) (hk : k < s.size), (∀ x ∈ (s.extract f k).data.toList, x ≠ (46 : UInt8)) → s[k].toNat = 46 → labsF s f = (isLab (s.extract f k) && labsF s (k + 1))) := fun f k hf hk h he => by
      have e46 : s[k] = 46 := UInt8.toNat_inj.1 he
      unfold labsF
      rw [if_pos (by omega), if_pos (by omega), drop_split s f k hf hk, e46, host_more h, str_of]
    have H3 : Hid (∀ f k (_ : f ≤ k) (hk : k < s.size), (∀ x ∈ (s.extract f k).data.toList, x ≠ (46 : UInt8)) → s[k].toNat ≠ 46 → ∀ x ∈ (s.extract f (k + 1)).data.toList, x ≠ (46 : UInt8)) := fun f k hf hk h he x hx => by
      rw [ext_snoc s f k hf hk] at hx
      rcases List.mem_append.1 hx with hx | hx
      · exact h x hx
      · rw [List.mem_singleton.1 hx]
        intro e; exact he (by rw [e]; rfl)
    have H4 : Hid (labsF s (s.size + 1) = true) := by show _ = _; unfold labsF; rw [if_neg (by omega)]
    have H5 : Hid (∀ f, ∀ x ∈ (s.extract f f).data.toList, x ≠ (46 : UInt8)) := fun f x hx => by
      rw [ext_list, Nat.sub_self, List.take_zero] at hx
      cases hx
    have hcond : (2 < s.size ∧ ∃ (h0 : 0 < s.size) (n : Nat) (hn : n < s.size), s.size = n + 1 ∧ (s[0].toNat = 91 ∧ s[n].toNat ≠ 93 ∨ s[0].toNat ≠ 91)) ∨ ¬ 2 < s.size := by
      by_cases h2 : 2 < s.size
      · refine Or.inl ⟨h2, by omega, s.size - 1, by omega, by omega, ?_⟩
        have hb := HBk.out.symm
        rw [decide_eq_true h2, Bool.true_and, head_is s (by omega), last_is s (by omega)] at hb
        by_cases h91 : (s[0]'(by omega)).toNat = 91
        · left
          refine ⟨h91, fun h93 => ?_⟩
          rw [decide_eq_true (UInt8.toNat_inj.1 h91 : s[0]'(by omega) = 91), decide_eq_true (UInt8.toNat_inj.1 h93 : s[s.size - 1]'(by omega) = 93)] at hb
          cases hb
        · exact Or.inr h91
      · exact Or.inr h2
    clear HBk HR hyes
    have hcond2 : (∃ n : Nat, ∃ (h0 : 0 < s.size) (hn : n < s.size), (2 : Int) < (s.size : Int) ∧ (0 : Int) < (s.size : Int) ∧ (n : Int) < (s.size : Int) ∧ IntKind.i64.wrap ((s.size : Int) - 1) = (n : Int) ∧ wrap64 ((s.size : Int) - 1) = (n : Int) ∧ (s[0].toNat : Int) = 91 ∧ ((s[n].toNat : Int) == 93) = false ∧ ¬ (s[n].toNat : Int) = 93) ∨ (∃ (h0 : 0 < s.size), (2 : Int) < (s.size : Int) ∧ (0 : Int) < (s.size : Int) ∧ ((s[0].toNat : Int) == 91) = false ∧ ¬ (s[0].toNat : Int) = 91) ∨ ¬ (2 : Int) < (s.size : Int) := by
      rcases hcond with ⟨h2, h0, n, hn, he, h | h⟩ | h
      · exact Or.inl ⟨n, h0, hn, by omega, by omega, by omega, by rw [wrap_le _ (by omega) (by omega)]; omega, by rw [IntWalk.wrap64_in _ (by omega)]; omega, by omega, beq_false_of_ne (by omega), by omega⟩
      · exact Or.inr (Or.inl ⟨h0, by omega, by omega, beq_false_of_ne (by omega), by omega⟩)
      · exact Or.inr (Or.inr (by omega))
    clear hcond
    rcases hcond2 with ⟨n, h0, hn, z1, z2, z3, z4, z5, z6, z7, z8⟩ | ⟨h0, z1, z2, z3, z4⟩ | z1
    all_goals
      go_enter Tryz.func47, Tryz.ntmps47
      go_wp2_with fail
      go_loopw [4, 5] (fun fr i wr => ∃ f k : Nat, f ≤ k ∧ k ≤ s.size + 1 ∧ fr = .int .i64 (f : Int) ∧ i = .int .i64 (k : Int) ∧ Hid (∀ x ∈ (s.extract f k).data.toList, x ≠ (46 : UInt8)) ∧ Hid (R = labsF s f) ∧ (k = s.size + 1 → f = k) ∧ wr = w) (fun _ i _ => s.size + 1 - (intOf i).toNat)
      case atStart => exact ⟨0, 0, Nat.le_refl _, Nat.zero_le _, rfl, rfl, H5.out 0, HQ, fun h => by omega, rfl⟩
      case round =>
        obtain ⟨f, k, hfk, hk, rfl, rfl, HD, HF, he, rfl⟩ := hrel
        by_cases hend : k = s.size + 1
        · have HG : Hid (R = true) := by show _ = _; rw [HF.out, he hend, hend]; exact H4.out
          have hki : ¬ (k : Int) ≤ (s.size : Int) := by omega
          clear he hend
          go_wp2_with fail
          go_ret
          exact ⟨by rw [HG.out]; rfl, rfl⟩
        have hki : (k : Int) ≤ (s.size : Int) := by omega
        have hfi : (f : Int) ≤ (k : Int) := by omega
        have f0 : (0 : Int) ≤ (f : Int) := Int.natCast_nonneg _
        clear he
        by_cases hlast : k = s.size
        · have HD1 : Hid (∀ x ∈ (s.extract f s.size).data.toList, x ≠ (46 : UInt8)) := by rw [← hlast]; exact HD
          have HG : Hid (R = isLab (s.extract f s.size)) := by show _ = _; rw [HF.out]; exact H1.out f (by omega) HD1.out
          have hL := HLb.out f s.size
          subst hlast
          have HLx := hide hL
          clear hL
          generalize isLab (s.extract f s.size) = t at *
          cases t with
          | true =>
            go_wp2_with (go_at_call 59; refine (HLx.out _).mono ?_; rintro x w2 ⟨rfl, rfl⟩)
            go_roundw
            case rel => exact ⟨s.size + 1, s.size + 1, Nat.le_refl _, Nat.le_refl _, by go_num, by go_num, H5.out _, by show _ = _; rw [HG.out, H4.out], fun _ => rfl, by trivial⟩
            case measure => simp [intOf]
          | false =>
            go_wp2_with (go_at_call 59; refine (HLx.out _).mono ?_; rintro x w2 ⟨rfl, rfl⟩)
            go_ret
            exact ⟨by rw [HG.out]; rfl, rfl⟩
        · have hlt : k < s.size := by omega
          have hlti : (k : Int) < (s.size : Int) := by omega
          have hnl : ¬ (k : Int) = (s.size : Int) := by omega
          have hnlb : ((k : Int) == (s.size : Int)) = false := beq_false_of_ne hnl
          rcases is_cases 46 46 rfl s[k] with ⟨a1, a2, a3⟩ | ⟨a1, a2, a3⟩
          · have HG : Hid (R = (isLab (s.extract f k) && labsF s (k + 1))) := by show _ = _; rw [HF.out]; exact H2.out f k hfk hlt HD.out (of_decide_eq_true a1)
            have HLx := hide (HLb.out f k)
            generalize isLab (s.extract f k) = t at *
            cases t with
            | true =>
              go_wp2_with (go_at_call 59; refine (HLx.out _).mono ?_; rintro x w2 ⟨rfl, rfl⟩)
              go_roundw
              case rel => exact ⟨k + 1, k + 1, Nat.le_refl _, by omega, by go_num, by go_num, H5.out _, by show _ = _; rw [HG.out]; rfl, fun h => rfl, by trivial⟩
              case measure => simp [intOf]; omega
            | false =>
              go_wp2_with (go_at_call 59; refine (HLx.out _).mono ?_; rintro x w2 ⟨rfl, rfl⟩)
              go_ret
              exact ⟨by rw [HG.out]; rfl, rfl⟩
          · have HD2 := hide (H3.out f k hfk hlt HD.out (of_decide_eq_false a1))
            go_wp2_with fail
            go_roundw
            case rel => exact ⟨f, k + 1, by omega, by omega, rfl, by go_num, HD2, HF, fun h => by omega, by trivial⟩
            case measure => simp [intOf]; omega
end Go.Proofs.YtmdjppjfjkgnpaaGreatDoor.tm

namespace Go.Proofs.YtmdjppjfjkgnpaaGreatDoor.tm
open Go.ChangeShapes Go.WideShapes Go.ChangeAt Go.RowKit Go.Proofs.YtmdjppjfjkgnpaaGreatDoor.common Go.Proofs.YtmdjppjfjkgnpaaGreatDoor.bk
attribute [local go_sem ↓] Go.wp_at_zero Go.wp_at_succ

theorem numOf_snoc (c : UInt8) : ∀ (l : List UInt8) (n : Nat), numOf n (l ++ [c]) = 10 * numOf n l + (c.toNat - 48)
  | [], _ => rfl
  | _ :: r, _ => numOf_snoc c r _
theorem numOf_le : ∀ (l : List UInt8) (n : Nat), l.all (Tm.btw 48 57) = true → numOf n l < (n + 1) * 10 ^ l.length
  | [], n, _ => by
    show n < (n + 1) * 1
    omega
  | c :: r, n, h => by
    rw [List.all_cons, Bool.and_eq_true] at h
    have hc := of_decide_eq_true h.1
    have := numOf_le r (10 * n + (c.toNat - 48)) h.2
    show numOf (10 * n + (c.toNat - 48)) r < (n + 1) * 10 ^ (r.length + 1)
    refine Nat.lt_of_lt_of_le this ?_
    rw [Nat.pow_succ, Nat.mul_comm (10 ^ r.length) 10, ← Nat.mul_assoc]
    exact Nat.mul_le_mul_right _ (by omega)
theorem numOf_few (l : List UInt8) (h : l.all (Tm.btw 48 57) = true) (hl : l.length ≤ 5) : numOf 0 l < 100000 := by
  have h1 := numOf_le l 0 h
  have h2 : 10 ^ l.length ≤ 10 ^ 5 := Nat.pow_le_pow_right (by decide) hl
  omega

set_option maxRecDepth 100000 in
set_option maxHeartbeats 1600000 in
theorem refPort_any (s : ByteArray) (w : World) :
    Calls Tryz.prog 46 #[.string s] w fun e w' => e = .returned (.bool (portL s.data.toList)) ∧ w' = w := by
  obtain ⟨R, hR⟩ : ∃ R, R = portL s.data.toList := ⟨_, rfl⟩
  have HW : Hid (R = (!s.data.toList.isEmpty && decide (s.size ≤ 5) && decide ((s.data.toList.headD 0).toNat ≠ 48) && s.data.toList.all (Tm.btw 48 57) && decide (numOf 0 s.data.toList ≤ 65535))) := by
    show _ = _
    rw [hR, port_eq]
    unfold portD
    rw [len_list]
  rw [← hR]
  clear hR
  by_cases he : s = ⟨#[]⟩
  · subst he
    have HQ : Hid (R = false) := HW.out
    go_enter Tryz.func46, Tryz.ntmps46
    go_wp2_with fail
    go_ret
    exact ⟨by rw [HQ.out]; rfl, rfl⟩
  · obtain ⟨h1, h2, h3⟩ := word_ne he
    by_cases hm : 5 < s.size
    · have hmi : (5 : Int) < (s.size : Int) := by omega
      have HQ : Hid (R = false) := by show _ = _; rw [HW.out, decide_eq_false (by omega), Bool.and_false, Bool.false_and, Bool.false_and, Bool.false_and]
      go_enter Tryz.func46, Tryz.ntmps46
      go_wp2_with fail
      go_ret
      exact ⟨by rw [HQ.out]; rfl, rfl⟩
    · have hmi : ¬ (5 : Int) < (s.size : Int) := by omega
      have hp : 0 < s.size := by
        cases hz : s.size with
        | zero => exact absurd (str_nil s (List.eq_nil_of_length_eq_zero (by rw [len_list]; exact hz))) he
        | succ n => omega
      have hpi : (0 : Int) < (s.size : Int) := by omega
      have HHd := head_is s hp
      rw [h2, decide_eq_true (show s.size ≤ 5 by omega), HHd] at HW
      have HT : Hid (∀ k (_ : k < s.size), (s.data.toList.take (k + 1)).all (Tm.btw 48 57) = ((s.data.toList.take k).all (Tm.btw 48 57) && Tm.btw 48 57 s[k])) := fun k h => Tm.all_take _ _ k (by simpa using h)
      have HT2 : Hid (∀ k (_ : k < s.size), s.data.toList.take (k + 1) = s.data.toList.take k ++ [s[k]]) := fun k h => take_snoc s k h
      have HTE : Hid (s.data.toList.take s.size = s.data.toList) := take_all s
      have HA : Hid (∀ k, (s.data.toList.take k).all (Tm.btw 48 57) = false → s.data.toList.all (Tm.btw 48 57) = false) := fun k h => Tm.all_short _ _ k h
      clear HHd he
      rcases is_cases 48 48 rfl s[0] with ⟨u1, a1, a2⟩ | ⟨u1, a1, a2⟩
      · have HQ : Hid (R = false) := by
          show _ = _
          rw [HW.out, decide_eq_false (by have := of_decide_eq_true u1; omega)]
          simp
        go_enter Tryz.func46, Tryz.ntmps46
        go_wp2_with fail
        go_ret
        exact ⟨by rw [HQ.out]; rfl, rfl⟩
      have HQ : Hid (R = (s.data.toList.all (Tm.btw 48 57) && decide (numOf 0 s.data.toList ≤ 65535))) := by
        show _ = _
        rw [HW.out, decide_eq_true (by have := of_decide_eq_false u1; omega)]; rfl
      clear HW
      go_enter Tryz.func46, Tryz.ntmps46
      go_wp2_with fail
      go_loopw [3, 4] (fun n i wr => ∃ k : Nat, k ≤ s.size ∧ i = .int .i64 k ∧ Hid ((s.data.toList.take k).all (Tm.btw 48 57) = true) ∧ (∃ v : Nat, v < 100000 ∧ n = .int .i64 v ∧ Hid (v = numOf 0 (s.data.toList.take k))) ∧ wr = w) (fun _ i _ => s.size - (intOf i).toNat)
      case atStart => exact ⟨0, Nat.zero_le _, rfl, by show _ = _; simp, ⟨0, by omega, rfl, rfl⟩, rfl⟩
      case round =>
        obtain ⟨k, hk, rfl, HAK, ⟨v, hv, rfl, HV⟩, rfl⟩ := hrel
        by_cases hlt : k < s.size
        · have hki : (k : Int) < (s.size : Int) := by omega
          have HTK := hide (HT.out k hlt)
          have hc := s[k].toNat_lt
          rcases btw_cases 48 57 48 57 rfl rfl s[k] with ⟨b1, b2, b3⟩ | ⟨b1, b2, b3⟩ | ⟨b1, b2⟩
          · have HR : Hid ((s.data.toList.take (k + 1)).all (Tm.btw 48 57) = true) := by
              show _ = _
              rw [HTK.out, b1, HAK.out]; rfl
            obtain ⟨v2, hv2⟩ : ∃ v2, v2 = 10 * v + (s[k].toNat - 48) := ⟨_, rfl⟩
            have HV2 : Hid (v2 = numOf 0 (s.data.toList.take (k + 1))) := by
              show _ = _
              rw [HT2.out k hlt, numOf_snoc, ← HV.out]
              exact hv2
            have hv3 : v2 < 100000 := by
              rw [HV2.out]
              exact numOf_few _ HR.out (by rw [List.length_take, len_list]; omega)
            have c1 : ¬ (s[k].toNat : Int) < 48 := by omega
            have c2 : ¬ (57 : Int) < (s[k].toNat : Int) := by omega
            obtain ⟨D, hD⟩ : ∃ D : Nat, s[k].toNat = 48 + D := ⟨s[k].toNat - 48, by omega⟩
            have hD9 : D ≤ 9 := by omega
            have e1 : (s[k].toNat : Int) - 48 = (D : Int) := by omega
            obtain rfl : v2 = 10 * v + D := by omega
            clear hv2 hD
            go_wp2_with fail
            go_roundw
            case rel => exact ⟨k + 1, by omega, by go_num, HR, ⟨10 * v + D, hv3, by first | go_num | (congr 1; omega), HV2⟩, by trivial⟩
            case measure => simp [intOf]; omega
          · have HR : Hid (R = false) := by
              show _ = _
              rw [HQ.out, HA.out (k + 1) (by rw [HTK.out, b1, Bool.and_false]), Bool.false_and]
            have c1 : ¬ (s[k].toNat : Int) < 48 := by omega
            have c2 : (57 : Int) < (s[k].toNat : Int) := by have := of_decide_eq_false b3; omega
            go_wp2_with fail
            go_ret
            exact ⟨by rw [HR.out]; rfl, rfl⟩
          · have HR : Hid (R = false) := by
              show _ = _
              rw [HQ.out, HA.out (k + 1) (by rw [HTK.out, b1, Bool.and_false]), Bool.false_and]
            have c1 : (s[k].toNat : Int) < 48 := by omega
            go_wp2_with fail
            go_ret
            exact ⟨by rw [HR.out]; rfl, rfl⟩
        · obtain rfl : k = s.size := by omega
          rw [HTE.out] at HAK HV
          have HR : Hid (R = decide ((v : Int) ≤ 65535)) := by
            show _ = _
            rw [HQ.out, HAK.out, ← HV.out, Bool.true_and]
            exact decide_eq_decide.2 (by omega)
          go_wp2_with fail
          go_ret
          exact ⟨by rw [HR.out]; rfl, rfl⟩

end Go.Proofs.YtmdjppjfjkgnpaaGreatDoor.tm

namespace Go.Proofs.YtmdjppjfjkgnpaaGreatDoor.tm
open Go.ChangeShapes Go.WideShapes Go.ChangeAt Go.RowKit Go.Proofs.YtmdjppjfjkgnpaaGreatDoor.common Go.Proofs.YtmdjppjfjkgnpaaGreatDoor.bk
attribute [local go_sem ↓] Go.wp_at_zero Go.wp_at_succ

set_option maxRecDepth 100000 in
set_option maxHeartbeats 12800000 in
theorem refRuns_any (s : ByteArray) (n : Nat) (ask : Bool) (w : World) (hs : s.size ≤ 4611686018427387900) (hn : n ≤ s.size) :
    Calls Tryz.prog 20 #[.string s, .int .i64 (n : Int), .bool ask] w fun e w' => e = .returned (.bool (madeOf (moreB ask) (s.data.toList.drop n))) ∧ w' = w := by
  obtain ⟨R, hR⟩ : ∃ R, R = madeOf (moreB ask) (s.data.toList.drop n) := ⟨_, rfl⟩
  have HRR := hide hR
  rw [← hR]
  clear hR
  go_enter Tryz.func20, Tryz.ntmps20
  go_wp2_with fail
  go_loopw [1] (fun i wr => ∃ k : Nat, k ≤ s.size ∧ i = .int .i64 k ∧ Hid (R = madeOf (moreB ask) (s.data.toList.drop k)) ∧ wr = w) (fun i _ => s.size - (intOf i).toNat)
  case atStart => exact ⟨n, hn, rfl, HRR, rfl⟩
  case round =>
    obtain ⟨k, hk, rfl, HK, rfl⟩ := hrel
    by_cases hlt : k < s.size
    · have hki : (k : Int) < (s.size : Int) := by omega
      have HD := hide (drop_at2 s k hlt)
      have HU := hide (pctw.refUnreserved_any s[k] wr)
      have HMk := hide (refMark_any s[k] wr)
      have HO := hide (ok_is ask s[k])
      have HYes : Hid (okB (moreB ask) s[k] = true → R = madeOf (moreB ask) (s.data.toList.drop (k + 1))) := by
        intro h
        have hne : s[k] ≠ 37 := fun e => by rw [e, pct_no] at h; cases h
        rw [HK.out, HD.out, made_ok _ _ hne, h]; rfl
      have HNo : Hid (okB (moreB ask) s[k] = false → s[k].toNat ≠ 37 → R = false) := by
        intro h h37
        have hne : s[k] ≠ 37 := fun e => h37 (by rw [e]; rfl)
        rw [HK.out, HD.out, made_ok _ _ hne, h]; rfl
      have HPc : Hid (s[k].toNat = 37 → R = (hasD (s.data.toList.drop k) && madeOf (moreB ask) (s.data.toList.drop (k + 3)))) := by
        intro h
        have he : s[k] = 37 := UInt8.toNat_inj.1 h
        rw [HK.out, HD.out, he, made_pct, List.drop_drop]
      generalize Pct.unres s[k] = un at *
      generalize mrkB s[k] = ma at *
      clear HK HD
      have yes : okB (moreB ask) s[k] = true → True := fun _ => trivial
      cases un with
      | true =>
        have HN : Hid (R = madeOf (moreB ask) (s.data.toList.drop (k + 1))) := HYes.out (by rw [HO.out]; rfl)
        clear HYes HNo HPc HO yes
        go_wp2_with (first
          | (go_at_call 31; refine HU.out.mono ?_; rintro x w2 ⟨rfl, rfl⟩)
          | (go_at_call 32; refine HMk.out.mono ?_; rintro x w2 ⟨rfl, rfl⟩))
        go_roundw
        case rel => exact ⟨k + 1, by omega, by go_num, HN, by trivial⟩
        case measure => simp [intOf]; omega
      | false =>
      cases ma with
      | true =>
        have HN : Hid (R = madeOf (moreB ask) (s.data.toList.drop (k + 1))) := HYes.out (by rw [HO.out]; rfl)
        clear HYes HNo HPc HO yes
        go_wp2_with (first
          | (go_at_call 31; refine HU.out.mono ?_; rintro x w2 ⟨rfl, rfl⟩)
          | (go_at_call 32; refine HMk.out.mono ?_; rintro x w2 ⟨rfl, rfl⟩))
        go_roundw
        case rel => exact ⟨k + 1, by omega, by go_num, HN, by trivial⟩
        case measure => simp [intOf]; omega
      | false =>
      rw [Bool.false_or, Bool.false_or] at HO
      rcases is_cases 58 58 rfl s[k] with ⟨a1, a2, a3⟩ | ⟨a1, a2, a3⟩
      · have HN : Hid (R = madeOf (moreB ask) (s.data.toList.drop (k + 1))) := HYes.out (by rw [HO.out, a1]; first | rfl | simp)
        unfold pctw.B at HU; unfold B at HMk
        rw [a2] at HU HMk
        clear HYes HNo HPc HO yes
        go_wp2_with (first
          | (go_at_call 31; refine HU.out.mono ?_; rintro x w2 ⟨rfl, rfl⟩)
          | (go_at_call 32; refine HMk.out.mono ?_; rintro x w2 ⟨rfl, rfl⟩))
        go_roundw
        case rel => exact ⟨k + 1, by omega, by go_num, HN, by trivial⟩
        case measure => simp [intOf]; omega
      rw [a1, Bool.false_or] at HO
      rcases is_cases 64 64 rfl s[k] with ⟨b1, b2, b3⟩ | ⟨b1, b2, b3⟩
      · have HN : Hid (R = madeOf (moreB ask) (s.data.toList.drop (k + 1))) := HYes.out (by rw [HO.out, b1]; first | rfl | simp)
        unfold pctw.B at HU; unfold B at HMk
        rw [b2] at HU HMk
        clear HYes HNo HPc HO yes
        go_wp2_with (first
          | (go_at_call 31; refine HU.out.mono ?_; rintro x w2 ⟨rfl, rfl⟩)
          | (go_at_call 32; refine HMk.out.mono ?_; rintro x w2 ⟨rfl, rfl⟩))
        go_roundw
        case rel => exact ⟨k + 1, by omega, by go_num, HN, by trivial⟩
        case measure => simp [intOf]; omega
      rw [b1, Bool.false_or] at HO
      rcases is_cases 47 47 rfl s[k] with ⟨c1, c2, c3⟩ | ⟨c1, c2, c3⟩
      · have HN : Hid (R = madeOf (moreB ask) (s.data.toList.drop (k + 1))) := HYes.out (by rw [HO.out, c1]; first | rfl | simp)
        unfold pctw.B at HU; unfold B at HMk
        rw [c2] at HU HMk
        clear HYes HNo HPc HO yes
        go_wp2_with (first
          | (go_at_call 31; refine HU.out.mono ?_; rintro x w2 ⟨rfl, rfl⟩)
          | (go_at_call 32; refine HMk.out.mono ?_; rintro x w2 ⟨rfl, rfl⟩))
        go_roundw
        case rel => exact ⟨k + 1, by omega, by go_num, HN, by trivial⟩
        case measure => simp [intOf]; omega
      rw [c1, Bool.false_or] at HO
      have e63 : ask = true ∧ s[k].toNat = 63 ∨ (ask && decide (s[k].toNat = 63)) = false := by
        cases ask with
        | false => exact Or.inr rfl
        | true =>
          by_cases h : s[k].toNat = 63
          · exact Or.inl ⟨rfl, h⟩
          · exact Or.inr (by rw [decide_eq_false h]; rfl)
      rcases e63 with ⟨rfl, h63⟩ | h63
      · have HN : Hid (R = madeOf (moreB true) (s.data.toList.drop (k + 1))) := HYes.out (by rw [HO.out, decide_eq_true h63]; rfl)
        have h63i : (s[k].toNat : Int) = 63 := by omega
        unfold pctw.B at HU; unfold B at HMk
        rw [h63i] at HU HMk
        clear h63
        clear HYes HNo HPc HO yes
        go_wp2_with (first
          | (go_at_call 31; refine HU.out.mono ?_; rintro x w2 ⟨rfl, rfl⟩)
          | (go_at_call 32; refine HMk.out.mono ?_; rintro x w2 ⟨rfl, rfl⟩))
        go_roundw
        case rel => exact ⟨k + 1, by omega, by go_num, HN, by trivial⟩
        case measure => simp [intOf]; omega
      rw [h63] at HO
      have no63 : (ask = false) ∨ (ask = true ∧ ¬ (s[k].toNat : Int) = 63) := by
        cases ask with
        | false => exact Or.inl rfl
        | true => exact Or.inr ⟨rfl, fun e => by rw [decide_eq_true (by omega : s[k].toNat = 63)] at h63; cases h63⟩
      clear h63
      rcases is_cases 37 37 rfl s[k] with ⟨d1, d2, d3⟩ | ⟨d1, d2, d3⟩
      · have HP := hide (HPc.out (of_decide_eq_true d1))
        unfold pctw.B at HU; unfold B at HMk
        rw [d2] at HU HMk
        have d63 : ((s[k].toNat : Int) == 63) = false := beq_false_of_ne (by omega)
        clear HYes HNo HPc HO yes
        by_cases h2 : k + 2 < s.size
        · obtain ⟨p, hp⟩ : ∃ p, k + 1 = p := ⟨_, rfl⟩
          obtain ⟨q, hq⟩ : ∃ q, k + 2 = q := ⟨_, rfl⟩
          have hps : p < s.size := by omega
          have hqs : q < s.size := by omega
          have hpi : (p : Int) < (s.size : Int) := by omega
          have hqi : (q : Int) < (s.size : Int) := by omega
          have HHx := hide (hasD_at s k h2)
          simp only [hp, hq] at HHx
          have w1 : IntKind.i64.wrap ((k : Int) + 1) = (p : Int) := by rw [wrap_le _ (by omega) (by omega)]; omega
          have w2 : wrap64 ((k : Int) + 1) = (p : Int) := by rw [IntWalk.wrap64_in _ (by omega)]; omega
          have w3 : IntKind.i64.wrap ((k : Int) + 2) = (q : Int) := by rw [wrap_le _ (by omega) (by omega)]; omega
          have w4 : wrap64 ((k : Int) + 2) = (q : Int) := by rw [IntWalk.wrap64_in _ (by omega)]; omega
          have HX1 := hv_cases s[p]
          have HX2 := hv_cases s[q]
          rw [HHx.out] at HP
          have HP2 : Hid (R = ((hexB (s[p]'hps) && hexB (s[q]'hqs)) && madeOf (moreB ask) (s.data.toList.drop (k + 3)))) := HP.out
          clear HHx HP
          have HK3 := hide hq
          clear hp hq h2
          rcases HX1 with ⟨g1, g1i⟩ | ⟨g1, g1i⟩
          · rcases HX2 with ⟨g2, g2i⟩ | ⟨g2, g2i⟩
            · have HN : Hid (R = madeOf (moreB ask) (s.data.toList.drop (k + 3))) := by show _ = _; rw [HP2.out, g1, g2]; rfl
              clear g1 g2 HP2
              rcases no63 with rfl | ⟨rfl, n63⟩
              all_goals
                go_wp2_with (first
          | (go_at_call 31; refine HU.out.mono ?_; rintro x w2 ⟨rfl, rfl⟩)
          | (go_at_call 32; refine HMk.out.mono ?_; rintro x w2 ⟨rfl, rfl⟩)
          | (go_at_call 33; refine (refHex_any _ _).mono ?_; rintro x w2 ⟨rfl, rfl⟩))
                go_roundw
                case rel => exact ⟨k + 3, by have := HK3.out; omega, by go_num, HN, by trivial⟩
                case measure => have := HK3.out; simp [intOf]; omega
            · have HN : Hid (R = false) := by show _ = _; rw [HP2.out, g2, Bool.and_false, Bool.false_and]
              clear g1 g2 HP2
              rcases no63 with rfl | ⟨rfl, n63⟩
              all_goals
                go_wp2_with (first
          | (go_at_call 31; refine HU.out.mono ?_; rintro x w2 ⟨rfl, rfl⟩)
          | (go_at_call 32; refine HMk.out.mono ?_; rintro x w2 ⟨rfl, rfl⟩)
          | (go_at_call 33; refine (refHex_any _ _).mono ?_; rintro x w2 ⟨rfl, rfl⟩))
                go_ret
                exact ⟨by rw [HN.out]; rfl, rfl⟩
          · have HN : Hid (R = false) := by show _ = _; rw [HP2.out, g1, Bool.false_and, Bool.false_and]
            rcases HX2 with ⟨g2, g2i⟩ | ⟨g2, g2i⟩
            all_goals
              clear g1 g2 HP2
              rcases no63 with rfl | ⟨rfl, n63⟩
              all_goals
                go_wp2_with (first
          | (go_at_call 31; refine HU.out.mono ?_; rintro x w2 ⟨rfl, rfl⟩)
          | (go_at_call 32; refine HMk.out.mono ?_; rintro x w2 ⟨rfl, rfl⟩)
          | (go_at_call 33; refine (refHex_any _ _).mono ?_; rintro x w2 ⟨rfl, rfl⟩))
                go_ret
                exact ⟨by rw [HN.out]; rfl, rfl⟩
        · have HN : Hid (R = false) := by show _ = _; rw [HP.out, hasD_no s k h2]; rfl
          have h2i : ¬ (k : Int) + 2 < (s.size : Int) := by omega
          have w3 : IntKind.i64.wrap ((k : Int) + 2) = (k : Int) + 2 := wrap_le _ (by omega) (by omega)
          have w4 : wrap64 ((k : Int) + 2) = (k : Int) + 2 := IntWalk.wrap64_in _ (by omega)
          clear HP h2
          rcases no63 with rfl | ⟨rfl, n63⟩
          all_goals
            go_wp2_with (first
          | (go_at_call 31; refine HU.out.mono ?_; rintro x w2 ⟨rfl, rfl⟩)
          | (go_at_call 32; refine HMk.out.mono ?_; rintro x w2 ⟨rfl, rfl⟩))
            go_ret
            exact ⟨by rw [HN.out]; rfl, rfl⟩
      · have HN : Hid (R = false) := HNo.out HO.out (of_decide_eq_false d1)
        clear HYes HNo HPc HO yes
        rcases no63 with rfl | ⟨rfl, n63⟩
        all_goals
          go_wp2_with (first
          | (go_at_call 31; refine HU.out.mono ?_; rintro x w2 ⟨rfl, rfl⟩)
          | (go_at_call 32; refine HMk.out.mono ?_; rintro x w2 ⟨rfl, rfl⟩))
          go_ret
          exact ⟨by rw [HN.out]; rfl, rfl⟩
    · obtain rfl : k = s.size := by omega
      have HN : Hid (R = true) := by show _ = _; rw [HK.out, List.drop_eq_nil_of_le (by rw [len_list]; exact Nat.le_refl _)]; rfl
      clear HK
      go_wp2_with fail
      go_ret
      exact ⟨by rw [HN.out]; rfl, rfl⟩

end Go.Proofs.YtmdjppjfjkgnpaaGreatDoor.tm

namespace Go.Proofs.YtmdjppjfjkgnpaaGreatDoor.tm
open Go.ChangeShapes Go.WideShapes Go.ChangeAt Go.RowKit Go.Proofs.YtmdjppjfjkgnpaaGreatDoor.common Go.Proofs.YtmdjppjfjkgnpaaGreatDoor.bk
open Go.Proofs.YtmdjppjfjkgnpaaGreatDoor.fd (before behind cut_no cut_at)
attribute [local go_sem ↓] Go.wp_at_zero Go.wp_at_succ

/-- the last place of a byte, or less than none -/
def Last (c : UInt8) (l : List UInt8) (C : Int) : Prop := (C = -1 ∧ ∀ x ∈ l, x ≠ c) ∨ ∃ n : Nat, C = n ∧ n < l.length ∧ l = l.take n ++ c :: l.drop (n + 1) ∧ ∀ x ∈ l.drop (n + 1), x ≠ c
theorem last_nil (c : UInt8) : Last c [] (-1) := Or.inl ⟨rfl, fun x h => by cases h⟩
theorem last_hit (c : UInt8) (l : List UInt8) : Last c (l ++ [c]) (l.length : Int) := by
  refine Or.inr ⟨l.length, rfl, by simp, ?_, ?_⟩
  · rw [List.take_left, List.drop_of_length_le (by simp)]
  · rw [List.drop_of_length_le (by simp)]
    intro x h; cases h
theorem last_miss {c x : UInt8} {l : List UInt8} {C : Int} (hx : x ≠ c) (h : Last c l C) : Last c (l ++ [x]) C := by
  rcases h with ⟨rfl, h⟩ | ⟨n, rfl, hn, e, h⟩
  · refine Or.inl ⟨rfl, fun y hy => ?_⟩
    rcases List.mem_append.1 hy with hy | hy
    · exact h y hy
    · rw [List.mem_singleton.1 hy]; exact hx
  · refine Or.inr ⟨n, rfl, by rw [List.length_append]; omega, ?_, ?_⟩
    · rw [List.take_append_of_le_length (by omega), List.drop_append_of_le_length (by omega)]
      conv => lhs; rw [e]
      rw [List.append_assoc]; rfl
    · rw [List.drop_append_of_le_length (by omega)]
      intro y hy
      rcases List.mem_append.1 hy with hy | hy
      · exact h y hy
      · rw [List.mem_singleton.1 hy]; exact hx
theorem last_ge {c : UInt8} {l : List UInt8} {C : Int} (h : Last c l C) : -1 ≤ C ∧ C < (l.length : Int) := by
  rcases h with ⟨rfl, _⟩ | ⟨n, rfl, hn, _⟩
  · omega
  · omega
theorem last_cut {u : List UInt8} {C D : Int} (hC : Last 58 u C) (hD : Last 93 u D) (h : D < C) : ∃ n : Nat, C = n ∧ n < u.length ∧ cutLast u = some (u.take n, u.drop (n + 1)) := by
  have hd := last_ge hD
  rcases hC with ⟨rfl, _⟩ | ⟨n, rfl, hn, e, h1⟩
  · omega
  · refine ⟨n, rfl, hn, ?_⟩
    have h2 : ∀ x ∈ u.drop (n + 1), x ≠ 93 := by
      rcases hD with ⟨_, h2⟩ | ⟨m, rfl, _, _, h2⟩
      · exact fun x hx => h2 x (List.mem_of_mem_drop hx)
      · intro x hx
        refine h2 x ?_
        have : u.drop (n + 1) = (u.drop (m + 1)).drop (n - m) := by rw [List.drop_drop]; congr 1; omega
        rw [this] at hx
        exact List.mem_of_mem_drop hx
    have := cutLast_some (u.take n) (u.drop (n + 1)) h1 h2
    rw [← e] at this
    exact this
theorem last_no {u : List UInt8} {C D : Int} (hC : Last 58 u C) (hD : Last 93 u D) (h : ¬ D < C) : cutLast u = none := by
  rcases hC with ⟨rfl, h1⟩ | ⟨n, rfl, hn, e, h1⟩
  · exact cutLast_no u h1
  · rcases hD with ⟨rfl, _⟩ | ⟨m, rfl, hm, e2, _⟩
    · omega
    · refine cutLast_none u fun a b eab => ?_
      have c1 : u[n]? = some 58 := by
        rw [e, List.getElem?_append_right (by rw [List.length_take]; omega), List.length_take, Nat.min_eq_left (by omega), Nat.sub_self]; rfl
      have c2 : u[m]? = some 93 := by
        rw [e2, List.getElem?_append_right (by rw [List.length_take]; omega), List.length_take, Nat.min_eq_left (by omega), Nat.sub_self]; rfl
      have hnm : n ≠ m := fun he => by rw [he, c2] at c1; exact absurd (Option.some.inj c1) (by decide)
      have ha : a.length ≤ n := by
        apply Nat.le_of_not_lt
        intro hlt
        have h3 : u[a.length]? = some 58 := by rw [eab, List.getElem?_append_right (Nat.le_refl _), Nat.sub_self]; rfl
        have h4 : (58 : UInt8) ∈ u.drop (n + 1) := by
          have : (u.drop (n + 1))[a.length - (n + 1)]? = some 58 := by rw [List.getElem?_drop, show n + 1 + (a.length - (n + 1)) = a.length by omega]; exact h3
          exact List.mem_of_getElem? this
        exact h1 _ h4 rfl
      have : b[m - (a.length + 1)]? = some 93 := by
        have h5 := c2
        rw [eab, List.getElem?_append_right (by omega), show m - a.length = (m - (a.length + 1)) + 1 by omega, List.getElem?_cons_succ] at h5
        exact h5
      exact List.mem_of_getElem? this
def nmB (loc : Bool) : List UInt8 → Bool := if loc then isLoc else hostR

theorem list_eq (s : ByteArray) (l : List UInt8) : (s.toList == l) = decide (s.data.toList = l) := by
  rw [ByteArray.toList_eq]
  by_cases h : s.data.toList = l
  · rw [decide_eq_true h, h]; simp
  · rw [decide_eq_false h]; exact beq_false_of_ne h

set_option maxRecDepth 100000 in
set_option maxHeartbeats 6400000 in
theorem refSite_any (s : ByteArray) (loc : Bool) (w : World) (hs : s.size ≤ 4611686018427387900) :
    Calls Tryz.prog 34 #[.string s, .bool loc] w fun e w' => e = .returned (.bool (siteR (nmB loc) s.data.toList)) ∧ w' = w := by
  obtain ⟨R, hR⟩ : ∃ R, R = siteR (nmB loc) s.data.toList := ⟨_, rfl⟩
  have HR := hide hR
  rw [← hR]
  clear hR
  have HT : Hid (∀ k (_ : k < s.size), s.data.toList.take (k + 1) = s.data.toList.take k ++ [s[k]]) := fun k h => take_snoc s k h
  have HTl : Hid (∀ k, k ≤ s.size → (s.data.toList.take k).length = k) := fun k h => by rw [List.length_take, len_list]; omega
  have HE : Hid (s.data.toList.take s.size = s.data.toList) := take_all s
  go_enter Tryz.func34, Tryz.ntmps34
  go_wp2_with fail
  go_loopw [5, 6, 7] (fun c d i wr => ∃ (k : Nat) (C D : Int), k ≤ s.size ∧ c = .int .i64 C ∧ d = .int .i64 D ∧ i = .int .i64 (k : Int) ∧ Hid (Last 58 (s.data.toList.take k) C) ∧ Hid (Last 93 (s.data.toList.take k) D) ∧ wr = w) (fun _ _ i _ => s.size - (intOf i).toNat)
  case atStart => exact ⟨0, -1, -1, Nat.zero_le _, rfl, rfl, rfl, last_nil _, last_nil _, rfl⟩
  case round =>
    obtain ⟨k, C, D, hk, rfl, rfl, rfl, HC, HD, rfl⟩ := hrel
    by_cases hlt : k < s.size
    · have hki : (k : Int) < (s.size : Int) := by omega
      have hl := HTl.out k hk
      rcases is_cases 58 58 rfl s[k] with ⟨a1, a2, a3⟩ | ⟨a1, a2, a3⟩
      · have e58 : s[k] = 58 := UInt8.toNat_inj.1 (of_decide_eq_true a1)
        have HC2 : Hid (Last 58 (s.data.toList.take (k + 1)) (k : Int)) := by
          show Last _ _ _
          rw [HT.out k hlt, e58]
          have := last_hit 58 (s.data.toList.take k)
          rw [hl] at this
          exact this
        have HD2 : Hid (Last 93 (s.data.toList.take (k + 1)) D) := by
          show Last _ _ _
          rw [HT.out k hlt]
          exact last_miss (by rw [e58]; decide) HD.out
        have b2 : ¬ (s[k].toNat : Int) = 93 := by omega
        have b3 : ((s[k].toNat : Int) == 93) = false := beq_false_of_ne b2
        clear e58 hl
        go_wp2_with fail
        go_roundw
        case rel => exact ⟨k + 1, k, D, by omega, rfl, rfl, by go_num, HC2, HD2, by trivial⟩
        case measure => simp [intOf]; omega
      · have n58 : s[k] ≠ 58 := fun e => of_decide_eq_false a1 (by rw [e]; rfl)
        have HC2 : Hid (Last 58 (s.data.toList.take (k + 1)) C) := by
          show Last _ _ _
          rw [HT.out k hlt]
          exact last_miss n58 HC.out
        rcases is_cases 93 93 rfl s[k] with ⟨b1, b2, b3⟩ | ⟨b1, b2, b3⟩
        · have e93 : s[k] = 93 := UInt8.toNat_inj.1 (of_decide_eq_true b1)
          have HD2 : Hid (Last 93 (s.data.toList.take (k + 1)) (k : Int)) := by
            show Last _ _ _
            rw [HT.out k hlt, e93]
            have := last_hit 93 (s.data.toList.take k)
            rw [hl] at this
            exact this
          clear e93 hl n58
          go_wp2_with fail
          go_roundw
          case rel => exact ⟨k + 1, C, k, by omega, rfl, rfl, by go_num, HC2, HD2, by trivial⟩
          case measure => simp [intOf]; omega
        · have n93 : s[k] ≠ 93 := fun e => of_decide_eq_false b1 (by rw [e]; rfl)
          have HD2 : Hid (Last 93 (s.data.toList.take (k + 1)) D) := by
            show Last _ _ _
            rw [HT.out k hlt]
            exact last_miss n93 HD.out
          clear hl n58 n93
          go_wp2_with fail
          go_roundw
          case rel => exact ⟨k + 1, C, D, by omega, rfl, rfl, by go_num, HC2, HD2, by trivial⟩
          case measure => simp [intOf]; omega
    · obtain rfl : k = s.size := by omega
      have hxx : ¬ (s.size : Int) < (s.size : Int) := by omega
      rw [HE.out] at HC HD
      clear hk hlt
      -- the name's own test
      have HNm : Hid (∀ z : ByteArray, z.size ≤ s.size → ∀ W, Calls Tryz.prog 47 #[.string z] W fun e w' => e = .returned (.bool (hostR z.data.toList)) ∧ w' = W) := fun z hz W => refHost_any z W (by omega)
      by_cases hcut : D < C
      · obtain ⟨n, rfl, hn, hcl⟩ := last_cut HC.out HD.out hcut
        rw [len_list] at hn
        have HR2 : Hid (R = (portL (s.data.toList.drop (n + 1)) && nmB loc (s.data.toList.take n))) := by
          show _ = _
          rw [HR.out]
          unfold siteR
          rw [hcl]
        clear HR hcl HC HD
        rw [← ext_from, ← ext_to] at HR2
        have hni : (n : Int) ≤ (s.size : Int) := by omega
        have hn1 : (n : Int) + 1 ≤ (s.size : Int) := by omega
        have h10 : (0 : Int) ≤ (n : Int) + 1 := by omega
        have h1t : ((n : Int) + 1).toNat = n + 1 := by omega
        have ww : IntKind.i64.wrap ((n : Int) + 1) = (n : Int) + 1 := wrap_le _ (by omega) (by omega)
        have HP := hide (fun W => refPort_any (s.extract (n + 1) s.size) W)
        have HH := hide (HNm.out (s.extract 0 n) (by rw [ByteArray.size_extract]; omega))
        generalize portL (s.extract (n + 1) s.size).data.toList = t at *
        cases t with
        | false =>
          have HF : Hid (R = false) := HR2.out
          go_wp2_with (go_at_call 46; refine (HP.out _).mono ?_; rintro x w2 ⟨rfl, rfl⟩)
          go_ret
          exact ⟨by rw [HF.out]; rfl, rfl⟩
        | true =>
          cases loc with
          | true =>
            have HR3 : Hid (R = (decide ((s.extract 0 n).data.toList = [108, 111, 99, 97, 108, 104, 111, 115, 116]) || decide ((s.extract 0 n).data.toList = [49, 50, 55, 46, 48, 46, 48, 46, 49]) || decide ((s.extract 0 n).data.toList = [91, 58, 58, 49, 93]))) := HR2.out
            have q0 := list_eq (s.extract 0 n) [108, 111, 99, 97, 108, 104, 111, 115, 116]
            have q1 := list_eq (s.extract 0 n) [49, 50, 55, 46, 48, 46, 48, 46, 49]
            have q2 := list_eq (s.extract 0 n) [91, 58, 58, 49, 93]
            generalize decide ((s.extract 0 n).data.toList = [108, 111, 99, 97, 108, 104, 111, 115, 116]) = d0 at *
            generalize decide ((s.extract 0 n).data.toList = [49, 50, 55, 46, 48, 46, 48, 46, 49]) = d1 at *
            generalize decide ((s.extract 0 n).data.toList = [91, 58, 58, 49, 93]) = d2 at *
            clear HR2
            cases d0 <;> cases d1 <;> cases d2
            all_goals
              go_wp2_with (go_at_call 46; refine (HP.out _).mono ?_; rintro x w2 ⟨rfl, rfl⟩)
              go_ret
              exact ⟨by rw [HR3.out]; first | rfl | (simp [q0, q1, q2]), rfl⟩
          | false =>
            have HF : Hid (R = hostR (s.extract 0 n).data.toList) := HR2.out
            generalize hostR (s.extract 0 n).data.toList = t at *
            go_wp2_with (first
              | (go_at_call 46; refine (HP.out _).mono ?_; rintro x w2 ⟨rfl, rfl⟩)
              | (go_at_call 47; refine (HH.out _).mono ?_; rintro x w2 ⟨rfl, rfl⟩))
            go_ret
            exact ⟨by rw [HF.out]; rfl, rfl⟩
      · have HR2 : Hid (R = nmB loc s.data.toList) := by
          show _ = _
          rw [HR.out]
          unfold siteR
          rw [last_no HC.out HD.out hcut]
        clear HR HC HD
        have HH := hide (HNm.out s (Nat.le_refl _))
        cases loc with
        | true =>
          have HR3 : Hid (R = (decide (s.data.toList = [108, 111, 99, 97, 108, 104, 111, 115, 116]) || decide (s.data.toList = [49, 50, 55, 46, 48, 46, 48, 46, 49]) || decide (s.data.toList = [91, 58, 58, 49, 93]))) := HR2.out
          have q0 := list_eq s [108, 111, 99, 97, 108, 104, 111, 115, 116]
          have q1 := list_eq s [49, 50, 55, 46, 48, 46, 48, 46, 49]
          have q2 := list_eq s [91, 58, 58, 49, 93]
          generalize decide (s.data.toList = [108, 111, 99, 97, 108, 104, 111, 115, 116]) = d0 at *
          generalize decide (s.data.toList = [49, 50, 55, 46, 48, 46, 48, 46, 49]) = d1 at *
          generalize decide (s.data.toList = [91, 58, 58, 49, 93]) = d2 at *
          clear HR2
          cases d0 <;> cases d1 <;> cases d2
          all_goals
            go_wp2_with fail
            go_ret
            exact ⟨by rw [HR3.out]; first | rfl | (simp [q0, q1, q2]), rfl⟩
        | false =>
          have HF : Hid (R = hostR s.data.toList) := HR2.out
          generalize hostR s.data.toList = t at *
          go_wp2_with (go_at_call 47; refine (HH.out _).mono ?_; rintro x w2 ⟨rfl, rfl⟩)
          go_ret
          exact ⟨by rw [HF.out]; rfl, rfl⟩
end Go.Proofs.YtmdjppjfjkgnpaaGreatDoor.tm

namespace Go.Proofs.YtmdjppjfjkgnpaaGreatDoor.tm
open Go.ChangeShapes Go.WideShapes Go.ChangeAt Go.RowKit Go.Proofs.YtmdjppjfjkgnpaaGreatDoor.common Go.Proofs.YtmdjppjfjkgnpaaGreatDoor.bk
open Go.Proofs.YtmdjppjfjkgnpaaGreatDoor.fd (before behind cut_no cut_at)
attribute [local go_sem ↓] Go.wp_at_zero Go.wp_at_succ

/-- the other bytes of a scheme -/
def othB (b : UInt8) : Bool := Tm.btw 48 57 b || [43, 45, 46].contains b
theorem sch_oth (b : UInt8) : schB b = (Tm.btw 97 122 b || othB b) := by unfold schB othB; rw [Bool.or_assoc]
/-- what has been read of a scheme -/
def schP (l : List UInt8) : Bool := l.isEmpty || (Tm.btw 97 122 (l.headD 0) && l.all schB)
theorem schP_snoc0 (c : UInt8) : schP [c] = Tm.btw 97 122 c := by
  unfold schP
  show (false || (Tm.btw 97 122 c && (schB c && true))) = _
  rw [sch_oth]
  cases Tm.btw 97 122 c <;> rfl
theorem schP_snoc {l : List UInt8} (h : l ≠ []) (c : UInt8) : schP (l ++ [c]) = (schP l && schB c) := by
  unfold schP
  cases l with
  | nil => exact absurd rfl h
  | cons b r =>
    show (false || (Tm.btw 97 122 b && ((b :: r) ++ [c]).all schB)) = ((false || (Tm.btw 97 122 b && (b :: r).all schB)) && schB c)
    rw [List.all_append, Bool.false_or, Bool.false_or, Bool.and_assoc]
    congr 2
    show (schB c && true) = schB c
    rw [Bool.and_true]
theorem schP_short {l : List UInt8} {k : Nat} (hk : k ≠ 0) (hl : k ≤ l.length) (h : schP (l.take k) = false) : privS l = false := by
  unfold schP at h
  unfold privS
  cases l with
  | nil => rfl
  | cons b r =>
    cases k with
    | zero => exact absurd rfl hk
    | succ k =>
      rw [List.take_succ_cons] at h
      have h2 : (Tm.btw 97 122 b && (b :: r.take k).all schB) = false := h
      show (true && Tm.btw 97 122 b && (b :: r).all schB && (b :: r).contains 46) = false
      cases hb : Tm.btw 97 122 b with
      | false => rfl
      | true =>
        rw [hb, Bool.true_and] at h2
        have h3 : (b :: r).all schB = false := Tm.all_short (b :: r) schB (k + 1) (by rw [List.take_succ_cons]; exact h2)
        rw [h3]; rfl
theorem priv_end {l : List UInt8} (h : schP l = true) : privS l = l.contains 46 := by
  unfold schP at h
  unfold privS
  cases l with
  | nil => rfl
  | cons b r =>
    have h2 : (Tm.btw 97 122 b && (b :: r).all schB) = true := h
    rw [Bool.and_eq_true] at h2
    show (true && Tm.btw 97 122 b && (b :: r).all schB && (b :: r).contains 46) = _
    rw [h2.1, h2.2]; rfl
theorem con_snoc (l : List UInt8) (c : UInt8) : (l ++ [c]).contains 46 = (l.contains 46 || decide (c.toNat = 46)) := by
  rw [List.contains_append]
  congr 1
  rw [Bool.eq_iff_iff, decide_eq_true_iff]
  constructor
  · intro h
    have : 46 = c := by simpa using h
    rw [← this]; rfl
  · intro h
    have : c = 46 := UInt8.toNat_inj.1 h
    rw [this]; rfl
theorem oth_nat (c : UInt8) : othB c = decide (48 ≤ c.toNat ∧ c.toNat ≤ 57 ∨ c.toNat = 43 ∨ c.toNat = 45 ∨ c.toNat = 46) := byte_eq othB (fun c => decide (48 ≤ c.toNat ∧ c.toNat ≤ 57 ∨ c.toNat = 43 ∨ c.toNat = 45 ∨ c.toNat = 46)) (by decide +kernel) c
/-- which of the scheme's bytes it is -/
theorem byte9 (c : UInt8) : (97 ≤ c.toNat ∧ c.toNat ≤ 122) ∨ (48 ≤ c.toNat ∧ c.toNat ≤ 57) ∨ c.toNat = 43 ∨ c.toNat = 45 ∨ c.toNat = 46 ∨ (c.toNat < 48 ∧ c.toNat ≠ 43 ∧ c.toNat ≠ 45 ∧ c.toNat ≠ 46) ∨ (57 < c.toNat ∧ c.toNat < 97) ∨ 122 < c.toNat := by omega

set_option maxRecDepth 100000 in
set_option maxHeartbeats 6400000 in
theorem refPriv_any (s : ByteArray) (w : World) (hs : s.size ≤ 4611686018427387900) :
    Calls Tryz.prog 23 #[.string s] w fun e w' => e = .returned (.bool (privS s.data.toList)) ∧ w' = w := by
  obtain ⟨R, hR⟩ : ∃ R, R = privS s.data.toList := ⟨_, rfl⟩
  have HR := hide hR
  rw [← hR]
  clear hR
  have HT : Hid (∀ k (_ : k < s.size), s.data.toList.take (k + 1) = s.data.toList.take k ++ [s[k]]) := fun k h => take_snoc s k h
  have HE : Hid (s.data.toList.take s.size = s.data.toList) := take_all s
  go_enter Tryz.func23, Tryz.ntmps23
  go_wp2_with fail
  go_loopw [3, 4] (fun d i wr => ∃ (k : Nat) (b : Bool), k ≤ s.size ∧ d = .bool b ∧ i = .int .i64 (k : Int) ∧ Hid (schP (s.data.toList.take k) = true) ∧ Hid (b = (s.data.toList.take k).contains 46) ∧ wr = w) (fun _ i _ => s.size - (intOf i).toNat)
  case atStart => exact ⟨0, false, Nat.zero_le _, rfl, rfl, rfl, rfl, rfl⟩
  case round =>
    obtain ⟨k, b, hk, rfl, rfl, HP, HB, rfl⟩ := hrel
    by_cases hlt : k < s.size
    · have hki : (k : Int) < (s.size : Int) := by omega
      have HB2 : Hid ((s.data.toList.take (k + 1)).contains 46 = (b || decide (s[k].toNat = 46))) := by
        show _ = _
        rw [HT.out k hlt, con_snoc, ← HB.out]
      have HYes : Hid ((Tm.btw 97 122 s[k] || (decide (k ≠ 0) && othB s[k])) = true → schP (s.data.toList.take (k + 1)) = true) := fun h => by
        rw [HT.out k hlt]
        by_cases h0 : k = 0
        · subst h0
          rw [decide_eq_false (by omega), Bool.false_and, Bool.or_false] at h
          rw [List.take_zero, List.nil_append, schP_snoc0]; exact h
        · rw [decide_eq_true h0, Bool.true_and, ← sch_oth] at h
          rw [schP_snoc (fun e => by have := congrArg List.length e; rw [List.length_take, len_list, List.length_nil] at this; omega), HP.out, h]; rfl
      have HNo : Hid ((Tm.btw 97 122 s[k] || (decide (k ≠ 0) && othB s[k])) = false → R = false) := fun h => by
        rw [HR.out]
        refine schP_short (k := k + 1) (by omega) (by rw [len_list]; omega) ?_
        rw [HT.out k hlt]
        by_cases h0 : k = 0
        · subst h0
          rw [decide_eq_false (by omega), Bool.false_and, Bool.or_false] at h
          rw [List.take_zero, List.nil_append, schP_snoc0]; exact h
        · rw [decide_eq_true h0, Bool.true_and, ← sch_oth] at h
          rw [schP_snoc (fun e => by have := congrArg List.length e; rw [List.length_take, len_list, List.length_nil] at this; omega), h, Bool.and_false]
      have hsm : Tm.btw 97 122 s[k] = decide (97 ≤ s[k].toNat ∧ s[k].toNat ≤ 122) := rfl
      rw [hsm, oth_nat] at HYes HNo
      clear hsm HP HB HR
      have hz : ((k : Int) == 0) = true ∧ k = 0 ∨ (((k : Int) == 0) = false ∧ ¬ (k : Int) = 0 ∧ k ≠ 0) := by
        by_cases h : k = 0
        · exact Or.inl ⟨beq_iff_eq.2 (by omega), h⟩
        · exact Or.inr ⟨beq_false_of_ne (by omega), by omega, h⟩
      have hc := s[k].toNat_lt
      rcases byte9 s[k] with ⟨c1, c2⟩ | ⟨c1, c2⟩ | c1 | c1 | c1 | ⟨c1, c2, c3, c4⟩ | ⟨c1, c2⟩ | c1
      · have f0 : (97 : Int) ≤ (s[k].toNat : Int) := by omega
        have f1 : (s[k].toNat : Int) ≤ 122 := by omega
        have f2 : (48 : Int) ≤ (s[k].toNat : Int) := by omega
        have f3 : ¬ (s[k].toNat : Int) ≤ 57 := by omega
        have g3 : decide ((s[k].toNat : Int) ≤ 57) = false := decide_eq_false f3
        have f4 : ¬ (s[k].toNat : Int) = 43 := by omega
        have g4 : ((s[k].toNat : Int) == 43) = false := beq_false_of_ne f4
        have f5 : ¬ (s[k].toNat : Int) = 45 := by omega
        have g5 : ((s[k].toNat : Int) == 45) = false := beq_false_of_ne f5
        have f6 : ¬ (s[k].toNat : Int) = 46 := by omega
        have g6 : ((s[k].toNat : Int) == 46) = false := beq_false_of_ne f6
        have HB3 : Hid ((b || false) = (s.data.toList.take (k + 1)).contains 46) := by show _ = _; rw [HB2.out, decide_eq_false (by omega)]
        rcases hz with ⟨z1, z2⟩ | ⟨z1, z2, z3⟩
        · have HP2 := hide (HYes.out (by rw [decide_eq_true (p := 97 ≤ s[k].toNat ∧ s[k].toNat ≤ 122) (by omega), decide_eq_false (p := k ≠ 0) (by omega), decide_eq_false (p := 48 ≤ s[k].toNat ∧ s[k].toNat ≤ 57 ∨ s[k].toNat = 43 ∨ s[k].toNat = 45 ∨ s[k].toNat = 46) (by omega)]; rfl))
          clear HYes HNo HB2 c1 c2 z2
          cases b
          all_goals
            go_wp2_with fail
            go_roundw
            case rel => exact ⟨k + 1, _, by omega, by rw [← HB3.out]; rfl, by go_num, HP2, rfl, by trivial⟩
            case measure => simp [intOf]; omega
        · have HP2 := hide (HYes.out (by rw [decide_eq_true (p := 97 ≤ s[k].toNat ∧ s[k].toNat ≤ 122) (by omega), decide_eq_true (p := k ≠ 0) z3, decide_eq_false (p := 48 ≤ s[k].toNat ∧ s[k].toNat ≤ 57 ∨ s[k].toNat = 43 ∨ s[k].toNat = 45 ∨ s[k].toNat = 46) (by omega)]; rfl))
          clear HYes HNo HB2 c1 c2 z3
          cases b
          all_goals
            go_wp2_with fail
            go_roundw
            case rel => exact ⟨k + 1, _, by omega, by rw [← HB3.out]; rfl, by go_num, HP2, rfl, by trivial⟩
            case measure => simp [intOf]; omega
      · have f0 : ¬ (97 : Int) ≤ (s[k].toNat : Int) := by omega
        have g0 : decide ((97 : Int) ≤ (s[k].toNat : Int)) = false := decide_eq_false f0
        have f1 : (48 : Int) ≤ (s[k].toNat : Int) := by omega
        have f2 : (s[k].toNat : Int) ≤ 57 := by omega
        have f3 : ¬ (s[k].toNat : Int) = 43 := by omega
        have g3 : ((s[k].toNat : Int) == 43) = false := beq_false_of_ne f3
        have f4 : ¬ (s[k].toNat : Int) = 45 := by omega
        have g4 : ((s[k].toNat : Int) == 45) = false := beq_false_of_ne f4
        have f5 : ¬ (s[k].toNat : Int) = 46 := by omega
        have g5 : ((s[k].toNat : Int) == 46) = false := beq_false_of_ne f5
        have HB3 : Hid ((b || false) = (s.data.toList.take (k + 1)).contains 46) := by show _ = _; rw [HB2.out, decide_eq_false (by omega)]
        rcases hz with ⟨z1, z2⟩ | ⟨z1, z2, z3⟩
        · have HF := hide (HNo.out (by rw [decide_eq_false (p := 97 ≤ s[k].toNat ∧ s[k].toNat ≤ 122) (by omega), decide_eq_false (p := k ≠ 0) (by omega), decide_eq_true (p := 48 ≤ s[k].toNat ∧ s[k].toNat ≤ 57 ∨ s[k].toNat = 43 ∨ s[k].toNat = 45 ∨ s[k].toNat = 46) (by omega)]; rfl))
          clear HYes HNo HB2 HB3 c1 c2 z2
          go_wp2_with fail
          go_ret
          exact ⟨by rw [HF.out]; rfl, rfl⟩
        · have HP2 := hide (HYes.out (by rw [decide_eq_false (p := 97 ≤ s[k].toNat ∧ s[k].toNat ≤ 122) (by omega), decide_eq_true (p := k ≠ 0) z3, decide_eq_true (p := 48 ≤ s[k].toNat ∧ s[k].toNat ≤ 57 ∨ s[k].toNat = 43 ∨ s[k].toNat = 45 ∨ s[k].toNat = 46) (by omega)]; rfl))
          clear HYes HNo HB2 c1 c2 z3
          cases b
          all_goals
            go_wp2_with fail
            go_roundw
            case rel => exact ⟨k + 1, _, by omega, by rw [← HB3.out]; rfl, by go_num, HP2, rfl, by trivial⟩
            case measure => simp [intOf]; omega
      · have f0 : (s[k].toNat : Int) = 43 := by omega
        have HB3 : Hid ((b || false) = (s.data.toList.take (k + 1)).contains 46) := by show _ = _; rw [HB2.out, decide_eq_false (by omega)]
        rcases hz with ⟨z1, z2⟩ | ⟨z1, z2, z3⟩
        · have HF := hide (HNo.out (by rw [decide_eq_false (p := 97 ≤ s[k].toNat ∧ s[k].toNat ≤ 122) (by omega), decide_eq_false (p := k ≠ 0) (by omega), decide_eq_true (p := 48 ≤ s[k].toNat ∧ s[k].toNat ≤ 57 ∨ s[k].toNat = 43 ∨ s[k].toNat = 45 ∨ s[k].toNat = 46) (by omega)]; rfl))
          clear HYes HNo HB2 HB3 c1 z2
          go_wp2_with fail
          go_ret
          exact ⟨by rw [HF.out]; rfl, rfl⟩
        · have HP2 := hide (HYes.out (by rw [decide_eq_false (p := 97 ≤ s[k].toNat ∧ s[k].toNat ≤ 122) (by omega), decide_eq_true (p := k ≠ 0) z3, decide_eq_true (p := 48 ≤ s[k].toNat ∧ s[k].toNat ≤ 57 ∨ s[k].toNat = 43 ∨ s[k].toNat = 45 ∨ s[k].toNat = 46) (by omega)]; rfl))
          clear HYes HNo HB2 c1 z3
          cases b
          all_goals
            go_wp2_with fail
            go_roundw
            case rel => exact ⟨k + 1, _, by omega, by rw [← HB3.out]; rfl, by go_num, HP2, rfl, by trivial⟩
            case measure => simp [intOf]; omega
      · have f0 : (s[k].toNat : Int) = 45 := by omega
        have HB3 : Hid ((b || false) = (s.data.toList.take (k + 1)).contains 46) := by show _ = _; rw [HB2.out, decide_eq_false (by omega)]
        rcases hz with ⟨z1, z2⟩ | ⟨z1, z2, z3⟩
        · have HF := hide (HNo.out (by rw [decide_eq_false (p := 97 ≤ s[k].toNat ∧ s[k].toNat ≤ 122) (by omega), decide_eq_false (p := k ≠ 0) (by omega), decide_eq_true (p := 48 ≤ s[k].toNat ∧ s[k].toNat ≤ 57 ∨ s[k].toNat = 43 ∨ s[k].toNat = 45 ∨ s[k].toNat = 46) (by omega)]; rfl))
          clear HYes HNo HB2 HB3 c1 z2
          go_wp2_with fail
          go_ret
          exact ⟨by rw [HF.out]; rfl, rfl⟩
        · have HP2 := hide (HYes.out (by rw [decide_eq_false (p := 97 ≤ s[k].toNat ∧ s[k].toNat ≤ 122) (by omega), decide_eq_true (p := k ≠ 0) z3, decide_eq_true (p := 48 ≤ s[k].toNat ∧ s[k].toNat ≤ 57 ∨ s[k].toNat = 43 ∨ s[k].toNat = 45 ∨ s[k].toNat = 46) (by omega)]; rfl))
          clear HYes HNo HB2 c1 z3
          cases b
          all_goals
            go_wp2_with fail
            go_roundw
            case rel => exact ⟨k + 1, _, by omega, by rw [← HB3.out]; rfl, by go_num, HP2, rfl, by trivial⟩
            case measure => simp [intOf]; omega
      · have f0 : (s[k].toNat : Int) = 46 := by omega
        have HB3 : Hid ((b || true) = (s.data.toList.take (k + 1)).contains 46) := by show _ = _; rw [HB2.out, decide_eq_true (by omega)]
        rcases hz with ⟨z1, z2⟩ | ⟨z1, z2, z3⟩
        · have HF := hide (HNo.out (by rw [decide_eq_false (p := 97 ≤ s[k].toNat ∧ s[k].toNat ≤ 122) (by omega), decide_eq_false (p := k ≠ 0) (by omega), decide_eq_true (p := 48 ≤ s[k].toNat ∧ s[k].toNat ≤ 57 ∨ s[k].toNat = 43 ∨ s[k].toNat = 45 ∨ s[k].toNat = 46) (by omega)]; rfl))
          clear HYes HNo HB2 HB3 c1 z2
          go_wp2_with fail
          go_ret
          exact ⟨by rw [HF.out]; rfl, rfl⟩
        · have HP2 := hide (HYes.out (by rw [decide_eq_false (p := 97 ≤ s[k].toNat ∧ s[k].toNat ≤ 122) (by omega), decide_eq_true (p := k ≠ 0) z3, decide_eq_true (p := 48 ≤ s[k].toNat ∧ s[k].toNat ≤ 57 ∨ s[k].toNat = 43 ∨ s[k].toNat = 45 ∨ s[k].toNat = 46) (by omega)]; rfl))
          clear HYes HNo HB2 c1 z3
          cases b
          all_goals
            go_wp2_with fail
            go_roundw
            case rel => exact ⟨k + 1, _, by omega, by rw [← HB3.out]; rfl, by go_num, HP2, rfl, by trivial⟩
            case measure => simp [intOf]; omega
      · have f0 : ¬ (97 : Int) ≤ (s[k].toNat : Int) := by omega
        have g0 : decide ((97 : Int) ≤ (s[k].toNat : Int)) = false := decide_eq_false f0
        have f1 : ¬ (48 : Int) ≤ (s[k].toNat : Int) := by omega
        have g1 : decide ((48 : Int) ≤ (s[k].toNat : Int)) = false := decide_eq_false f1
        have f2 : ¬ (s[k].toNat : Int) = 43 := by omega
        have g2 : ((s[k].toNat : Int) == 43) = false := beq_false_of_ne f2
        have f3 : ¬ (s[k].toNat : Int) = 45 := by omega
        have g3 : ((s[k].toNat : Int) == 45) = false := beq_false_of_ne f3
        have f4 : ¬ (s[k].toNat : Int) = 46 := by omega
        have g4 : ((s[k].toNat : Int) == 46) = false := beq_false_of_ne f4
        have HB3 : Hid ((b || false) = (s.data.toList.take (k + 1)).contains 46) := by show _ = _; rw [HB2.out, decide_eq_false (by omega)]
        rcases hz with ⟨z1, z2⟩ | ⟨z1, z2, z3⟩
        · have HF := hide (HNo.out (by rw [decide_eq_false (p := 97 ≤ s[k].toNat ∧ s[k].toNat ≤ 122) (by omega), decide_eq_false (p := k ≠ 0) (by omega), decide_eq_false (p := 48 ≤ s[k].toNat ∧ s[k].toNat ≤ 57 ∨ s[k].toNat = 43 ∨ s[k].toNat = 45 ∨ s[k].toNat = 46) (by omega)]; rfl))
          clear HYes HNo HB2 HB3 c1 c2 c3 c4 z2
          go_wp2_with fail
          go_ret
          exact ⟨by rw [HF.out]; rfl, rfl⟩
        · have HF := hide (HNo.out (by rw [decide_eq_false (p := 97 ≤ s[k].toNat ∧ s[k].toNat ≤ 122) (by omega), decide_eq_true (p := k ≠ 0) z3, decide_eq_false (p := 48 ≤ s[k].toNat ∧ s[k].toNat ≤ 57 ∨ s[k].toNat = 43 ∨ s[k].toNat = 45 ∨ s[k].toNat = 46) (by omega)]; rfl))
          clear HYes HNo HB2 HB3 c1 c2 c3 c4 z3
          go_wp2_with fail
          go_ret
          exact ⟨by rw [HF.out]; rfl, rfl⟩
      · have f0 : ¬ (97 : Int) ≤ (s[k].toNat : Int) := by omega
        have g0 : decide ((97 : Int) ≤ (s[k].toNat : Int)) = false := decide_eq_false f0
        have f1 : (48 : Int) ≤ (s[k].toNat : Int) := by omega
        have f2 : ¬ (s[k].toNat : Int) ≤ 57 := by omega
        have g2 : decide ((s[k].toNat : Int) ≤ 57) = false := decide_eq_false f2
        have f3 : ¬ (s[k].toNat : Int) = 43 := by omega
        have g3 : ((s[k].toNat : Int) == 43) = false := beq_false_of_ne f3
        have f4 : ¬ (s[k].toNat : Int) = 45 := by omega
        have g4 : ((s[k].toNat : Int) == 45) = false := beq_false_of_ne f4
        have f5 : ¬ (s[k].toNat : Int) = 46 := by omega
        have g5 : ((s[k].toNat : Int) == 46) = false := beq_false_of_ne f5
        have HB3 : Hid ((b || false) = (s.data.toList.take (k + 1)).contains 46) := by show _ = _; rw [HB2.out, decide_eq_false (by omega)]
        rcases hz with ⟨z1, z2⟩ | ⟨z1, z2, z3⟩
        · have HF := hide (HNo.out (by rw [decide_eq_false (p := 97 ≤ s[k].toNat ∧ s[k].toNat ≤ 122) (by omega), decide_eq_false (p := k ≠ 0) (by omega), decide_eq_false (p := 48 ≤ s[k].toNat ∧ s[k].toNat ≤ 57 ∨ s[k].toNat = 43 ∨ s[k].toNat = 45 ∨ s[k].toNat = 46) (by omega)]; rfl))
          clear HYes HNo HB2 HB3 c1 c2 z2
          go_wp2_with fail
          go_ret
          exact ⟨by rw [HF.out]; rfl, rfl⟩
        · have HF := hide (HNo.out (by rw [decide_eq_false (p := 97 ≤ s[k].toNat ∧ s[k].toNat ≤ 122) (by omega), decide_eq_true (p := k ≠ 0) z3, decide_eq_false (p := 48 ≤ s[k].toNat ∧ s[k].toNat ≤ 57 ∨ s[k].toNat = 43 ∨ s[k].toNat = 45 ∨ s[k].toNat = 46) (by omega)]; rfl))
          clear HYes HNo HB2 HB3 c1 c2 z3
          go_wp2_with fail
          go_ret
          exact ⟨by rw [HF.out]; rfl, rfl⟩
      · have f0 : (97 : Int) ≤ (s[k].toNat : Int) := by omega
        have f1 : ¬ (s[k].toNat : Int) ≤ 122 := by omega
        have g1 : decide ((s[k].toNat : Int) ≤ 122) = false := decide_eq_false f1
        have f2 : (48 : Int) ≤ (s[k].toNat : Int) := by omega
        have f3 : ¬ (s[k].toNat : Int) ≤ 57 := by omega
        have g3 : decide ((s[k].toNat : Int) ≤ 57) = false := decide_eq_false f3
        have f4 : ¬ (s[k].toNat : Int) = 43 := by omega
        have g4 : ((s[k].toNat : Int) == 43) = false := beq_false_of_ne f4
        have f5 : ¬ (s[k].toNat : Int) = 45 := by omega
        have g5 : ((s[k].toNat : Int) == 45) = false := beq_false_of_ne f5
        have f6 : ¬ (s[k].toNat : Int) = 46 := by omega
        have g6 : ((s[k].toNat : Int) == 46) = false := beq_false_of_ne f6
        have HB3 : Hid ((b || false) = (s.data.toList.take (k + 1)).contains 46) := by show _ = _; rw [HB2.out, decide_eq_false (by omega)]
        rcases hz with ⟨z1, z2⟩ | ⟨z1, z2, z3⟩
        · have HF := hide (HNo.out (by rw [decide_eq_false (p := 97 ≤ s[k].toNat ∧ s[k].toNat ≤ 122) (by omega), decide_eq_false (p := k ≠ 0) (by omega), decide_eq_false (p := 48 ≤ s[k].toNat ∧ s[k].toNat ≤ 57 ∨ s[k].toNat = 43 ∨ s[k].toNat = 45 ∨ s[k].toNat = 46) (by omega)]; rfl))
          clear HYes HNo HB2 HB3 c1 z2
          go_wp2_with fail
          go_ret
          exact ⟨by rw [HF.out]; rfl, rfl⟩
        · have HF := hide (HNo.out (by rw [decide_eq_false (p := 97 ≤ s[k].toNat ∧ s[k].toNat ≤ 122) (by omega), decide_eq_true (p := k ≠ 0) z3, decide_eq_false (p := 48 ≤ s[k].toNat ∧ s[k].toNat ≤ 57 ∨ s[k].toNat = 43 ∨ s[k].toNat = 45 ∨ s[k].toNat = 46) (by omega)]; rfl))
          clear HYes HNo HB2 HB3 c1 z3
          go_wp2_with fail
          go_ret
          exact ⟨by rw [HF.out]; rfl, rfl⟩
    · obtain rfl : k = s.size := by omega
      rw [HE.out] at HP HB
      have HF : Hid (R = b) := by show _ = _; rw [HR.out, priv_end HP.out, ← HB.out]
      have hxx : ¬ (s.size : Int) < (s.size : Int) := by omega
      go_wp2_with fail
      go_ret
      exact ⟨by rw [HF.out]; rfl, rfl⟩
end Go.Proofs.YtmdjppjfjkgnpaaGreatDoor.tm
