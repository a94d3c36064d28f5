import Derived.Test.YtilhfmhjgfmejaaGreatDoorRows
import Derived.Test.YtilhfmhjgfmejaaGreatDoorMByteKit
import Derived.Test.YtilhfmhjgfmejaaGreatDoorMPctMath
import Derived.Deep.MidRow
import Derived.WalkKit
import Derived.WalkSpells
import Derived.WalkLawsBesides
import Derived.Outline
import Derived.Laws.BitsAllLaws
import Derived.Laws.IdiomStrings
import Derived.Deep.OwnRows
import Derived.Maps.AppendAt
import Derived.Below
import Derived.Test.YtilhfmhjgfmejaaGreatDoorMRedEq
namespace Go.Proofs.YtilhfmhjgfmejaaGreatDoor.pctw
open Go.ChangeShapes Go.WideShapes Go.ChangeAt Go.RowKit Go.Proofs.YtilhfmhjgfmejaaGreatDoor.common

abbrev B (c : UInt8) : Value := .int .u8 (c.toNat : Int)
abbrev S (l : List UInt8) : Value := .string ⟨l.toArray⟩

theorem own_ge {w : World} {base : Nat} {e : TypeId} {size : Nat} {v : Value} {n : Nat} {xs : List Value} (h : w.ownsRow base e size v n xs) : ∀ b, v.ownBlock = some b → base ≤ b := by
  intro b hb
  exact (h.lt b hb).1

theorem len_list (s : ByteArray) : s.data.toList.length = s.size := by simp

theorem ba_ext {a b : ByteArray} (h : a.data.toList = b.data.toList) : a = b := by
  apply ByteArray.ext; apply Array.toList_inj.1; exact h
theorem ne_list {a b : ByteArray} (h : a ≠ b) : (a.toList == b.toList) = false := by
  rw [ByteArray.toList_eq, ByteArray.toList_eq]
  exact beq_false_of_ne fun e => h (ba_ext e)
theorem str_eq (l : List UInt8) (s : ByteArray) (h : l = s.data.toList) : (⟨l.toArray⟩ : ByteArray) = s := by
  subst h; rfl
theorem str_size (l : List UInt8) : (⟨l.toArray⟩ : ByteArray).size = l.length := by
  show l.toArray.size = _; simp
theorem cells_new (w : World) (l : List Value) (t : TypeId) : ∀ j u, l[j]? = some u → (w.alloc (.cells l.toArray t)).cell? ((⟨w.heap.size, 0, none⟩ : Addr).add j) = some u := by
  intro j u h
  rw [Addr.add_mid]
  exact range_new w l.toArray t j u h

end Go.Proofs.YtilhfmhjgfmejaaGreatDoor.pctw

namespace Go.Proofs.YtilhfmhjgfmejaaGreatDoor.pctw
open Go.ChangeShapes Go.WideShapes Go.ChangeAt Go.RowKit Go.Proofs.YtilhfmhjgfmejaaGreatDoor.common
attribute [local go_sem ↓] Go.wp_at_zero Go.wp_at_succ

set_option maxHeartbeats 800000 in
theorem refUnreserved_any (c : UInt8) (w : World) :
    Calls Tryz.prog 96 #[B c] w fun e w' => w' = w ∧ e = .returned (.bool (Pct.unres c)) := by
  have hc := c.toNat_lt
  obtain ⟨u, hu⟩ : ∃ u, Pct.unres c = u := ⟨_, rfl⟩
  rw [hu]
  have HU := hide hu
  clear hu
  go_enter Tryz.func96, Tryz.ntmps96
  go_wp2
  all_goals (go_ret; refine ⟨rfl, ?_⟩; rw [← HU.out])
  all_goals (simp only [Array.getD_eq_getD_getElem?]; simp; try rw [Bool.eq_iff_iff]; try simp [Pct.unres]; try omega)

end Go.Proofs.YtilhfmhjgfmejaaGreatDoor.pctw

namespace Go.Proofs.YtilhfmhjgfmejaaGreatDoor.pctw
open Go.ChangeShapes Go.WideShapes Go.ChangeAt Go.RowKit Go.Proofs.YtilhfmhjgfmejaaGreatDoor.common
attribute [local go_sem ↓] Go.wp_at_zero Go.wp_at_succ

theorem hexv_cases (c : UInt8) : (48 ≤ c.toNat ∧ c.toNat ≤ 57 ∧ Pct.hexv c = c.toNat - 48) ∨ (65 ≤ c.toNat ∧ c.toNat ≤ 70 ∧ Pct.hexv c = c.toNat - 55) ∨ (97 ≤ c.toNat ∧ c.toNat ≤ 102 ∧ Pct.hexv c = c.toNat - 87) ∨
    (Pct.hexv c = 16 ∧ ¬ (48 ≤ c.toNat ∧ c.toNat ≤ 57) ∧ ¬ (65 ≤ c.toNat ∧ c.toNat ≤ 70) ∧ ¬ (97 ≤ c.toNat ∧ c.toNat ≤ 102)) := by
  unfold Pct.hexv
  split
  · omega
  · split
    · omega
    · split <;> omega

end Go.Proofs.YtilhfmhjgfmejaaGreatDoor.pctw

namespace Go.Proofs.YtilhfmhjgfmejaaGreatDoor.pctw
open Go.ChangeShapes Go.WideShapes Go.ChangeAt Go.RowKit Go.Proofs.YtilhfmhjgfmejaaGreatDoor.common
attribute [local go_sem ↓] Go.wp_at_zero Go.wp_at_succ

set_option maxHeartbeats 800000 in
theorem refHexValue_any (c : UInt8) (w : World) :
    Calls Tryz.prog 98 #[B c] w fun e w' => w' = w ∧ e = .returned (.int .i64 (if Pct.hexv c < 16 then (Pct.hexv c : Int) else -1)) := by
  have HC := hide (hexv_cases c)
  have hc := c.toNat_lt
  generalize Pct.hexv c = v at *
  obtain ⟨r, hr⟩ : ∃ r : Int, (if v < 16 then (v : Int) else -1) = r := ⟨_, rfl⟩
  rw [hr]
  have HR := hide hr
  clear hr
  go_enter Tryz.func98, Tryz.ntmps98
  go_wp2
  all_goals (go_ret; refine ⟨rfl, ?_⟩; have := HC.out; have hr := HR.out)
  all_goals first
    | (exfalso; omega)
    | (simp; split at hr <;> omega)

end Go.Proofs.YtilhfmhjgfmejaaGreatDoor.pctw

namespace Go.Proofs.YtilhfmhjgfmejaaGreatDoor.tm
open Go.ChangeShapes Go.WideShapes Go.ChangeAt Go.RowKit Go.Proofs.YtilhfmhjgfmejaaGreatDoor.common Go.Proofs.YtilhfmhjgfmejaaGreatDoor.bk
attribute [local go_sem ↓] Go.wp_at_zero Go.wp_at_succ

def mrkB (b : UInt8) : Bool := [33, 36, 38, 39, 40, 41, 42, 43, 44, 59, 61].contains b
theorem byte_eq (p q : UInt8 → Bool) (h : (List.range 256).all (fun n => p (UInt8.ofNat n) == q (UInt8.ofNat n)) = true) (b : UInt8) : p b = q b := by
  have := List.all_eq_true.1 h b.toNat (List.mem_range.2 b.toNat_lt)
  rw [UInt8.ofNat_toNat] at this
  exact beq_iff_eq.1 this
theorem mrk_cases (c : UInt8) : (mrkB c = true ∧ (c.toNat = 33 ∨ c.toNat = 36 ∨ c.toNat = 38 ∨ c.toNat = 39 ∨ c.toNat = 40 ∨ c.toNat = 41 ∨ c.toNat = 42 ∨ c.toNat = 43 ∨ c.toNat = 44 ∨ c.toNat = 59 ∨ c.toNat = 61)) ∨ (mrkB c = false ∧ c.toNat ≠ 33 ∧ c.toNat ≠ 36 ∧ c.toNat ≠ 38 ∧ c.toNat ≠ 39 ∧ c.toNat ≠ 40 ∧ c.toNat ≠ 41 ∧ c.toNat ≠ 42 ∧ c.toNat ≠ 43 ∧ c.toNat ≠ 44 ∧ c.toNat ≠ 59 ∧ c.toNat ≠ 61) := by
  have h : mrkB c = decide (c.toNat = 33 ∨ c.toNat = 36 ∨ c.toNat = 38 ∨ c.toNat = 39 ∨ c.toNat = 40 ∨ c.toNat = 41 ∨ c.toNat = 42 ∨ c.toNat = 43 ∨ c.toNat = 44 ∨ c.toNat = 59 ∨ c.toNat = 61) := byte_eq mrkB (fun c => decide (c.toNat = 33 ∨ c.toNat = 36 ∨ c.toNat = 38 ∨ c.toNat = 39 ∨ c.toNat = 40 ∨ c.toNat = 41 ∨ c.toNat = 42 ∨ c.toNat = 43 ∨ c.toNat = 44 ∨ c.toNat = 59 ∨ c.toNat = 61)) (by decide +kernel) c
  by_cases hd : c.toNat = 33 ∨ c.toNat = 36 ∨ c.toNat = 38 ∨ c.toNat = 39 ∨ c.toNat = 40 ∨ c.toNat = 41 ∨ c.toNat = 42 ∨ c.toNat = 43 ∨ c.toNat = 44 ∨ c.toNat = 59 ∨ c.toNat = 61
  · exact Or.inl ⟨by rw [h, decide_eq_true hd], hd⟩
  · refine Or.inr ⟨by rw [h, decide_eq_false hd], ?_⟩
    omega

set_option maxHeartbeats 1600000 in
theorem refMark_any (c : UInt8) (w : World) :
    Calls Tryz.prog 97 #[B c] w fun e w' => e = .returned (.bool (mrkB c)) ∧ w' = w := by
  rcases mrk_cases c with ⟨e, h⟩ | ⟨e, h⟩
  · rw [e]
    clear e
    rcases h with h | h | h | h | h | h | h | h | h | h | h
    all_goals
      have hi : (c.toNat : Int) = _ := congrArg Int.ofNat h
      clear h
      go_enter Tryz.func97, Tryz.ntmps97
      go_wp2
      go_ret
      exact ⟨rfl, rfl⟩
  · rw [e]
    clear e
    have q33 : ((c.toNat : Int) == 33) = false := beq_false_of_ne (by omega)
    have p33 : ¬ (c.toNat : Int) = 33 := by omega
    have q36 : ((c.toNat : Int) == 36) = false := beq_false_of_ne (by omega)
    have p36 : ¬ (c.toNat : Int) = 36 := by omega
    have q38 : ((c.toNat : Int) == 38) = false := beq_false_of_ne (by omega)
    have p38 : ¬ (c.toNat : Int) = 38 := by omega
    have q39 : ((c.toNat : Int) == 39) = false := beq_false_of_ne (by omega)
    have p39 : ¬ (c.toNat : Int) = 39 := by omega
    have q40 : ((c.toNat : Int) == 40) = false := beq_false_of_ne (by omega)
    have p40 : ¬ (c.toNat : Int) = 40 := by omega
    have q41 : ((c.toNat : Int) == 41) = false := beq_false_of_ne (by omega)
    have p41 : ¬ (c.toNat : Int) = 41 := by omega
    have q42 : ((c.toNat : Int) == 42) = false := beq_false_of_ne (by omega)
    have p42 : ¬ (c.toNat : Int) = 42 := by omega
    have q43 : ((c.toNat : Int) == 43) = false := beq_false_of_ne (by omega)
    have p43 : ¬ (c.toNat : Int) = 43 := by omega
    have q44 : ((c.toNat : Int) == 44) = false := beq_false_of_ne (by omega)
    have p44 : ¬ (c.toNat : Int) = 44 := by omega
    have q59 : ((c.toNat : Int) == 59) = false := beq_false_of_ne (by omega)
    have p59 : ¬ (c.toNat : Int) = 59 := by omega
    have q61 : ((c.toNat : Int) == 61) = false := beq_false_of_ne (by omega)
    have p61 : ¬ (c.toNat : Int) = 61 := by omega
    clear h
    go_enter Tryz.func97, Tryz.ntmps97
    go_wp2
    go_ret
    exact ⟨rfl, rfl⟩

theorem hexB_val (c : UInt8) : hexB c = decide (Pct.hexv c < 16) := byte_eq hexB (fun c => decide (Pct.hexv c < 16)) (by decide +kernel) c
/-- what a digit stands for, as a whole number -/
def hvI (c : UInt8) : Int := if Pct.hexv c < 16 then (Pct.hexv c : Int) else -1
theorem refHex_any (c : UInt8) (w : World) : Calls Tryz.prog 98 #[B c] w fun e w' => e = .returned (.int .i64 (hvI c)) ∧ w' = w := by
  refine (pctw.refHexValue_any c w).mono ?_
  rintro e w' ⟨rfl, rfl⟩
  exact ⟨rfl, rfl⟩
theorem hv_cases (c : UInt8) : (hexB c = true ∧ ¬ hvI c < 0) ∨ (hexB c = false ∧ hvI c < 0) := by
  rw [hexB_val]
  unfold hvI
  by_cases h : Pct.hexv c < 16
  · rw [if_pos h]
    exact Or.inl ⟨decide_eq_true h, by omega⟩
  · rw [if_neg h]
    exact Or.inr ⟨decide_eq_false h, by decide⟩
theorem ok_val (c : UInt8) : okB [47] c = (Pct.unres c || (mrkB c || (decide (c.toNat = 58) || (decide (c.toNat = 64) || decide (c.toNat = 47))))) := byte_eq (okB [47]) (fun c => Pct.unres c || (mrkB c || (decide (c.toNat = 58) || (decide (c.toNat = 64) || decide (c.toNat = 47))))) (by decide +kernel) c
theorem ok_val2 (c : UInt8) : okB [47, 63] c = (Pct.unres c || (mrkB c || (decide (c.toNat = 58) || (decide (c.toNat = 64) || (decide (c.toNat = 47) || decide (c.toNat = 63)))))) := byte_eq (okB [47, 63]) (fun c => Pct.unres c || (mrkB c || (decide (c.toNat = 58) || (decide (c.toNat = 64) || (decide (c.toNat = 47) || decide (c.toNat = 63)))))) (by decide +kernel) c
def moreB (ask : Bool) : List UInt8 := if ask then [47, 63] else [47]
theorem ok_is (ask : Bool) (c : UInt8) : okB (moreB ask) c = (Pct.unres c || (mrkB c || (decide (c.toNat = 58) || (decide (c.toNat = 64) || (decide (c.toNat = 47) || (ask && decide (c.toNat = 63))))))) := by
  cases ask with
  | false =>
    rw [show moreB false = [47] from rfl, ok_val, Bool.false_and, Bool.or_false]
  | true =>
    rw [show moreB true = [47, 63] from rfl, ok_val2, Bool.true_and]
theorem pct_no (ask : Bool) : okB (moreB ask) 37 = false := by cases ask <;> decide
theorem hasD_at (s : ByteArray) (k : Nat) (h : k + 2 < s.size) : hasD (s.data.toList.drop k) = (hexB (s[k + 1]'(by omega)) && hexB (s[k + 2]'h)) := by
  unfold hasD
  rw [decide_eq_true (by rw [List.length_drop, len_list]; omega), Bool.true_and, List.drop_drop, drop_at2 s (k + 1) (by omega), drop_at2 s (k + 2) h]
  simp
theorem hasD_no (s : ByteArray) (k : Nat) (h : ¬ k + 2 < s.size) : hasD (s.data.toList.drop k) = false := by
  unfold hasD
  rw [decide_eq_false (by rw [List.length_drop, len_list]; omega), Bool.false_and]

end Go.Proofs.YtilhfmhjgfmejaaGreatDoor.tm

namespace Go.Proofs.YtilhfmhjgfmejaaGreatDoor.tm
open Go.ChangeShapes Go.WideShapes Go.ChangeAt Go.RowKit Go.Proofs.YtilhfmhjgfmejaaGreatDoor.common Go.Proofs.YtilhfmhjgfmejaaGreatDoor.bk
attribute [local go_sem ↓] Go.wp_at_zero Go.wp_at_succ

def ldB (b : UInt8) : Bool := letB b || Tm.btw 48 57 b
theorem ld_nat (c : UInt8) : ldB c = decide (65 ≤ c.toNat ∧ c.toNat ≤ 90 ∨ 97 ≤ c.toNat ∧ c.toNat ≤ 122 ∨ 48 ≤ c.toNat ∧ c.toNat ≤ 57) := byte_eq ldB (fun c => decide (65 ≤ c.toNat ∧ c.toNat ≤ 90 ∨ 97 ≤ c.toNat ∧ c.toNat ≤ 122 ∨ 48 ≤ c.toNat ∧ c.toNat ≤ 57)) (by decide +kernel) c
theorem lab_ld (c : UInt8) : labB c = (ldB c || decide (c.toNat = 45)) := rfl

set_option maxHeartbeats 1600000 in
theorem refLetter_any (c : UInt8) (w : World) :
    Calls Tryz.prog 173 #[B c] w fun e w' => e = .returned (.bool (ldB c)) ∧ w' = w := by
  have hc := c.toNat_lt
  have HU := hide (ld_nat c)
  generalize ldB c = u at *
  go_enter Tryz.func173, Tryz.ntmps173
  go_wp2
  all_goals (go_ret; refine ⟨?_, rfl⟩; rw [HU.out])
  all_goals
    simp only [Array.getD_eq_getD_getElem?]
    simp
    try (rw [Bool.eq_iff_iff])
    try (simp)
    try (omega)

set_option maxRecDepth 100000 in
set_option maxHeartbeats 6400000 in
theorem refLabel_any (s : ByteArray) (w : World) (hs : s.size ≤ 4611686018427387904) :
    Calls Tryz.prog 147 #[.string s] w fun e w' => e = .returned (.bool (isLab s)) ∧ w' = w := by
  obtain ⟨R, hR⟩ : ∃ R, R = isLab s := ⟨_, rfl⟩
  have HW : Hid (R = ((!s.data.toList.isEmpty && decide (s.size ≤ 63) && s.data.toList.all labB) && edge s.data.toList)) := by
    show _ = _
    rw [hR]
    unfold isLab Tm.word
    rw [len_list]
  rw [← hR]
  clear hR
  by_cases he : s = ⟨#[]⟩
  · subst he
    have HQ : Hid (R = false) := HW.out
    go_enter Tryz.func147, Tryz.ntmps147
    go_wp2_with fail
    go_ret
    exact ⟨by rw [HQ.out]; rfl, rfl⟩
  · obtain ⟨h1, h2, h3⟩ := word_ne he
    by_cases hm : 63 < s.size
    · have hmi : (63 : Int) < (s.size : Int) := by omega
      have HQ : Hid (R = false) := by show _ = _; rw [HW.out, decide_eq_false (by omega), Bool.and_false, Bool.false_and, Bool.false_and]
      go_enter Tryz.func147, Tryz.ntmps147
      go_wp2_with fail
      go_ret
      exact ⟨by rw [HQ.out]; rfl, rfl⟩
    · have hmi : ¬ (63 : Int) < (s.size : Int) := by omega
      have hp : 0 < s.size := by
        cases hz : s.size with
        | zero => exact absurd (str_nil s (List.eq_nil_of_length_eq_zero (by rw [len_list]; exact hz))) he
        | succ n => omega
      have hpi : (0 : Int) < (s.size : Int) := by omega
      obtain ⟨n, hn⟩ : ∃ n, s.size = n + 1 := ⟨s.size - 1, by omega⟩
      have hln : n < s.size := by omega
      have hlni : (n : Int) < (s.size : Int) := by omega
      have HHd := head_is s hp
      have HLs : s.data.toList.getLastD 0 = s[n] := by
        have := last_is s hp
        have e : s.size - 1 = n := by omega
        simp only [e] at this
        exact this
      have w1 : IntKind.i64.wrap ((s.size : Int) - 1) = (n : Int) := by rw [wrap_le _ (by omega) (by omega)]; omega
      have w64 : wrap64 ((s.size : Int) - 1) = (n : Int) := by rw [IntWalk.wrap64_in _ (by omega)]; omega
      have HE : Hid (edge s.data.toList = (decide (s[0].toNat ≠ 45) && decide (s[n].toNat ≠ 45))) := by
        show _ = _
        unfold edge
        rw [HHd, HLs]
      rw [h2, decide_eq_true (show s.size ≤ 63 by omega)] at HW
      have HT : Hid (∀ k (_ : k < s.size), (s.data.toList.take (k + 1)).all labB = ((s.data.toList.take k).all labB && labB s[k])) := fun k h => Tm.all_take _ _ k (by simpa using h)
      have HTE : Hid (s.data.toList.take s.size = s.data.toList) := take_all s
      have HA : Hid (∀ k, (s.data.toList.take k).all labB = false → s.data.toList.all labB = false) := fun k h => Tm.all_short _ _ k h
      have HN := hide hn
      clear HHd HLs hn he
      rcases is_cases 45 45 rfl s[0] with ⟨u1, a1, a2⟩ | ⟨u1, a1, a2⟩
      · have HQ : Hid (R = false) := by
          show _ = _
          rw [HW.out, HE.out, decide_eq_false (by have := of_decide_eq_true u1; omega), Bool.false_and, Bool.and_false]
        go_enter Tryz.func147, Tryz.ntmps147
        go_wp2_with fail
        go_ret
        exact ⟨by rw [HQ.out]; rfl, rfl⟩
      rcases is_cases 45 45 rfl s[n] with ⟨v1, b1, b2⟩ | ⟨v1, b1, b2⟩
      · have HQ : Hid (R = false) := by
          show _ = _
          rw [HW.out, HE.out, decide_eq_false (p := s[n].toNat ≠ 45) (by have := of_decide_eq_true v1; omega), Bool.and_false, Bool.and_false]
        go_enter Tryz.func147, Tryz.ntmps147
        go_wp2_with fail
        go_ret
        exact ⟨by rw [HQ.out]; rfl, rfl⟩
      have HQ : Hid (R = s.data.toList.all labB) := by
        show _ = _
        rw [HW.out, HE.out, decide_eq_true (by have := of_decide_eq_false u1; omega), decide_eq_true (by have := of_decide_eq_false v1; omega)]; simp
      clear HW HE
      go_enter Tryz.func147, Tryz.ntmps147
      go_wp2_with fail
      go_loopw [3] (fun i wr => ∃ k : Nat, k ≤ s.size ∧ i = .int .i64 k ∧ Hid ((s.data.toList.take k).all labB = true) ∧ wr = w) (fun i _ => s.size - (intOf i).toNat)
      case atStart => exact ⟨0, Nat.zero_le _, rfl, by show _ = _; simp, rfl⟩
      case round =>
        obtain ⟨k, hk, rfl, HAK, rfl⟩ := hrel
        by_cases hlt : k < s.size
        · have hki : (k : Int) < (s.size : Int) := by omega
          have HTK := hide (HT.out k hlt)
          have HL := hide (refLetter_any s[k] wr)
          have HB := hide (lab_ld s[k])
          rcases is_cases 45 45 rfl s[k] with ⟨c1, d1, d2⟩ | ⟨c1, d1, d2⟩
          · have HR : Hid ((s.data.toList.take (k + 1)).all labB = true) := by
              show _ = _
              rw [HTK.out, HB.out, HAK.out, c1, Bool.or_true]; rfl
            have d3 : ((s[k].toNat : Int) != 45) = false := by rw [bne, d2]; rfl
            unfold B at HL
            rw [d1] at HL
            generalize ldB s[k] = t at *
            cases t
            all_goals
              go_wp2_with (go_at_call 173; refine HL.out.mono ?_; rintro x w2 ⟨rfl, rfl⟩)
              go_roundw
              case rel => exact ⟨k + 1, by omega, by go_num, HR, by trivial⟩
              case measure => simp [intOf]; omega
          · have d3 : ((s[k].toNat : Int) != 45) = true := by rw [bne, d2]; rfl
            rw [c1, Bool.or_false] at HB
            rw [HB.out] at HTK
            generalize ldB s[k] = t at *
            cases t with
            | true =>
              have HR : Hid ((s.data.toList.take (k + 1)).all labB = true) := by
                show _ = _
                rw [HTK.out, HAK.out]; rfl
              go_wp2_with (go_at_call 173; refine HL.out.mono ?_; rintro x w2 ⟨rfl, rfl⟩)
              go_roundw
              case rel => exact ⟨k + 1, by omega, by go_num, HR, by trivial⟩
              case measure => simp [intOf]; omega
            | false =>
              have HR : Hid (R = false) := by
                show _ = _
                rw [HQ.out]
                exact HA.out (k + 1) (by rw [HTK.out, Bool.and_false])
              go_wp2_with (go_at_call 173; refine HL.out.mono ?_; rintro x w2 ⟨rfl, rfl⟩)
              go_ret
              exact ⟨by rw [HR.out]; rfl, rfl⟩
        · obtain rfl : k = s.size := by omega
          rw [HTE.out] at HAK
          have HR : Hid (R = true) := by show _ = _; rw [HQ.out, HAK.out]
          go_wp2_with fail
          go_ret
          exact ⟨by rw [HR.out]; rfl, rfl⟩

end Go.Proofs.YtilhfmhjgfmejaaGreatDoor.tm
