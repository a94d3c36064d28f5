import Derived.Test.YtmdjppjfjkgnpaaDoorRedEq
import Derived.Test.YtmdjppjfjkgnpaaDoorByteW0
import Derived.Test.YtmdjppjfjkgnpaaDoorByteHex
namespace Go.Proofs.YtmdjppjfjkgnpaaDoor.tm
open Go.ChangeShapes Go.WideShapes Go.ChangeAt Go.RowKit Go.Proofs.YtmdjppjfjkgnpaaDoor.common Go.Proofs.YtmdjppjfjkgnpaaDoor.bk
attribute [local go_sem ↓] Go.wp_at_zero Go.wp_at_succ

def mrkB (b : UInt8) : Bool := [33, 36, 38, 39, 40, 41, 42, 43, 44, 59, 61].contains b
theorem byte_eq (p q : UInt8 → Bool) (h : (List.range 256).all (fun n => p (UInt8.ofNat n) == q (UInt8.ofNat n)) = true) (b : UInt8) : p b = q b := by
  have := List.all_eq_true.1 h b.toNat (List.mem_range.2 b.toNat_lt)
  rw [UInt8.ofNat_toNat] at this
  exact beq_iff_eq.1 this
theorem mrk_cases (c : UInt8) : (mrkB c = true ∧ (c.toNat = 33 ∨ c.toNat = 36 ∨ c.toNat = 38 ∨ c.toNat = 39 ∨ c.toNat = 40 ∨ c.toNat = 41 ∨ c.toNat = 42 ∨ c.toNat = 43 ∨ c.toNat = 44 ∨ c.toNat = 59 ∨ c.toNat = 61)) ∨ (mrkB c = false ∧ c.toNat ≠ 33 ∧ c.toNat ≠ 36 ∧ c.toNat ≠ 38 ∧ c.toNat ≠ 39 ∧ c.toNat ≠ 40 ∧ c.toNat ≠ 41 ∧ c.toNat ≠ 42 ∧ c.toNat ≠ 43 ∧ c.toNat ≠ 44 ∧ c.toNat ≠ 59 ∧ c.toNat ≠ 61) := by
  have h : mrkB c = decide (c.toNat = 33 ∨ c.toNat = 36 ∨ c.toNat = 38 ∨ c.toNat = 39 ∨ c.toNat = 40 ∨ c.toNat = 41 ∨ c.toNat = 42 ∨ c.toNat = 43 ∨ c.toNat = 44 ∨ c.toNat = 59 ∨ c.toNat = 61) := byte_eq mrkB (fun c => decide (c.toNat = 33 ∨ c.toNat = 36 ∨ c.toNat = 38 ∨ c.toNat = 39 ∨ c.toNat = 40 ∨ c.toNat = 41 ∨ c.toNat = 42 ∨ c.toNat = 43 ∨ c.toNat = 44 ∨ c.toNat = 59 ∨ c.toNat = 61)) (by decide +kernel) c
  by_cases hd : c.toNat = 33 ∨ c.toNat = 36 ∨ c.toNat = 38 ∨ c.toNat = 39 ∨ c.toNat = 40 ∨ c.toNat = 41 ∨ c.toNat = 42 ∨ c.toNat = 43 ∨ c.toNat = 44 ∨ c.toNat = 59 ∨ c.toNat = 61
  · exact Or.inl ⟨by rw [h, decide_eq_true hd], hd⟩
  · refine Or.inr ⟨by rw [h, decide_eq_false hd], ?_⟩
    omega

set_option maxHeartbeats 1600000 in
theorem refMark_any (c : UInt8) (w : World) :
    Calls Tryd.prog 37 #[B c] w fun e w' => e = .returned (.bool (mrkB c)) ∧ w' = w := by
  rcases mrk_cases c with ⟨e, h⟩ | ⟨e, h⟩
  · rw [e]
    clear e
    rcases h with h | h | h | h | h | h | h | h | h | h | h
    all_goals
      have hi : (c.toNat : Int) = _ := congrArg Int.ofNat h
      clear h
      go_enter Tryd.func37, Tryd.ntmps37
      go_wp2
      go_ret
      exact ⟨rfl, rfl⟩
  · rw [e]
    clear e
    have q33 : ((c.toNat : Int) == 33) = false := beq_false_of_ne (by omega)
    have p33 : ¬ (c.toNat : Int) = 33 := by omega
    have q36 : ((c.toNat : Int) == 36) = false := beq_false_of_ne (by omega)
    have p36 : ¬ (c.toNat : Int) = 36 := by omega
    have q38 : ((c.toNat : Int) == 38) = false := beq_false_of_ne (by omega)
    have p38 : ¬ (c.toNat : Int) = 38 := by omega
    have q39 : ((c.toNat : Int) == 39) = false := beq_false_of_ne (by omega)
    have p39 : ¬ (c.toNat : Int) = 39 := by omega
    have q40 : ((c.toNat : Int) == 40) = false := beq_false_of_ne (by omega)
    have p40 : ¬ (c.toNat : Int) = 40 := by omega
    have q41 : ((c.toNat : Int) == 41) = false := beq_false_of_ne (by omega)
    have p41 : ¬ (c.toNat : Int) = 41 := by omega
    have q42 : ((c.toNat : Int) == 42) = false := beq_false_of_ne (by omega)
    have p42 : ¬ (c.toNat : Int) = 42 := by omega
    have q43 : ((c.toNat : Int) == 43) = false := beq_false_of_ne (by omega)
    have p43 : ¬ (c.toNat : Int) = 43 := by omega
    have q44 : ((c.toNat : Int) == 44) = false := beq_false_of_ne (by omega)
    have p44 : ¬ (c.toNat : Int) = 44 := by omega
    have q59 : ((c.toNat : Int) == 59) = false := beq_false_of_ne (by omega)
    have p59 : ¬ (c.toNat : Int) = 59 := by omega
    have q61 : ((c.toNat : Int) == 61) = false := beq_false_of_ne (by omega)
    have p61 : ¬ (c.toNat : Int) = 61 := by omega
    clear h
    go_enter Tryd.func37, Tryd.ntmps37
    go_wp2
    go_ret
    exact ⟨rfl, rfl⟩

theorem hexB_val (c : UInt8) : hexB c = decide (Pct.hexv c < 16) := byte_eq hexB (fun c => decide (Pct.hexv c < 16)) (by decide +kernel) c
/-- what a digit stands for, as a whole number -/
def hvI (c : UInt8) : Int := if Pct.hexv c < 16 then (Pct.hexv c : Int) else -1
theorem refHex_any (c : UInt8) (w : World) : Calls Tryd.prog 38 #[B c] w fun e w' => e = .returned (.int .i64 (hvI c)) ∧ w' = w := by
  refine (pctw.refHexValue_any c w).mono ?_
  rintro e w' ⟨rfl, rfl⟩
  exact ⟨rfl, rfl⟩
theorem hv_cases (c : UInt8) : (hexB c = true ∧ ¬ hvI c < 0) ∨ (hexB c = false ∧ hvI c < 0) := by
  rw [hexB_val]
  unfold hvI
  by_cases h : Pct.hexv c < 16
  · rw [if_pos h]
    exact Or.inl ⟨decide_eq_true h, by omega⟩
  · rw [if_neg h]
    exact Or.inr ⟨decide_eq_false h, by decide⟩
theorem ok_val (c : UInt8) : okB [47] c = (Pct.unres c || (mrkB c || (decide (c.toNat = 58) || (decide (c.toNat = 64) || decide (c.toNat = 47))))) := byte_eq (okB [47]) (fun c => Pct.unres c || (mrkB c || (decide (c.toNat = 58) || (decide (c.toNat = 64) || decide (c.toNat = 47))))) (by decide +kernel) c
theorem ok_val2 (c : UInt8) : okB [47, 63] c = (Pct.unres c || (mrkB c || (decide (c.toNat = 58) || (decide (c.toNat = 64) || (decide (c.toNat = 47) || decide (c.toNat = 63)))))) := byte_eq (okB [47, 63]) (fun c => Pct.unres c || (mrkB c || (decide (c.toNat = 58) || (decide (c.toNat = 64) || (decide (c.toNat = 47) || decide (c.toNat = 63)))))) (by decide +kernel) c
def moreB (ask : Bool) : List UInt8 := if ask then [47, 63] else [47]
theorem ok_is (ask : Bool) (c : UInt8) : okB (moreB ask) c = (Pct.unres c || (mrkB c || (decide (c.toNat = 58) || (decide (c.toNat = 64) || (decide (c.toNat = 47) || (ask && decide (c.toNat = 63))))))) := by
  cases ask with
  | false =>
    rw [show moreB false = [47] from rfl, ok_val, Bool.false_and, Bool.or_false]
  | true =>
    rw [show moreB true = [47, 63] from rfl, ok_val2, Bool.true_and]
theorem pct_no (ask : Bool) : okB (moreB ask) 37 = false := by cases ask <;> decide
theorem hasD_at (s : ByteArray) (k : Nat) (h : k + 2 < s.size) : hasD (s.data.toList.drop k) = (hexB (s[k + 1]'(by omega)) && hexB (s[k + 2]'h)) := by
  unfold hasD
  rw [decide_eq_true (by rw [List.length_drop, len_list]; omega), Bool.true_and, List.drop_drop, drop_at2 s (k + 1) (by omega), drop_at2 s (k + 2) h]
  simp
theorem hasD_no (s : ByteArray) (k : Nat) (h : ¬ k + 2 < s.size) : hasD (s.data.toList.drop k) = false := by
  unfold hasD
  rw [decide_eq_false (by rw [List.length_drop, len_list]; omega), Bool.false_and]

end Go.Proofs.YtmdjppjfjkgnpaaDoor.tm
