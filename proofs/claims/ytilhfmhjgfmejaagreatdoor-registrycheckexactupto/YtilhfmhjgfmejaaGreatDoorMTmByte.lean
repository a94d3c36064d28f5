import Derived.Test.YtilhfmhjgfmejaaGreatDoorMRcList
import Derived.Test.YtilhfmhjgfmejaaGreatDoorMTmWords
namespace Go.Proofs.YtilhfmhjgfmejaaGreatDoor.tm
open Go.ChangeShapes Go.WideShapes Go.ChangeAt Go.RowKit Go.Proofs.YtilhfmhjgfmejaaGreatDoor.common Go.Proofs.YtilhfmhjgfmejaaGreatDoor.bk
attribute [local go_sem ↓] Go.wp_at_zero Go.wp_at_succ

set_option maxHeartbeats 800000 in
theorem small_tests : Tests 135 (Tm.btw 97 122) := by
  intro w c
  have hc := c.toNat_lt
  by_cases h1 : 97 ≤ c.toNat
  · have h1i : (97 : Int) ≤ (c.toNat : Int) := by omega
    by_cases h2 : c.toNat ≤ 122
    · have h2i : (c.toNat : Int) ≤ 122 := by omega
      have HR : Hid (Tm.btw 97 122 c = true) := decide_eq_true ⟨h1, h2⟩
      rw [HR.out]
      go_enter Tryz.func135, Tryz.ntmps135
      go_wp2
      go_ret
      exact ⟨rfl, rfl⟩
    · have h2i : ¬ (c.toNat : Int) ≤ 122 := by omega
      have HR : Hid (Tm.btw 97 122 c = false) := decide_eq_false fun h => h2 h.2
      rw [HR.out]
      go_enter Tryz.func135, Tryz.ntmps135
      go_wp2
      go_ret
      exact ⟨rfl, rfl⟩
  · have h1i : ¬ (97 : Int) ≤ (c.toNat : Int) := by omega
    have HR : Hid (Tm.btw 97 122 c = false) := decide_eq_false fun h => h1 h.1
    rw [HR.out]
    go_enter Tryz.func135, Tryz.ntmps135
    go_wp2
    go_ret
    exact ⟨rfl, rfl⟩
set_option maxHeartbeats 800000 in
theorem digit_tests : Tests 149 (Tm.btw 48 57) := by
  intro w c
  have hc := c.toNat_lt
  by_cases h1 : 48 ≤ c.toNat
  · have h1i : (48 : Int) ≤ (c.toNat : Int) := by omega
    by_cases h2 : c.toNat ≤ 57
    · have h2i : (c.toNat : Int) ≤ 57 := by omega
      have HR : Hid (Tm.btw 48 57 c = true) := decide_eq_true ⟨h1, h2⟩
      rw [HR.out]
      go_enter Tryz.func149, Tryz.ntmps149
      go_wp2
      go_ret
      exact ⟨rfl, rfl⟩
    · have h2i : ¬ (c.toNat : Int) ≤ 57 := by omega
      have HR : Hid (Tm.btw 48 57 c = false) := decide_eq_false fun h => h2 h.2
      rw [HR.out]
      go_enter Tryz.func149, Tryz.ntmps149
      go_wp2
      go_ret
      exact ⟨rfl, rfl⟩
  · have h1i : ¬ (48 : Int) ≤ (c.toNat : Int) := by omega
    have HR : Hid (Tm.btw 48 57 c = false) := decide_eq_false fun h => h1 h.1
    rw [HR.out]
    go_enter Tryz.func149, Tryz.ntmps149
    go_wp2
    go_ret
    exact ⟨rfl, rfl⟩
def letB (b : UInt8) : Bool := Tm.btw 97 122 b || Tm.btw 65 90 b
def hexB (b : UInt8) : Bool := Tm.btw 48 57 b || Tm.btw 97 102 b || Tm.btw 65 70 b
def labB (b : UInt8) : Bool := letB b || Tm.btw 48 57 b || decide (b.toNat = 45)
def numB (b : UInt8) : Bool := hexB b || decide (b.toNat = 58) || decide (b.toNat = 46)
def schB (b : UInt8) : Bool := Tm.btw 97 122 b || Tm.btw 48 57 b || [43, 45, 46].contains b
def pthB (b : UInt8) : Bool := letB b || Tm.btw 48 57 b || [45, 46, 95, 126, 58, 64].contains b || [33, 36, 38, 39, 40, 41, 42, 43, 44, 59, 61].contains b

/-- the three answers of a range of bytes -/
theorem btw_cases (lo hi : Nat) (l' h' : Int) (e1 : l' = lo) (e2 : h' = hi) (c : UInt8) : (Tm.btw lo hi c = true ∧ l' ≤ (c.toNat : Int) ∧ (c.toNat : Int) ≤ h') ∨ (Tm.btw lo hi c = false ∧ l' ≤ (c.toNat : Int) ∧ decide ((c.toNat : Int) ≤ h') = false) ∨ (Tm.btw lo hi c = false ∧ ¬ l' ≤ (c.toNat : Int)) := by
  by_cases h1 : lo ≤ c.toNat
  · by_cases h2 : c.toNat ≤ hi
    · exact Or.inl ⟨decide_eq_true ⟨h1, h2⟩, by omega, by omega⟩
    · exact Or.inr (Or.inl ⟨decide_eq_false fun h => h2 h.2, by omega, decide_eq_false (by omega)⟩)
  · exact Or.inr (Or.inr ⟨decide_eq_false fun h => h1 h.1, by omega⟩)
theorem is_cases (n : Nat) (n' : Int) (e : n' = n) (c : UInt8) : (decide (c.toNat = n) = true ∧ (c.toNat : Int) = n' ∧ ((c.toNat : Int) == n') = true) ∨ (decide (c.toNat = n) = false ∧ ¬ (c.toNat : Int) = n' ∧ ((c.toNat : Int) == n') = false) := by
  by_cases h : c.toNat = n
  · have hi : (c.toNat : Int) = n' := by omega
    exact Or.inl ⟨decide_eq_true h, hi, beq_iff_eq.2 hi⟩
  · have hi : ¬ (c.toNat : Int) = n' := by omega
    exact Or.inr ⟨decide_eq_false h, hi, beq_false_of_ne hi⟩

set_option maxHeartbeats 1600000 in
theorem let_tests : Tests 182 letB := by
  intro w c
  have HV := hide (small_tests w c)
  have HS : Hid (letB c = (Tm.btw 97 122 c || Tm.btw 65 90 c)) := rfl
  have H2 := btw_cases 65 90 65 90 rfl rfl c
  generalize Tm.btw 97 122 c = t at *
  generalize Tm.btw 65 90 c = u at *
  cases t <;> rcases H2 with ⟨rfl, a1, a2⟩ | ⟨rfl, a1, a2⟩ | ⟨rfl, a1⟩
  all_goals
    go_enter Tryz.func182, Tryz.ntmps182
    go_wp2_with (go_at_call 135; refine HV.out.mono ?_; rintro x w2 ⟨rfl, rfl⟩)
    go_ret
    exact ⟨by rw [HS.out]; first | rfl | (show Ending.returned (Value.bool (decide ((c.toNat : Int) ≤ 90))) = _; rw [a2]; rfl), rfl⟩
set_option maxHeartbeats 3200000 in
theorem hex_tests : Tests 131 hexB := by
  intro w c
  have HV := hide (digit_tests w c)
  have HS : Hid (hexB c = (Tm.btw 48 57 c || Tm.btw 97 102 c || Tm.btw 65 70 c)) := rfl
  have H2 := btw_cases 97 102 97 102 rfl rfl c
  have H3 := btw_cases 65 70 65 70 rfl rfl c
  generalize Tm.btw 48 57 c = t at *
  generalize Tm.btw 97 102 c = u at *
  generalize Tm.btw 65 70 c = v at *
  cases t with
  | true =>
    go_enter Tryz.func131, Tryz.ntmps131
    go_wp2_with (go_at_call 149; refine HV.out.mono ?_; rintro x w2 ⟨rfl, rfl⟩)
    go_ret
    exact ⟨by rw [HS.out]; rfl, rfl⟩
  | false =>
    rcases H2 with ⟨rfl, a1, a2⟩ | ⟨rfl, a1, a2⟩ | ⟨rfl, a1⟩ <;> rcases H3 with ⟨rfl, b1, b2⟩ | ⟨rfl, b1, b2⟩ | ⟨rfl, b1⟩
    all_goals
      go_enter Tryz.func131, Tryz.ntmps131
      go_wp2_with (go_at_call 149; refine HV.out.mono ?_; rintro x w2 ⟨rfl, rfl⟩)
      first
        | done
        | (go_ret
           exact ⟨by rw [HS.out]; first
             | rfl
             | (show Ending.returned (Value.bool (decide ((c.toNat : Int) ≤ 102) || decide ((c.toNat : Int) ≤ 70))) = _; rw [a2, b2]; rfl)
             | (show Ending.returned (Value.bool (decide ((c.toNat : Int) ≤ 102))) = _; rw [a2]; rfl)
             | (show Ending.returned (Value.bool (decide ((c.toNat : Int) ≤ 70))) = _; rw [b2]; rfl), rfl⟩)
theorem hex_enters : Enters 131 := enters_of Tryz.func131 (by kernel_rfl) rfl

set_option maxHeartbeats 1600000 in
theorem lab_tests : Tests 155 labB := by
  intro w c
  have HV := hide (let_tests w c)
  have HW := hide (digit_tests w c)
  have HS : Hid (labB c = (letB c || Tm.btw 48 57 c || decide (c.toNat = 45))) := rfl
  have H2 := is_cases 45 45 rfl c
  generalize letB c = t at *
  generalize Tm.btw 48 57 c = u at *
  generalize decide (c.toNat = 45) = v at *
  cases t <;> cases u <;> rcases H2 with ⟨rfl, a1, a2⟩ | ⟨rfl, a1, a2⟩
  all_goals
    go_enter Tryz.func155, Tryz.ntmps155
    go_wp2_with (first
      | (go_at_call 182; refine HV.out.mono ?_; rintro x w2 ⟨rfl, rfl⟩)
      | (go_at_call 149; refine HW.out.mono ?_; rintro x w2 ⟨rfl, rfl⟩))
    go_ret
    exact ⟨by rw [HS.out]; first | rfl | (show Ending.returned (Value.bool ((c.toNat : Int) == 45)) = _; rw [a2]; rfl), rfl⟩
theorem lab_enters : Enters 155 := enters_of Tryz.func155 (by kernel_rfl) rfl

set_option maxHeartbeats 1600000 in
theorem num_tests : Tests 111 numB := by
  intro w c
  have HV := hide (hex_tests w c)
  have HS : Hid (numB c = (hexB c || decide (c.toNat = 58) || decide (c.toNat = 46))) := rfl
  have H2 := is_cases 58 58 rfl c
  have H3 := is_cases 46 46 rfl c
  generalize hexB c = t at *
  generalize decide (c.toNat = 58) = u at *
  generalize decide (c.toNat = 46) = v at *
  cases t <;> rcases H2 with ⟨rfl, a1, a2⟩ | ⟨rfl, a1, a2⟩ <;> rcases H3 with ⟨rfl, b1, b2⟩ | ⟨rfl, b1, b2⟩
  all_goals
    go_enter Tryz.func111, Tryz.ntmps111
    go_wp2_with (go_at_call 131; refine HV.out.mono ?_; rintro x w2 ⟨rfl, rfl⟩)
    go_ret
    exact ⟨by rw [HS.out]; first | rfl | (show Ending.returned (Value.bool ((c.toNat : Int) == 58 || (c.toNat : Int) == 46)) = _; rw [a2, b2]; rfl) | (show Ending.returned (Value.bool ((c.toNat : Int) == 46)) = _; rw [b2]; rfl), rfl⟩
theorem num_enters : Enters 111 := enters_of Tryz.func111 (by kernel_rfl) rfl

theorem contains_ix (l : List UInt8) (c : UInt8) : decide (0 ≤ Lib.indexByte l c) = l.contains c := by
  rcases fd.index_cases c l with ⟨h1, h2⟩ | ⟨i, h1, h2, h3, h4⟩
  · rw [h1]
    have : l.contains c = false := by
      cases e : l.contains c with
      | false => rfl
      | true => exact absurd rfl (h2 c (List.contains_iff_mem.1 e))
    rw [this]; rfl
  · rw [h1]
    have : l.contains c = true := List.contains_iff_mem.2 (by rw [h3]; simp)
    rw [this]; simp
set_option maxRecDepth 100000 in
theorem stringsIx_any (s : ByteArray) (c : UInt8) (w : World) :
    Calls Tryz.prog 180 #[.string s, B c] w fun e w' => e = .returned (.int .i64 (Lib.indexByte s.data.toList c)) ∧ w' = w := by
  have HI := hide (fun W => fd.indexByte_any s c W)
  go_enter Tryz.func180, Tryz.ntmps180
  go_wp2_with (go_at_call 174; refine (HI.out _).mono ?_; rintro x w2 ⟨rfl, rfl⟩)
  go_ret
  exact ⟨rfl, rfl⟩
set_option maxRecDepth 100000 in
theorem amongB_any (s : ByteArray) (c : UInt8) (w : World) :
    Calls Tryz.prog 156 #[.string s, B c] w fun e w' => e = .returned (.bool (s.data.toList.contains c)) ∧ w' = w := by
  have HI := hide (fun W => stringsIx_any s c W)
  have HC := hide (contains_ix s.data.toList c)
  generalize Lib.indexByte s.data.toList c = i at *
  generalize s.data.toList.contains c = t at *
  go_enter Tryz.func156, Tryz.ntmps156
  go_wp2_with (go_at_call 180; refine (HI.out _).mono ?_; rintro x w2 ⟨rfl, rfl⟩)
  go_ret
  exact ⟨by rw [← HC.out]; rfl, rfl⟩

set_option maxRecDepth 100000 in
set_option maxHeartbeats 1600000 in
theorem sch_tests : Tests 136 schB := by
  intro w c
  have HV := hide (small_tests w c)
  have HW := hide (digit_tests w c)
  have HX := hide (amongB_any ⟨#[43, 45, 46]⟩ c w)
  have HS : Hid (schB c = (Tm.btw 97 122 c || Tm.btw 48 57 c || (⟨#[43, 45, 46]⟩ : ByteArray).data.toList.contains c)) := rfl
  generalize Tm.btw 97 122 c = t at *
  generalize Tm.btw 48 57 c = u at *
  generalize (⟨#[43, 45, 46]⟩ : ByteArray).data.toList.contains c = v at *
  cases t <;> cases u
  all_goals
    go_enter Tryz.func136, Tryz.ntmps136
    go_wp2_with (first
      | (go_at_call 135; refine HV.out.mono ?_; rintro x w2 ⟨rfl, rfl⟩)
      | (go_at_call 149; refine HW.out.mono ?_; rintro x w2 ⟨rfl, rfl⟩)
      | (go_at_call 156; refine HX.out.mono ?_; rintro x w2 ⟨rfl, rfl⟩))
    go_ret
    exact ⟨by rw [HS.out]; rfl, rfl⟩
theorem sch_enters : Enters 136 := enters_of Tryz.func136 (by kernel_rfl) rfl

set_option maxRecDepth 100000 in
set_option maxHeartbeats 3200000 in
theorem pth_any (c : UInt8) (w : World) :
    Calls Tryz.prog 158 #[B c] w fun e w' => e = .returned (.bool (pthB c)) ∧ w' = w := by
  have HV := hide (let_tests w c)
  have HW := hide (digit_tests w c)
  have HX := hide (amongB_any ⟨#[45, 46, 95, 126, 58, 64]⟩ c w)
  have HY := hide (amongB_any ⟨#[33, 36, 38, 39, 40, 41, 42, 43, 44, 59, 61]⟩ c w)
  have HS : Hid (pthB c = (letB c || Tm.btw 48 57 c || (⟨#[45, 46, 95, 126, 58, 64]⟩ : ByteArray).data.toList.contains c || (⟨#[33, 36, 38, 39, 40, 41, 42, 43, 44, 59, 61]⟩ : ByteArray).data.toList.contains c)) := rfl
  generalize letB c = t at *
  generalize Tm.btw 48 57 c = u at *
  generalize (⟨#[45, 46, 95, 126, 58, 64]⟩ : ByteArray).data.toList.contains c = v at *
  generalize (⟨#[33, 36, 38, 39, 40, 41, 42, 43, 44, 59, 61]⟩ : ByteArray).data.toList.contains c = y at *
  cases t <;> cases u <;> cases v
  all_goals
    go_enter Tryz.func158, Tryz.ntmps158
    go_wp2_with (first
      | (go_at_call 182; refine HV.out.mono ?_; rintro x w2 ⟨rfl, rfl⟩)
      | (go_at_call 149; refine HW.out.mono ?_; rintro x w2 ⟨rfl, rfl⟩)
      | (go_at_call 156; first
        | (with_reducible refine HX.out.mono ?_; rintro x w2 ⟨rfl, rfl⟩)
        | (with_reducible refine HY.out.mono ?_; rintro x w2 ⟨rfl, rfl⟩)))
    go_ret
    exact ⟨by rw [HS.out]; rfl, rfl⟩

end Go.Proofs.YtilhfmhjgfmejaaGreatDoor.tm
