import Derived.Test.YtlefalplljgkeaaGreatDoorMAgMath
import Derived.Test.YtlefalplljgkeaaGreatDoorMLookWalks
namespace Go.Proofs.YtlefalplljgkeaaGreatDoor.ag
open Go.ChangeShapes Go.WideShapes Go.ChangeAt Go.RowKit Go.Proofs.YtlefalplljgkeaaGreatDoor.common
attribute [local go_sem ↓] Go.wp_at_zero Go.wp_at_succ

def okc (c : UInt8) : Bool := decide (33 ≤ c.toNat) && decide (c.toNat ≤ 126)
theorem place_eq (s : List UInt8) : place s = (decide (s.head? = some 47) && (decide (s.length ≤ 1) || (decide (s[1]?.getD 0 ≠ 47) && decide (s[1]?.getD 0 ≠ 92))) && s.all okc) := rfl
theorem sz_list (s : ByteArray) : s.data.toList.length = s.size := by cases s; simp [ByteArray.size]
theorem get_list (s : ByteArray) (k : Nat) (h : k < s.size) : s.data.toList[k]? = some s[k] := by
  have h1 : k < s.data.size := h
  have h2 : s.data[k]? = some s.data[k] := Array.getElem?_eq_getElem h1
  rw [Array.getElem?_toList, h2]; rfl
theorem head_list (s : ByteArray) (h : 0 < s.size) : s.data.toList.head? = some s[0] := by
  rw [List.head?_eq_getElem?]; exact get_list s 0 h
theorem all_take {s : ByteArray} {k : Nat} (h : k < s.size) (h1 : (s.data.toList.take k).all okc = true) (h2 : okc s[k] = true) : (s.data.toList.take (k + 1)).all okc = true := by
  rw [List.take_add_one, get_list s k h, List.all_append, h1]
  simp [h2]
theorem all_not {s : ByteArray} {k : Nat} (h : k < s.size) (h2 : okc s[k] = false) : s.data.toList.all okc = false := by
  rw [List.all_eq_false]
  exact ⟨s[k], List.mem_of_getElem? (get_list s k h), by rw [h2]; decide⟩
theorem all_end {s : ByteArray} (h : (s.data.toList.take s.size).all okc = true) : s.data.toList.all okc = true := by
  rw [← sz_list, List.take_length] at h; exact h
theorem ne_fact {t : ByteArray} (h : 0 < t.size) : ¬ t.toList = [] ∧ (t.toList == []) = false ∧ t.toList.isEmpty = false := by
  have h2 : ¬ t.toList = [] := fun e => by
    rw [ByteArray.toList_eq] at e
    have := sz_list t
    rw [e] at this
    simp at this; omega
  refine ⟨h2, beq_false_of_ne h2, ?_⟩
  cases hh : t.toList with
  | nil => exact absurd hh h2
  | cons _ _ => rfl

set_option maxRecDepth 100000 in
set_option maxHeartbeats 3200000 in
theorem place_any (s : ByteArray) (w : World) (hs : s.size ≤ 4611686018427387904) :
    Calls Tryz.prog 20 #[.string s] w fun e w' => e = .returned (.bool (place s.data.toList)) ∧ w' = w := by
  obtain ⟨R, hR⟩ : ∃ R, place s.data.toList = R := ⟨_, rfl⟩
  rw [hR]
  rw [place_eq] at hR
  by_cases h0 : s.size = 0
  · have : s = ⟨#[]⟩ := by
      cases s with | mk d => cases d with | mk l => cases l with | nil => rfl | cons a b => simp [ByteArray.size] at h0
    subst this
    have HR : Hid (R = false) := by show _ = _; rw [← hR]; rfl
    clear hR h0
    go_enter Tryz.func20, Tryz.ntmps20
    go_wp2_with fail
    go_ret
    exact ⟨by rw [HR.out]; rfl, rfl⟩
  · have hp : 0 < s.size := by omega
    obtain ⟨n1, n2, n3⟩ := ne_fact hp
    rw [head_list s hp, sz_list] at hR
    by_cases h1 : s[0] = 47
    · have g1 : ¬ ((s[0].toNat : Int) = 47) → False := fun h => h (by rw [h1]; rfl)
      have g1 : ((s[0].toNat : Int) = 47) := by rw [h1]; rfl
      have hh : decide (some s[0] = some 47) = true := by rw [h1]; rfl
      rw [hh, Bool.true_and] at hR
      have k1 : (1 : Int) < (s.size : Int) ↔ 1 < s.size := by omega
      by_cases h2 : 1 < s.size ∧ (s[1]? = some 47 ∨ s[1]? = some 92)
      · obtain ⟨h2, h3⟩ := h2
        have g2 : (1 : Int) < (s.size : Int) := by omega
        have HR : Hid (R = false) := by
          show _ = _
          rw [← hR, get_list s 1 h2]
          have e1 : s[1]? = some s[1] := getElem?_pos s 1 h2
          rw [e1] at h3
          have : decide (s.size ≤ 1) = false := decide_eq_false (by omega)
          rw [this]
          rcases h3 with h3 | h3 <;> (have h4 := Option.some.inj h3; rw [h4]; rfl)
        have h3 : ((s[1].toNat : Int) = 47) ∨ (¬ ((s[1].toNat : Int) = 47) ∧ ((s[1].toNat : Int) = 92)) := by
          have e1 : s[1]? = some s[1] := getElem?_pos s 1 h2
          rw [e1] at h3
          rcases h3 with h3 | h3
          · have h4 := Option.some.inj h3; left; rw [h4]; rfl
          · have h4 := Option.some.inj h3; right; rw [h4]; exact ⟨by decide, rfl⟩
        clear hR k1 hs h0 hh
        rcases h3 with h3 | ⟨h3, h4⟩
        · go_enter Tryz.func20, Tryz.ntmps20
          go_wp2_with fail
          go_ret
          exact ⟨by rw [HR.out]; rfl, rfl⟩
        · go_enter Tryz.func20, Tryz.ntmps20
          go_wp2_with fail
          go_ret
          exact ⟨by rw [HR.out]; rfl, rfl⟩
      · have HR : Hid (s.data.toList.all okc = R) := by
          show _ = _
          rw [← hR]
          by_cases h3 : 1 < s.size
          · have e1 : s[1]? = some s[1] := getElem?_pos s 1 h3
            rw [get_list s 1 h3]
            have c1 : s[1] ≠ 47 := fun e => h2 ⟨h3, Or.inl (by rw [e1, e])⟩
            have c2 : s[1] ≠ 92 := fun e => h2 ⟨h3, Or.inr (by rw [e1, e])⟩
            show _ = ((decide (s.size ≤ 1) || (decide (s[1] ≠ 47) && decide (s[1] ≠ 92))) && _)
            rw [decide_eq_true c1, decide_eq_true c2]; simp
          · rw [decide_eq_true (show s.size ≤ 1 by omega)]; simp
        have hcase : (s.size = 1 ∧ ¬ (1 : Int) < (s.size : Int)) ∨ (∃ h : 1 < s.size, (1 : Int) < (s.size : Int) ∧ ¬ ((s[1].toNat : Int) = 47) ∧ ¬ ((s[1].toNat : Int) = 92)) := by
          by_cases h3 : 1 < s.size
          · have e1 : s[1]? = some s[1] := getElem?_pos s 1 h3
            refine Or.inr ⟨h3, by omega, fun e => h2 ⟨h3, Or.inl ?_⟩, fun e => h2 ⟨h3, Or.inr ?_⟩⟩
            · rw [e1]; congr 1; apply UInt8.toNat_inj.1; show _ = 47; omega
            · rw [e1]; congr 1; apply UInt8.toNat_inj.1; show _ = 92; omega
          · exact Or.inl ⟨by omega, by omega⟩
        clear hR k1 hh h2 h0
        have HEND := hide (fun h => all_end (s := s) h)
        have HSTEP := hide (fun k h h1 h2 => all_take (s := s) (k := k) h h1 h2)
        have HNOT := hide (fun k h h2 => all_not (s := s) (k := k) h h2)
        have hlp : ∀ W : World, True := fun _ => trivial
        rcases hcase with ⟨h2, g2⟩ | ⟨h2, g2, g3, g4⟩
        ·
          go_enter Tryz.func20, Tryz.ntmps20
          go_wp2_with fail
          go_loopw [2, 3, 28] (fun r _ i wr => ∃ k : Nat, k ≤ s.size ∧ i = .int .i64 k ∧ r = .bool false ∧ Hid ((s.data.toList.take k).all okc = true) ∧ wr = w) (fun _ _ i _ => s.size - (intOf i).toNat)
          case atStart => exact ⟨0, Nat.zero_le _, rfl, rfl, rfl, rfl⟩
          case round =>
            obtain ⟨k, hk, rfl, rfl, HALL, rfl⟩ := hrel
            by_cases hlt : k < s.size
            · have hki : (k : Int) < (s.size : Int) := by omega
              have k0 : (0 : Int) ≤ (k : Int) := Int.natCast_nonneg _
              by_cases c1 : (s[k].toNat : Int) < 33
              · have HRF : Hid (R = false) := by show _ = _; rw [← HR.out]; exact HNOT.out k hlt (by unfold okc; rw [decide_eq_false (by omega)]; rfl)
                go_wp2_with fail
                go_ret
                exact ⟨by rw [HRF.out]; rfl, rfl⟩
              · by_cases c2 : 126 < (s[k].toNat : Int)
                · have HRF : Hid (R = false) := by show _ = _; rw [← HR.out]; exact HNOT.out k hlt (by unfold okc; rw [decide_eq_false (show ¬ s[k].toNat ≤ 126 by omega)]; simp)
                  go_wp2_with fail
                  go_ret
                  exact ⟨by rw [HRF.out]; rfl, rfl⟩
                · have HNX := hide (HSTEP.out k hlt HALL.out (by unfold okc; rw [decide_eq_true (show 33 ≤ s[k].toNat by omega), decide_eq_true (show s[k].toNat ≤ 126 by omega)]; rfl))
                  go_wp2_with fail
                  go_roundw
                  case rel => exact ⟨k + 1, by omega, by go_num, rfl, HNX, by trivial⟩
                  case measure => simp [intOf]; omega
            · obtain rfl : k = s.size := by omega
              have HRT : Hid (R = true) := by show _ = _; rw [← HR.out]; exact HEND.out HALL.out
              go_wp2_with fail
              go_ret
              exact ⟨by rw [HRT.out]; rfl, rfl⟩
        · have g5 : ((s[1].toNat : Int) == 47) = false := beq_false_of_ne g3
          have g6 : ((s[1].toNat : Int) == 92) = false := beq_false_of_ne g4
          go_enter Tryz.func20, Tryz.ntmps20
          go_wp2_with fail
          go_loopw [2, 3, 28] (fun r _ i wr => ∃ k : Nat, k ≤ s.size ∧ i = .int .i64 k ∧ r = .bool false ∧ Hid ((s.data.toList.take k).all okc = true) ∧ wr = w) (fun _ _ i _ => s.size - (intOf i).toNat)
          case atStart => exact ⟨0, Nat.zero_le _, rfl, rfl, rfl, rfl⟩
          case round =>
            obtain ⟨k, hk, rfl, rfl, HALL, rfl⟩ := hrel
            by_cases hlt : k < s.size
            · have hki : (k : Int) < (s.size : Int) := by omega
              have k0 : (0 : Int) ≤ (k : Int) := Int.natCast_nonneg _
              by_cases c1 : (s[k].toNat : Int) < 33
              · have HRF : Hid (R = false) := by show _ = _; rw [← HR.out]; exact HNOT.out k hlt (by unfold okc; rw [decide_eq_false (by omega)]; rfl)
                go_wp2_with fail
                go_ret
                exact ⟨by rw [HRF.out]; rfl, rfl⟩
              · by_cases c2 : 126 < (s[k].toNat : Int)
                · have HRF : Hid (R = false) := by show _ = _; rw [← HR.out]; exact HNOT.out k hlt (by unfold okc; rw [decide_eq_false (show ¬ s[k].toNat ≤ 126 by omega)]; simp)
                  go_wp2_with fail
                  go_ret
                  exact ⟨by rw [HRF.out]; rfl, rfl⟩
                · have HNX := hide (HSTEP.out k hlt HALL.out (by unfold okc; rw [decide_eq_true (show 33 ≤ s[k].toNat by omega), decide_eq_true (show s[k].toNat ≤ 126 by omega)]; rfl))
                  go_wp2_with fail
                  go_roundw
                  case rel => exact ⟨k + 1, by omega, by go_num, rfl, HNX, by trivial⟩
                  case measure => simp [intOf]; omega
            · obtain rfl : k = s.size := by omega
              have HRT : Hid (R = true) := by show _ = _; rw [← HR.out]; exact HEND.out HALL.out
              go_wp2_with fail
              go_ret
              exact ⟨by rw [HRT.out]; rfl, rfl⟩
    · have g1 : ¬ ((s[0].toNat : Int) = 47) := fun h => h1 (by apply UInt8.toNat_inj.1; show _ = 47; omega)
      have HR : Hid (R = false) := by
        show _ = _
        rw [← hR, decide_eq_false (fun e => h1 (Option.some.inj e))]; rfl
      have g2 : ((s[0].toNat : Int) != 47) = true := by simp [g1]
      clear hR hs
      go_enter Tryz.func20, Tryz.ntmps20
      go_wp2_with fail
      go_ret
      exact ⟨by rw [HR.out]; rfl, rfl⟩
end Go.Proofs.YtlefalplljgkeaaGreatDoor.ag
