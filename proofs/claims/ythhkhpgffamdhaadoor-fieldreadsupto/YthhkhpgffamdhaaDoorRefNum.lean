import Derived.Test.YthhkhpgffamdhaaDoorSeemM
namespace Go.Proofs.YthhkhpgffamdhaaDoor.fd
open Go.ChangeShapes Go.WideShapes Go.ChangeAt Go.RowKit Go.Proofs.YthhkhpgffamdhaaDoor.common Go.Proofs.YthhkhpgffamdhaaDoor.bk
attribute [local go_sem ↓] Go.wp_at_zero Go.wp_at_succ

theorem go_snoc (l : List UInt8) (c : UInt8) (acc : Nat) (h : Num.go 0 l = some acc) : Num.go 0 (l ++ [c]) = if 48 ≤ c.toNat ∧ c.toNat ≤ 57 then (if (9223372036854775807 - (c.toNat - 48)) / 10 < acc then none else some (10 * acc + (c.toNat - 48))) else none := by
  rw [Num.go_append l [c] 0 acc h]
  rfl

set_option maxRecDepth 100000 in
set_option maxHeartbeats 3200000 in
theorem number_any (s : ByteArray) (w : World) (hs : s.size ≤ 4611686018427387904) :
    Calls Tryd.prog 49 #[.string s] w fun e w' => e = .returned (.int .i64 (Num.num s.data.toList)) ∧ w' = w := by
  obtain ⟨R, hR⟩ : ∃ R, Num.num s.data.toList = R := ⟨_, rfl⟩
  rw [hR]
  have HR : Hid (R = if s.data.toList = [] then -1 else match Num.go 0 s.data.toList with | some n => (n : Int) | none => -1) := hR.symm
  have HLL := hide (len_list s)
  have HSN : Hid (∀ k (_ : k < s.size), s.data.toList.take (k + 1) = s.data.toList.take k ++ [s[k]]) := fun k h => take_snoc s k h
  have HE : Hid (s.data.toList.take s.size = s.data.toList) := take_all s
  have HNO : Hid (∀ k, k < s.size → Num.go 0 (s.data.toList.take (k + 1)) = none → R = -1) := by
    intro k hk h
    have h1 : Num.go 0 s.data.toList = none := by
      have := Num.go_none (s.data.toList.take (k + 1)) (s.data.toList.drop (k + 1)) 0 h
      rwa [List.take_append_drop] at this
    have h2 : s.data.toList ≠ [] := by
      intro e
      have := HLL.out
      rw [e] at this
      simp at this
      omega
    rw [HR.out, if_neg h2, h1]
  clear hR
  go_enter Tryd.func49, Tryd.ntmps49
  go_wp2_with fail
  go_loopw [3, 4] (fun n i wr => ∃ k acc : Nat, k ≤ s.size ∧ i = .int .i64 k ∧ n = .int .i64 acc ∧ acc ≤ 9223372036854775807 ∧ Num.go 0 (s.data.toList.take k) = some acc ∧ wr = w) (fun _ i _ => s.size - (intOf i).toNat)
  case atStart => exact ⟨0, 0, Nat.zero_le _, rfl, rfl, by decide, rfl, rfl⟩
  case round =>
    obtain ⟨k, acc, hk, rfl, rfl, hac, hgo, rfl⟩ := hrel
    have HGO := hide hgo
    clear hgo
    by_cases hlt : k < s.size
    · have hki : (k : Int) < (s.size : Int) := by omega
      have hst := go_snoc (s.data.toList.take k) s[k] acc HGO.out
      rw [← HSN.out k hlt] at hst
      by_cases hd : 48 ≤ s[k].toNat ∧ s[k].toNat ≤ 57
      · rw [if_pos hd] at hst
        obtain ⟨hd1, hd2⟩ := hd
        have p1 : ¬ (s[k].toNat : Int) < 48 := by omega
        have p2 : ¬ (57 : Int) < (s[k].toNat : Int) := by omega
        obtain ⟨D, hD⟩ : ∃ D : Nat, s[k].toNat = 48 + D := ⟨s[k].toNat - 48, by omega⟩
        have hD9 : D ≤ 9 := by omega
        rw [hD, show 48 + D - 48 = D by omega] at hst
        have e1 : (s[k].toNat : Int) - 48 = (D : Int) := by omega
        have e2 : Int.tdiv (9223372036854775807 - (D : Int)) 10 = (((9223372036854775807 - D) / 10 : Nat) : Int) := by
          rw [Int.tdiv_eq_ediv_of_nonneg (by omega)]
          omega
        by_cases hov : (9223372036854775807 - D) / 10 < acc
        · rw [if_pos hov] at hst
          have HRN := hide (HNO.out k hlt hst)
          have hovi : (((9223372036854775807 - D) / 10 : Nat) : Int) < (acc : Int) := by omega
          clear hst
          go_wp2_with fail
          go_ret
          exact ⟨by rw [HRN.out]; rfl, rfl⟩
        · rw [if_neg hov] at hst
          have HST := hide hst
          have hovi : ¬ (((9223372036854775807 - D) / 10 : Nat) : Int) < (acc : Int) := by omega
          have hmul : 10 * (acc : Int) + (D : Int) ≤ 9223372036854775807 := by omega
          clear hst
          go_wp2_with fail
          go_roundw
          case rel => exact ⟨k + 1, 10 * acc + D, by omega, by go_num, by first | go_num | (congr 1; omega), by omega, HST.out, by trivial⟩
          case measure => simp [intOf]; omega
      · rw [if_neg hd] at hst
        have HRN := hide (HNO.out k hlt hst)
        clear hst
        have hd3 : (s[k].toNat : Int) < 48 ∨ (57 : Int) < (s[k].toNat : Int) := by omega
        clear hd
        rcases hd3 with h | h
        all_goals
          go_wp2_with fail
          go_ret
          exact ⟨by rw [HRN.out]; rfl, rfl⟩
    · have hke : k = s.size := by omega
      have hkn : ¬ (k : Int) < (s.size : Int) := by omega
      have hg := HGO.out
      rw [hke, HE.out] at hg
      by_cases hz : s.size = 0
      · have hse : s = ⟨#[]⟩ := by
          apply ba_ext
          exact List.length_eq_zero_iff.1 (by rw [HLL.out]; exact hz)
        have HRN : Hid (R = -1) := by
          show _ = _
          rw [HR.out, if_pos (by rw [hse])]
        clear hg
        go_wp2_with fail
        go_ret
        exact ⟨by rw [HRN.out]; rfl, rfl⟩
      · have hne : s.toList ≠ [] := by
          intro e
          have h3 := HLL.out
          rw [ByteArray.toList_eq] at e
          rw [e] at h3
          exact hz h3.symm
        have h1 : (s.toList == []) = false := beq_false_of_ne hne
        have h2 : s.toList.isEmpty = false := by cases hh : s.toList with | nil => exact absurd hh hne | cons _ _ => rfl
        have HRN : Hid (R = (acc : Int)) := by
          show _ = _
          rw [HR.out, if_neg (by rw [ByteArray.toList_eq] at hne; exact hne), hg]
        clear hg
        go_wp2_with fail
        go_ret
        exact ⟨by rw [HRN.out]; rfl, rfl⟩

end Go.Proofs.YthhkhpgffamdhaaDoor.fd
