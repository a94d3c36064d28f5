import Derived.Test.YtkkgngmhdlmgnaaDoorRefRead3
namespace Go.Proofs.YtkkgngmhdlmgnaaDoor.jw
open Go.ChangeShapes Go.WideShapes Go.ChangeAt Go.RowKit Go.Proofs.YtkkgngmhdlmgnaaDoor.common
attribute [local go_sem ↓] Go.wp_at_zero Go.wp_at_succ

theorem hexs_len : ∀ (k n : Nat) (l : List UInt8) {x : Nat × List UInt8}, Json.hexs k n l = some x → k ≤ l.length
  | 0, _, _, _, _ => Nat.zero_le _
  | _ + 1, _, [], _, h => by cases h
  | k + 1, n, c :: r, x, h => by
    simp only [Json.hexs] at h
    split at h
    · cases h
    · have := hexs_len k _ r h
      rw [List.length_cons]; omega
theorem word2 (s : ByteArray) (a : Nat) : Json.word [92, 117] (s.data.toList.drop a) = if h : a + 1 < s.size then (if s[a] = 92 ∧ s[a + 1] = 117 then some (s.data.toList.drop (a + 2)) else none) else none := by
  unfold Json.word
  by_cases h : a + 1 < s.size
  · rw [dif_pos h, drop_cons s a (by omega), drop_cons s (a + 1) h]
    by_cases h1 : s[a] = 92 ∧ s[a + 1] = 117
    · rw [if_pos h1, h1.1, h1.2]
      rfl
    · rw [if_neg h1, if_neg]
      intro h2
      apply h1
      simp [List.isPrefixOf] at h2
      exact ⟨h2.1.symm, h2.2.symm⟩
  · rw [dif_neg h, if_neg]
    intro h2
    have h3 := List.isPrefixOf_iff_prefix.1 h2
    have h4 := h3.length_le
    rw [List.length_drop, len_list] at h4
    simp at h4
    omega
theorem unit_short (s : ByteArray) (a : Nat) (h : ¬ a + 6 ≤ s.size) : unitAt s a = -1 := by
  unfold unitAt
  rw [word2]
  by_cases h1 : a + 1 < s.size
  · rw [dif_pos h1]
    by_cases h2 : s[a] = 92 ∧ s[a + 1] = 117
    · rw [if_pos h2]
      show (match Json.unit (s.data.toList.drop (a + 2)) with | none => (-1 : Int) | some (n, _) => (n : Int)) = -1
      cases h3 : Json.unit (s.data.toList.drop (a + 2)) with
      | none => rfl
      | some x =>
        have := hexs_len 4 0 _ h3
        rw [List.length_drop, len_list] at this
        omega
    · rw [if_neg h2]
  · rw [dif_neg h1]
theorem unit_none (s : ByteArray) (a : Nat) (h : a + 1 < s.size) (h1 : ¬ (s[a] = 92 ∧ s[a + 1] = 117)) : unitAt s a = -1 := by
  unfold unitAt
  rw [word2, dif_pos h, if_neg h1]
/-- the number that was read, or -1 -/
def fstNo : Option (Nat × List UInt8) → Int
  | none => -1
  | some x => (x.1 : Int)
theorem unit_some (s : ByteArray) (a : Nat) (h : a + 1 < s.size) (h1 : s[a] = 92 ∧ s[a + 1] = 117) : unitAt s a = fstNo (Json.hexs 4 0 (s.data.toList.drop (a + 2))) := by
  unfold unitAt
  rw [word2, dif_pos h, if_pos h1]
  show (match Json.hexs 4 0 (s.data.toList.drop (a + 2)) with | none => (-1 : Int) | some (n, _) => (n : Int)) = _
  cases Json.hexs 4 0 (s.data.toList.drop (a + 2)) <;> rfl

set_option maxRecDepth 100000 in
set_option maxHeartbeats 3200000 in
theorem refUnit_any (s : ByteArray) (a : Nat) (w : World) (hs : s.size < 9223372036854775000) (ha : a ≤ s.size + 20) (I : Int) (hI : I = (a : Int)) :
    Calls Tryd.prog 87 #[.string s, .int .i64 I] w fun x w' => x = .returned (.int .i64 (unitAt s a)) ∧ w' = w := by
  subst hI
  by_cases h6 : a + 6 ≤ s.size
  · have g6 : ¬ (s.size : Int) < (a : Int) + 6 := by omega
    have g6d : decide ((s.size : Int) < (a : Int) + 6) = false := decide_eq_false g6
    have a0 : (0 : Int) ≤ (a : Int) := by omega
    have a1 : (a : Int) < (s.size : Int) := by omega
    have a2 : (a : Int) + 1 < (s.size : Int) := by omega
    have a3 : ((a : Int) + 1).toNat = a + 1 := by omega
    have a4 : (0 : Int) ≤ (a : Int) + 1 := by omega
    by_cases h1 : s[a] = 92
    · by_cases h2 : s[a + 1] = 117
      · have HU := hide (unit_some s a (by omega) ⟨h1, h2⟩)
        obtain ⟨A, hA⟩ : ∃ A, unitAt s a = A := ⟨_, rfl⟩
        have HA := hide hA
        rw [hA]
        clear hA
        have p1 : (s[a].toNat : Int) = 92 := by rw [h1]; rfl
        have p2 : (s[a + 1].toNat : Int) = 117 := by rw [h2]; rfl
        clear h1 h2
        go_enter Tryd.func87, Tryd.ntmps87
        go_wp2_with fail
        clear p1 p2 g6 g6d a2 a3 a4
        obtain ⟨R, hR⟩ : ∃ R, Json.hexs 4 0 (s.data.toList.drop (a + 2)) = R := ⟨_, rfl⟩
        have HR := hide hR
        have HAR : Hid (A = fstNo R) := by show _ = _; rw [← HA.out, HU.out, hR]
        clear hR HU HA
        go_loopw [4, 5, 6] (fun r nv kv wr => ∃ K n : Nat, 2 ≤ K ∧ K ≤ 6 ∧ r = .int .i64 0 ∧ nv = .int .i64 n ∧ kv = .int .i64 K ∧ wr = w ∧ n < 16 ^ (K - 2) ∧ Hid (Json.hexs (6 - K) n (s.data.toList.drop (a + K)) = R)) (fun _ _ kv _ => 6 - (intOf kv).toNat)
        case atStart => exact ⟨2, 0, by omega, by omega, rfl, rfl, rfl, rfl, by decide, HR.out⟩
        case round =>
          obtain ⟨K, n, h2, hK6, rfl, rfl, rfl, hwr, hn, HX⟩ := hrel
          obtain rfl : w = wr := hwr.symm
          have hp : 16 ^ (K - 2) ≤ 16 ^ 4 := Nat.pow_le_pow_right (by decide) (by omega)
          have hp4 : (16 : Nat) ^ 4 = 65536 := by decide
          have hn6 : n < 65536 := by omega
          have HN := hide hn
          clear hn hp hp4
          by_cases hlt : K < 6
          · have k1 : (K : Int) < 6 := by omega
            have k2 : (a : Int) + (K : Int) < (s.size : Int) := by omega
            have k3 : (0 : Int) ≤ (a : Int) + (K : Int) := by omega
            have k4 : ((a : Int) + (K : Int)).toNat = a + K := by omega
            have k5 : a + K < s.size := by omega
            have HDC := hide (drop_cons s (a + K) k5)
            go_wp2_with fail
            refine (refHexa_any s[a + K] w).mono ?_
            rintro x w1 ⟨rfl, hww⟩
            obtain rfl : w = w1 := hww.symm
            obtain ⟨m, hm⟩ : ∃ m, 6 - K = m + 1 := ⟨6 - K - 1, by omega⟩
            cases hd : Json.hexa s[a + K] with
            | none =>
              have HRN : Hid (R = none) := by
                show _ = _
                rw [← HX.out, hm, HDC.out]
                simp only [Json.hexs, hd]
              have hod : orNo none = -1 := rfl
              rw [hod]
              clear hod hd hm
              go_wp2
              go_ret
              exact ⟨by rw [HAR.out, HRN.out]; rfl, rfl⟩
            | some d =>
              have hd16 := hexa_lt hd
              have HRS : Hid (Json.hexs (6 - (K + 1)) (16 * n + d) (s.data.toList.drop (a + (K + 1))) = R) := by
                show _ = _
                rw [← HX.out, hm, HDC.out]
                simp only [Json.hexs, hd]
                congr 1
                omega
              have hod : orNo (some d) = (d : Int) := rfl
              rw [hod]
              have HPW : Hid (16 * n + d < 16 ^ (K + 1 - 2)) := by
                show _ < _
                have h1 := HN.out
                rw [show K + 1 - 2 = (K - 2) + 1 by omega, Nat.pow_succ]
                omega
              have d0 : (0 : Int) ≤ (d : Int) := by omega
              have d1 : ¬ (d : Int) < 0 := by omega
              clear hod hd hm
              go_wp2
              go_roundw
              case rel => exact ⟨K + 1, 16 * n + d, by omega, by omega, by first | rfl | trivial, by go_num, by go_num, by first | rfl | trivial, HPW.out, HRS.out⟩
              case measure => simp [intOf]; omega
          · obtain rfl : K = 6 := by omega
            have HRR : Hid (R = some (n, s.data.toList.drop (a + 6))) := HX.out.symm
            go_wp2
            go_ret
            exact ⟨by rw [HAR.out, HRR.out]; rfl, rfl⟩
      · have HU := hide (unit_none s a (by omega) (fun h => h2 h.2))
        rw [HU.out]
        have p1 : (s[a].toNat : Int) = 92 := by rw [h1]; rfl
        have p2 : ((s[a + 1].toNat : Int) == 117) = false := beq_false_of_ne (fun e => h2 (UInt8.toNat_inj.1 (by show _ = 117; omega)))
        clear h1 h2
        go_enter Tryd.func87, Tryd.ntmps87
        go_wp2
        go_ret
        exact ⟨rfl, rfl⟩
    · have HU := hide (unit_none s a (by omega) (fun h => h1 h.1))
      rw [HU.out]
      have p1 : ((s[a].toNat : Int) == 92) = false := beq_false_of_ne (fun e => h1 (UInt8.toNat_inj.1 (by show _ = 92; omega)))
      clear h1
      go_enter Tryd.func87, Tryd.ntmps87
      go_wp2
      go_ret
      exact ⟨rfl, rfl⟩
  · have HU := hide (unit_short s a h6)
    rw [HU.out]
    have g6 : (s.size : Int) < (a : Int) + 6 := by omega
    go_enter Tryd.func87, Tryd.ntmps87
    go_wp2
    go_ret
    exact ⟨rfl, rfl⟩
end Go.Proofs.YtkkgngmhdlmgnaaDoor.jw
