import Derived.Test.YtcpflfpgnbihiaaGreatDoorMBfTok
namespace Go.Proofs.YtcpflfpgnbihiaaGreatDoor.bf
open Go.ChangeShapes Go.WideShapes Go.ChangeAt Go.RowKit Go.Proofs.YtcpflfpgnbihiaaGreatDoor.common Go.Proofs.YtcpflfpgnbihiaaGreatDoor.bk Go.Proofs.YtcpflfpgnbihiaaGreatDoor.fd
attribute [local go_sem ↓] Go.wp_at_zero Go.wp_at_succ

theorem tk_ref {s : ByteArray} {k : Nat} (hk : k ≤ s.size) (h1 : ∀ x ∈ s.data.toList.take k, Bf.tch x = true) (h2 : s.size ≤ k ∨ ∃ h : k < s.size, Bf.tch s[k] = false) :
    Bf.isTk s.data.toList = (decide (0 < k) && (s.data.toList.drop k).all (fun x => x == 61)) := by
  obtain ⟨a, b⟩ := span_at (p := Bf.tch) (l := s.data.toList) (k := k) h1 (by
    rcases h2 with h | ⟨h, h3⟩
    · exact Or.inl (by rw [len_list]; exact h)
    · exact Or.inr (by rw [getD_list s k h]; exact h3))
  unfold Bf.isTk
  rw [a, b]
  congr 1
  by_cases h : k = 0
  · subst h; rfl
  · rw [decide_eq_true (show 0 < k by omega)]
    cases hh : s.data.toList.take k with
    | nil => have := congrArg List.length hh; rw [List.length_take, len_list, List.length_nil] at this; omega
    | cons _ _ => rfl
theorem drop_cons (s : ByteArray) (j : Nat) (h : j < s.size) : s.data.toList.drop j = s[j] :: s.data.toList.drop (j + 1) := by
  have h1 : s.data.toList.drop j = s.data.toList[j]'(by simpa using h) :: s.data.toList.drop (j + 1) := List.drop_eq_getElem_cons (by simpa using h)
  rw [at_list s j h] at h1
  exact h1
theorem six_of {c : UInt8} (h : Bf.tch c = true) : alB c = true ∨ (alB c = false ∧ ((c.toNat : Int) = 45 ∨ (c.toNat : Int) = 46 ∨ (c.toNat : Int) = 95 ∨ (c.toNat : Int) = 126 ∨ (c.toNat : Int) = 43 ∨ (c.toNat : Int) = 47)) := by
  rcases tch_dec c with ⟨_, h1⟩ | ⟨h1, _⟩
  · cases ha : alB c with
    | true => exact Or.inl rfl
    | false =>
      have h2 := h1.resolve_left (by rw [ha]; simp)
      exact Or.inr ⟨rfl, by omega⟩
  · rw [h] at h1; cases h1
theorem no_six {c : UInt8} (h : Bf.tch c = false) : alB c = false ∧ ((c.toNat : Int) != 45) = true ∧ ((c.toNat : Int) != 46) = true ∧ ((c.toNat : Int) != 95) = true ∧ ((c.toNat : Int) != 126) = true ∧ ((c.toNat : Int) != 43) = true ∧ ((c.toNat : Int) != 47) = true := by
  rcases tch_dec c with ⟨h1, _⟩ | ⟨_, h1, h2⟩
  · rw [h] at h1; cases h1
  · exact ⟨h1, bne_iff_ne.2 (by omega), bne_iff_ne.2 (by omega), bne_iff_ne.2 (by omega), bne_iff_ne.2 (by omega), bne_iff_ne.2 (by omega), bne_iff_ne.2 (by omega)⟩

set_option maxRecDepth 100000 in
set_option maxHeartbeats 400000 in
theorem text_any (s : ByteArray) (w : World) (hs : s.size ≤ 4611686018427387904) :
    Calls Tryz.prog 20 #[.string s] w fun e w' => e = .returned (.bool (Bf.isTk s.data.toList)) ∧ w' = w := by
  obtain ⟨R, hR⟩ : ∃ R, Bf.isTk s.data.toList = R := ⟨_, rfl⟩
  have HE := fun k (hk : k ≤ s.size) h1 h2 => tk_ref (s := s) (k := k) hk h1 h2
  rw [hR] at HE ⊢
  have HEND := hide HE
  clear HE hR
  go_enter Tryz.func20, Tryz.ntmps20
  go_wp2_with fail
  go_loopw [3, 4, 5] (fun i _ _ wr => ∃ k : Nat, k ≤ s.size ∧ i = .int .i64 k ∧ Hid (∀ x ∈ s.data.toList.take k, Bf.tch x = true) ∧ Hid (wr = w)) (fun i _ _ _ => s.size - (intOf i).toNat)
  case atStart => exact ⟨0, Nat.zero_le _, rfl, fun x hx => by simp at hx, show w = w from rfl⟩
  case round =>
    obtain ⟨k, hk, rfl, HALL, HW⟩ := hrel
    by_cases hgo : ∃ h : k < s.size, Bf.tch s[k] = true
    · obtain ⟨hlt, ht⟩ := hgo
      have hki : (k : Int) < (s.size : Int) := by omega
      have HNX := hide (snoc_all hlt HALL.out ht)
      have HA := hide (fun W => letter_any s[k] W)
      have h6 := six_of ht
      clear ht
      generalize alB s[k] = a at *
      rcases h6 with rfl | ⟨rfl, h6⟩
      · go_wp2_with (go_at_call 38; refine (HA.out _).mono ?_; rintro x w' ⟨rfl, rfl⟩)
        go_roundw
        case rel => exact ⟨k + 1, by omega, by go_num, HNX, HW⟩
        case measure => simp [intOf]; omega
      · clear HA
        rcases h6 with h6 | h6 | h6 | h6 | h6 | h6
        · have HV : Hid (∀ W, Calls Tryz.prog 38 #[.int .u8 45] W fun e w' => e = .returned (.bool false) ∧ w' = W) := fun W => letter_any 45 W
          go_wp2_with (go_at_call 38; refine (HV.out _).mono ?_; rintro x w' ⟨rfl, rfl⟩)
          go_roundw
          case rel => exact ⟨k + 1, by omega, by go_num, HNX, HW⟩
          case measure => simp [intOf]; omega
        · have HV : Hid (∀ W, Calls Tryz.prog 38 #[.int .u8 46] W fun e w' => e = .returned (.bool false) ∧ w' = W) := fun W => letter_any 46 W
          go_wp2_with (go_at_call 38; refine (HV.out _).mono ?_; rintro x w' ⟨rfl, rfl⟩)
          go_roundw
          case rel => exact ⟨k + 1, by omega, by go_num, HNX, HW⟩
          case measure => simp [intOf]; omega
        · have HV : Hid (∀ W, Calls Tryz.prog 38 #[.int .u8 95] W fun e w' => e = .returned (.bool false) ∧ w' = W) := fun W => letter_any 95 W
          go_wp2_with (go_at_call 38; refine (HV.out _).mono ?_; rintro x w' ⟨rfl, rfl⟩)
          go_roundw
          case rel => exact ⟨k + 1, by omega, by go_num, HNX, HW⟩
          case measure => simp [intOf]; omega
        · have HV : Hid (∀ W, Calls Tryz.prog 38 #[.int .u8 126] W fun e w' => e = .returned (.bool false) ∧ w' = W) := fun W => letter_any 126 W
          go_wp2_with (go_at_call 38; refine (HV.out _).mono ?_; rintro x w' ⟨rfl, rfl⟩)
          go_roundw
          case rel => exact ⟨k + 1, by omega, by go_num, HNX, HW⟩
          case measure => simp [intOf]; omega
        · have HV : Hid (∀ W, Calls Tryz.prog 38 #[.int .u8 43] W fun e w' => e = .returned (.bool false) ∧ w' = W) := fun W => letter_any 43 W
          go_wp2_with (go_at_call 38; refine (HV.out _).mono ?_; rintro x w' ⟨rfl, rfl⟩)
          go_roundw
          case rel => exact ⟨k + 1, by omega, by go_num, HNX, HW⟩
          case measure => simp [intOf]; omega
        · have HV : Hid (∀ W, Calls Tryz.prog 38 #[.int .u8 47] W fun e w' => e = .returned (.bool false) ∧ w' = W) := fun W => letter_any 47 W
          go_wp2_with (go_at_call 38; refine (HV.out _).mono ?_; rintro x w' ⟨rfl, rfl⟩)
          go_roundw
          case rel => exact ⟨k + 1, by omega, by go_num, HNX, HW⟩
          case measure => simp [intOf]; omega
    · have hstop : s.size ≤ k ∨ (∃ h : k < s.size, Bf.tch s[k] = false) := by
        by_cases h : k < s.size
        · refine Or.inr ⟨h, ?_⟩
          cases hb : Bf.tch s[k] with
          | false => rfl
          | true => exact absurd ⟨h, hb⟩ hgo
        · exact Or.inl (by omega)
      have HR0 := hide (HEND.out k hk HALL.out hstop)
      have hst : (¬ (k : Int) < (s.size : Int)) ∨ (∃ hlt : k < s.size, (k : Int) < (s.size : Int) ∧ Bf.tch (s[k]'hlt) = false) := by
        rcases hstop with h | ⟨h, h3⟩
        · exact Or.inl (by omega)
        · exact Or.inr ⟨h, by omega, h3⟩
      clear hstop hgo HEND HALL
      rcases hst with hnk | ⟨hlt, hki, hf⟩
      · go_wp2_with fail
        go_loopw [6] (fun i wr => ∃ j : Nat, k ≤ j ∧ j ≤ s.size ∧ i = .int .i64 j ∧ Hid (R = (decide (0 < k) && (s.data.toList.drop j).all (fun x => x == 61))) ∧ Hid (wr = w)) (fun i _ => s.size - (intOf i).toNat)
        case atStart => exact ⟨k, Nat.le_refl _, hk, rfl, HR0, HW⟩
        case round =>
          obtain ⟨j, hkj, hj, rfl, HJ, HW⟩ := hrel
          by_cases hlj : j < s.size
          · exfalso; omega
          · have hji : ¬ (j : Int) < (s.size : Int) := by omega
            have HF : Hid (R = decide (0 < k)) := by
              show _ = _; rw [HJ.out, List.drop_of_length_le (by rw [len_list]; omega)]; simp
            by_cases hk0 : k = 0
            · subst hk0
              go_wp2_with fail
              go_ret
              exact ⟨by first | (rw [HF.out]; done) | (rw [HF.out]; rfl), HW.out⟩
            · have h0 : (0 : Int) < (k : Int) := by omega
              have h1 : R = true := by rw [HF.out]; exact decide_eq_true (by omega)
              subst h1
              have hd : decide ((0 : Int) < (k : Int)) = true := decide_eq_true h0
              clear HF
              go_wp2_with fail
              go_ret
              exact ⟨by first | rfl | (simp; omega), HW.out⟩
      · obtain ⟨hal, e1, e2, e3, e4, e5, e6⟩ := no_six hf
        have HA : Hid (∀ W, Calls Tryz.prog 38 #[B s[k]] W fun e w' => e = .returned (.bool false) ∧ w' = W) := fun W => by rw [← hal]; exact letter_any _ W
        clear hal hf
        go_wp2_with (go_at_call 38; refine (HA.out _).mono ?_; rintro x w' ⟨rfl, rfl⟩)
        go_loopw [6] (fun i wr => ∃ j : Nat, k ≤ j ∧ j ≤ s.size ∧ i = .int .i64 j ∧ Hid (R = (decide (0 < k) && (s.data.toList.drop j).all (fun x => x == 61))) ∧ Hid (wr = w)) (fun i _ => s.size - (intOf i).toNat)
        case atStart => exact ⟨k, Nat.le_refl _, hk, rfl, HR0, HW⟩
        case round =>
          obtain ⟨j, hkj, hj, rfl, HJ, HW⟩ := hrel
          by_cases hlj : j < s.size
          · have hji : (j : Int) < (s.size : Int) := by omega
            have HD := hide (drop_cons s j hlj)
            by_cases hq : s[j] = 61
            · have hqi : (s[j].toNat : Int) = 61 := by rw [hq]; rfl
              have HNX : Hid (R = (decide (0 < k) && (s.data.toList.drop (j + 1)).all (fun x => x == 61))) := by
                show _ = _; rw [HJ.out, HD.out, List.all_cons, hq]; rfl
              clear hq
              go_wp2_with fail
              go_roundw
              case rel => exact ⟨j + 1, by omega, by omega, by go_num, HNX, HW⟩
              case measure => simp [intOf]; omega
            · have hqi : ¬ (s[j].toNat : Int) = 61 := fun e => hq (UInt8.toNat_inj.1 (by show s[j].toNat = 61; omega))
              have HF : Hid (R = false) := by
                show _ = _; rw [HJ.out, HD.out, List.all_cons, beq_false_of_ne hq]; simp
              clear hq
              go_wp2_with fail
              go_ret
              exact ⟨by first | (rw [HF.out]; done) | (rw [HF.out]; rfl), HW.out⟩
          · have hji : ¬ (j : Int) < (s.size : Int) := by omega
            have HF : Hid (R = decide (0 < k)) := by
              show _ = _; rw [HJ.out, List.drop_of_length_le (by rw [len_list]; omega)]; simp
            by_cases hk0 : k = 0
            · subst hk0
              go_wp2_with fail
              go_ret
              exact ⟨by first | (rw [HF.out]; done) | (rw [HF.out]; rfl), HW.out⟩
            · have h0 : (0 : Int) < (k : Int) := by omega
              have h1 : R = true := by rw [HF.out]; exact decide_eq_true (by omega)
              subst h1
              have hd : decide ((0 : Int) < (k : Int)) = true := decide_eq_true h0
              clear HF
              go_wp2_with fail
              go_ret
              exact ⟨by first | rfl | (simp; omega), HW.out⟩
end Go.Proofs.YtcpflfpgnbihiaaGreatDoor.bf
