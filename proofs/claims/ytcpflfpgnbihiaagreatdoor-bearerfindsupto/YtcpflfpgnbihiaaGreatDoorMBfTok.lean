import Derived.Test.YtcpflfpgnbihiaaGreatDoorMLookName
import Derived.Test.YtcpflfpgnbihiaaGreatDoorMRefLow
import Derived.WalkMore
namespace Go.Proofs.YtcpflfpgnbihiaaGreatDoor.bf
open Go.ChangeShapes Go.WideShapes Go.ChangeAt Go.RowKit Go.Proofs.YtcpflfpgnbihiaaGreatDoor.common Go.Proofs.YtcpflfpgnbihiaaGreatDoor.bk Go.Proofs.YtcpflfpgnbihiaaGreatDoor.fd
attribute [local go_sem ↓] Go.wp_at_zero Go.wp_at_succ

theorem six_any (c : UInt8) (w : World) : Calls Tryz.prog 32 #[.string ⟨#[45, 46, 95, 126, 43, 47]⟩, B c] w fun e w' => e = .returned (.bool (six.contains c)) ∧ w' = w := among_any ⟨#[45, 46, 95, 126, 43, 47]⟩ c w
theorem snoc_all {p : UInt8 → Bool} {s : ByteArray} {k : Nat} (h : k < s.size) (h1 : ∀ x ∈ s.data.toList.take k, p x = true) (h2 : p s[k] = true) : ∀ x ∈ s.data.toList.take (k + 1), p x = true := by
  rw [take_snoc s k h]
  intro x hx
  rcases List.mem_append.1 hx with hx | hx
  · exact h1 x hx
  · simp at hx; subst hx; exact h2
theorem dw_nil (l : List UInt8) : l.dropWhile (fun x => x == 61) = [] ↔ l.all (fun x => x == 61) = true := by
  induction l with
  | nil => simp
  | cons a t ih =>
    rw [List.dropWhile_cons, List.all_cons]
    by_cases h : (a == 61) = true
    · rw [if_pos h, h, Bool.true_and]; exact ih
    · rw [if_neg h]; simp only [Bool.not_eq_true] at h; rw [h]; simp
theorem ne_facts {t : ByteArray} (h : t ≠ ⟨#[]⟩) : ¬ t.toList = [] ∧ (t.toList == []) = false ∧ t.toList.isEmpty = false := by
  have h2 : ¬ t.toList = [] := fun e => h (ba_ext (by rw [ByteArray.toList_eq] at e; rw [e]))
  refine ⟨h2, beq_false_of_ne h2, ?_⟩
  cases hh : t.toList with
  | nil => exact absurd hh h2
  | cons _ _ => rfl
/-- where the run of token bytes ends, all is told -/
theorem tk_end {s : ByteArray} {k : Nat} (hk : k ≤ s.size) (h1 : ∀ x ∈ s.data.toList.take k, Bf.tch x = true) (h2 : s.size ≤ k ∨ ∃ h : k < s.size, Bf.tch s[k] = false) :
    (k = 0 → Bf.isTk s.data.toList = false) ∧ (0 < k → (ltrim 61 (s.extract k s.size) = ⟨#[]⟩ ∧ Bf.isTk s.data.toList = true) ∨ (ltrim 61 (s.extract k s.size) ≠ ⟨#[]⟩ ∧ Bf.isTk s.data.toList = false)) := by
  obtain ⟨a, b⟩ := span_at (p := Bf.tch) (l := s.data.toList) (k := k) h1 (by
    rcases h2 with h | ⟨h, h3⟩
    · exact Or.inl (by rw [len_list]; exact h)
    · exact Or.inr (by rw [getD_list s k h]; exact h3))
  unfold Bf.isTk
  rw [a, b]
  refine ⟨fun h => by rw [h]; rfl, fun h => ?_⟩
  have hne : (s.data.toList.take k).isEmpty = false := by
    cases hh : s.data.toList.take k with
    | nil => have := congrArg List.length hh; rw [List.length_take, len_list, List.length_nil] at this; omega
    | cons _ _ => rfl
  rw [hne]
  have e : (ltrim 61 (s.extract k s.size)).data.toList = (s.data.toList.drop k).dropWhile (fun x => x == 61) := by
    unfold ltrim; rw [fd.ext_drop]
  by_cases hall : (s.data.toList.drop k).all (fun x => x == 61) = true
  · exact Or.inl ⟨ba_ext (by rw [e, (dw_nil _).2 hall]), by rw [hall]; rfl⟩
  · refine Or.inr ⟨fun h9 => hall ((dw_nil _).1 ?_), ?_⟩
    · rw [← e, h9]
    · simp only [Bool.not_eq_true] at hall; rw [hall]; rfl

set_option maxRecDepth 100000 in
set_option maxHeartbeats 3200000 in
theorem bTok_any (s : ByteArray) (w : World) (hs : s.size ≤ 4611686018427387904) :
    Calls Tryz.prog 14 #[.string s] w fun e w' => e = .returned (.bool (Bf.isTk s.data.toList)) ∧ w' = w := by
  obtain ⟨R, hR⟩ : ∃ R, Bf.isTk s.data.toList = R := ⟨_, rfl⟩
  have HE := fun k (hk : k ≤ s.size) h1 h2 => tk_end (s := s) (k := k) hk h1 h2
  rw [hR] at HE ⊢
  have HEND := hide HE
  clear HE hR
  have HTL : Hid (∀ k W, Calls Tryz.prog 29 #[.string (s.extract k s.size), .string ⟨#[61]⟩] W fun e w' => e = .returned (.string (ltrim 61 (s.extract k s.size))) ∧ w' = W) := fun k W => trimL_any _ 61 W (by rw [ByteArray.size_extract]; omega) (by decide)
  go_enter Tryz.func14, Tryz.ntmps14
  go_wp2_with fail
  go_step3
  go_wp2_with fail
  go_step3
  go_wp2_with fail
  go_loopw [3, 4, 5, 10] (fun e _ _ i wr => ∃ k : Nat, k ≤ s.size ∧ i = .int .i64 k ∧ e = .int .i64 s.size ∧ Hid (∀ x ∈ s.data.toList.take k, Bf.tch x = true) ∧ wr = w) (fun _ _ _ i _ => s.size - (intOf i).toNat)
  case atStart => exact ⟨0, Nat.zero_le _, rfl, rfl, fun x hx => by simp at hx, rfl⟩
  case round =>
    obtain ⟨k, hk, rfl, rfl, HALL, rfl⟩ := hrel
    by_cases hgo : ∃ h : k < s.size, Bf.tch s[k] = true
    · obtain ⟨hlt, ht⟩ := hgo
      have hki : (k : Int) < (s.size : Int) := by omega
      have HNX := hide (snoc_all hlt HALL.out ht)
      have HA := hide (fun W => alnum_any s[k] W)
      have HS := hide (fun W => six_any s[k] W)
      rw [tch_six] at ht
      have HT := hide ht
      clear ht
      generalize six.contains s[k] = u at *
      generalize alB s[k] = a at *
      cases a with
      | true =>
        go_wp2_with (first
          | (go_at_call 31; refine (HA.out _).mono ?_; rintro x w' ⟨rfl, rfl⟩))
        go_roundw
        case rel => exact ⟨k + 1, by omega, by go_num, rfl, HNX, by trivial⟩
        case measure => simp [intOf]; omega
      | false =>
        obtain rfl : u = true := by simpa using HT.out
        go_wp2_with (first
          | (go_at_call 31; refine (HA.out _).mono ?_; rintro x w' ⟨rfl, rfl⟩)
          | (go_at_call 32; refine (HS.out _).mono ?_; rintro x w' ⟨rfl, rfl⟩))
        go_roundw
        case rel => exact ⟨k + 1, by omega, by go_num, rfl, HNX, by trivial⟩
        case measure => simp [intOf]; omega
    · have hstop : s.size ≤ k ∨ (∃ h : k < s.size, Bf.tch s[k] = false) := by
        by_cases h : k < s.size
        · refine Or.inr ⟨h, ?_⟩
          cases hb : Bf.tch s[k] with
          | false => rfl
          | true => exact absurd ⟨h, hb⟩ hgo
        · exact Or.inl (by omega)
      obtain ⟨z0, z1⟩ := HEND.out k hk HALL.out hstop
      have HZ0 := hide z0
      have HZ1 := hide z1
      have HF : Hid (∀ h : k < s.size, alB (s[k]'h) = false ∧ six.contains (s[k]'h) = false) := fun h => by
        rcases hstop with h1 | ⟨_, h2⟩
        · omega
        · rw [tch_six] at h2; simpa using h2
      have HA : Hid (∀ h : k < s.size, ∀ W, Calls Tryz.prog 31 #[B (s[k]'h)] W fun e w' => e = .returned (.bool false) ∧ w' = W) := fun h W => by
        rw [← (HF.out h).1]; exact alnum_any _ W
      have HS : Hid (∀ h : k < s.size, ∀ W, Calls Tryz.prog 32 #[.string ⟨#[45, 46, 95, 126, 43, 47]⟩, B (s[k]'h)] W fun e w' => e = .returned (.bool false) ∧ w' = W) := fun h W => by
        rw [← (HF.out h).2]; exact six_any _ W
      have HTK := hide (HTL.out k)
      have hst : (k = s.size ∧ ¬ (k : Int) < (s.size : Int)) ∨ (k < s.size ∧ (k : Int) < (s.size : Int)) := by omega
      clear hstop z0 z1 hgo HF HEND HALL HTL
      have k0 : (0 : Int) ≤ (k : Int) := Int.natCast_nonneg _
      have k1 : (k : Int) ≤ (s.size : Int) := by omega
      by_cases hk0 : k = 0
      · have HR := hide (HZ0.out hk0)
        have hd : decide ((0 : Int) < (k : Int)) = false := decide_eq_false (by omega)
        have hd2 : ¬ (0 : Int) < (k : Int) := by omega
        rcases hst with ⟨hks, hnk⟩ | ⟨hlt, hki⟩
        · rw [← hks] at *
          clear hks hk0
          go_wp2_with fail
          go_ret
          exact ⟨by rw [HR.out]; rfl, rfl⟩
        · clear hk0
          go_wp2_with (first
            | (go_at_call 31; refine (HA.out hlt _).mono ?_; rintro x w' ⟨rfl, rfl⟩)
            | (go_at_call 32; refine (HS.out hlt _).mono ?_; rintro x w' ⟨rfl, rfl⟩))
          try rw [Exit.noGoto_ret]
          go_ret
          exact ⟨by rw [HR.out]; rfl, rfl⟩
      · have hd : decide ((0 : Int) < (k : Int)) = true := decide_eq_true (by omega)
        have hd2 : (0 : Int) < (k : Int) := by omega
        have HZ := hide (HZ1.out (by omega))
        clear HZ0 HZ1 hk0
        have HL : Hid (∀ W, Calls Tryz.prog 29 #[.string (s.extract k s.size), .string ⟨#[61]⟩] W fun e w' => ∃ T : ByteArray, e = .returned (.string T) ∧ w' = W ∧ ((T = ⟨#[]⟩ ∧ R = true) ∨ (T ≠ ⟨#[]⟩ ∧ R = false))) := fun W => (HTK.out W).mono fun e w' ⟨h1, h2⟩ => ⟨_, h1, h2, HZ.out⟩
        clear HTK HZ
        rcases hst with ⟨hks, hnk⟩ | ⟨hlt, hki⟩
        · subst hks
          have e0 : s.extract s.size s.size = ByteArray.empty := by simp
          rw [e0] at HL
          clear e0
          go_wp2_with fail
          refine (HL.out _).mono ?_
          rintro x w2 ⟨T, rfl, e2, hT⟩
          subst e2
          rcases hT with ⟨rfl, hR⟩ | ⟨hne, hR⟩
          · subst hR
            go_wp2_with fail
            try rw [Exit.noGoto_ret]
            go_ret
            exact ⟨rfl, rfl⟩
          · subst hR
            obtain ⟨n1, n2, n3⟩ := ne_facts hne
            clear hne
            go_wp2_with fail
            try rw [Exit.noGoto_ret]
            go_ret
            exact ⟨rfl, rfl⟩
        · go_wp2_with (first
            | (go_at_call 31; refine (HA.out hlt _).mono ?_; rintro x w' ⟨rfl, rfl⟩)
            | (go_at_call 32; refine (HS.out hlt _).mono ?_; rintro x w' ⟨rfl, rfl⟩))
          refine (HL.out _).mono ?_
          rintro x w2 ⟨T, rfl, e2, hT⟩
          subst e2
          rcases hT with ⟨rfl, hR⟩ | ⟨hne, hR⟩
          · subst hR
            go_wp2_with fail
            try rw [Exit.noGoto_ret]
            go_ret
            exact ⟨rfl, rfl⟩
          · subst hR
            obtain ⟨n1, n2, n3⟩ := ne_facts hne
            clear hne
            go_wp2_with fail
            try rw [Exit.noGoto_ret]
            go_ret
            exact ⟨rfl, rfl⟩
end Go.Proofs.YtcpflfpgnbihiaaGreatDoor.bf
