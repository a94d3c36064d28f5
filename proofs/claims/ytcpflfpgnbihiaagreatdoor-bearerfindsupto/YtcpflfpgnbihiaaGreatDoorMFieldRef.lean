import Derived.Test.YtcpflfpgnbihiaaGreatDoorMFieldAll
namespace Go.Proofs.YtcpflfpgnbihiaaGreatDoor.fd
open Go.ChangeShapes Go.WideShapes Go.ChangeAt Go.RowKit Go.Proofs.YtcpflfpgnbihiaaGreatDoor.common Go.Proofs.YtcpflfpgnbihiaaGreatDoor.bk
attribute [local go_sem ↓] Go.wp_at_zero Go.wp_at_succ

set_option maxRecDepth 100000 in
set_option maxHeartbeats 1600000 in
theorem stands_any (s : ByteArray) (c : UInt8) (w : World) (hs : s.size ≤ 4611686018427387904) :
    Calls Tryz.prog 58 #[.string s, B c] w fun e w' => e = .returned (.bool (s.data.toList.contains c)) ∧ w' = w := by
  have HT : Hid (∀ k (_ : k < s.size), (s.data.toList.take (k + 1)).contains c = ((s.data.toList.take k).contains c || c == s[k])) := by
    intro k h
    rw [take_snoc s k h, List.contains_append]
    congr 1
    simp only [List.contains_cons, List.contains_nil, Bool.or_false]
  have HE : Hid (s.data.toList.take s.size = s.data.toList) := take_all s
  have HA : Hid (∀ k, (s.data.toList.take k).contains c = true → s.data.toList.contains c = true) := by
    intro k h
    have h1 := List.contains_iff_mem.1 h
    exact List.contains_iff_mem.2 (List.mem_of_mem_take h1)
  go_enter Tryz.func58, Tryz.ntmps58
  go_wp2_with fail
  go_loopw [5] (fun i wr => ∃ k : Nat, k ≤ s.size ∧ i = .int .i64 k ∧ (s.data.toList.take k).contains c = false ∧ wr = w) (fun i _ => s.size - (intOf i).toNat)
  case atStart => exact ⟨0, Nat.zero_le _, rfl, by simp, rfl⟩
  case round =>
    obtain ⟨k, hk, rfl, ha, rfl⟩ := hrel
    have HAK := hide ha
    clear ha
    by_cases hlt : k < s.size
    · have hki : (k : Int) < (s.size : Int) := by omega
      have HTK := hide (HT.out k hlt)
      by_cases hp : c = s[k]
      · have HR : Hid (s.data.toList.contains c = true) := HA.out (k + 1) (by rw [HTK.out, hp]; simp)
        have hpi : (s[k].toNat : Int) = (c.toNat : Int) := by rw [hp]
        clear hp
        go_wp2_with fail
        go_ret
        exact ⟨by rw [HR.out]; rfl, rfl⟩
      · have hpi : ¬ (s[k].toNat : Int) = (c.toNat : Int) := fun e => hp (UInt8.toNat_inj.1 (by omega))
        have HP : Hid ((c == s[k]) = false) := beq_false_of_ne hp
        clear hp
        go_wp2_with fail
        go_roundw
        case rel => exact ⟨k + 1, by omega, by go_num, by rw [HTK.out, HAK.out, HP.out]; rfl, by trivial⟩
        case measure => simp [intOf]; omega
    · obtain rfl : k = s.size := by omega
      rw [HE.out] at HAK
      go_wp2_with fail
      go_ret
      exact ⟨by rw [HAK.out]; rfl, rfl⟩

theorem marks_tok (c : UInt8) : Fd.tok c = (decide (65 ≤ c.toNat ∧ c.toNat ≤ 90 ∨ 97 ≤ c.toNat ∧ c.toNat ≤ 122 ∨ 48 ≤ c.toNat ∧ c.toNat ≤ 57) || Fd.marks.contains c) := by
  have h : ∀ n : Fin 256, Fd.tok (UInt8.ofNat n.val) = (decide (65 ≤ n.val ∧ n.val ≤ 90 ∨ 97 ≤ n.val ∧ n.val ≤ 122 ∨ 48 ≤ n.val ∧ n.val ≤ 57) || Fd.marks.contains (UInt8.ofNat n.val)) := by decide +kernel
  have := h ⟨c.toNat, c.toNat_lt⟩
  simpa using this

theorem dec_cases {p : Prop} [Decidable p] {t : Bool} (h : t = decide p) : (t = true ∧ p) ∨ (t = false ∧ ¬ p) := by
  by_cases hp : p
  · exact Or.inl ⟨h.trans (decide_eq_true hp), hp⟩
  · exact Or.inr ⟨h.trans (decide_eq_false hp), hp⟩
theorem tok_cases (c : UInt8) : (Fd.tok c = true ∧ (65 ≤ c.toNat ∧ c.toNat ≤ 90 ∨ 97 ≤ c.toNat ∧ c.toNat ≤ 122 ∨ 48 ≤ c.toNat ∧ c.toNat ≤ 57)) ∨ (Fd.tok c = Fd.marks.contains c ∧ ¬ (65 ≤ c.toNat ∧ c.toNat ≤ 90 ∨ 97 ≤ c.toNat ∧ c.toNat ≤ 122 ∨ 48 ≤ c.toNat ∧ c.toNat ≤ 57)) := by
  rw [marks_tok]
  by_cases h : 65 ≤ c.toNat ∧ c.toNat ≤ 90 ∨ 97 ≤ c.toNat ∧ c.toNat ≤ 122 ∨ 48 ≤ c.toNat ∧ c.toNat ≤ 57
  · exact Or.inl ⟨by rw [decide_eq_true h]; rfl, h⟩
  · exact Or.inr ⟨by rw [decide_eq_false h]; rfl, h⟩

set_option maxHeartbeats 1600000 in
theorem tokenByte_any (c : UInt8) (w : World) : Calls Tryz.prog 37 #[B c] w fun e w' => e = .returned (.bool (Fd.tok c)) ∧ w' = w := by
  have HC := hide (tok_cases c)
  generalize Fd.tok c = t at *
  have HS0 := stands_any ⟨#[33, 35, 36, 37, 38, 39, 42, 43, 45, 46, 94, 95, 124, 126, 96]⟩ c w (by decide)
  change Calls _ _ _ _ fun e w' => e = .returned (.bool (Fd.marks.contains c)) ∧ w' = w at HS0
  have HS := hide HS0
  clear HS0
  generalize Fd.marks.contains c = u at *
  go_enter Tryz.func37, Tryz.ntmps37
  go_wp2_with (go_at_call 58; refine HS.out.mono ?_; rintro x w' ⟨rfl, rfl⟩)
  all_goals (go_ret; refine ⟨?_, rfl⟩; rcases HC.out with ⟨h1, h2⟩ | ⟨h1, h2⟩)
  all_goals first
    | (exfalso; omega)
    | (rw [h1]; rfl)

set_option maxHeartbeats 1600000 in
theorem isValueByte_any (c : UInt8) (w : World) : Calls Tryz.prog 118 #[B c] w fun e w' => e = .returned (.bool (Fd.val c)) ∧ w' = w := by
  have HC0 := dec_cases (p := c.toNat = 9 ∨ 32 ≤ c.toNat ∧ c.toNat ≠ 127) (t := Fd.val c) rfl
  have HC := hide HC0
  clear HC0
  have hc := c.toNat_lt
  generalize Fd.val c = t at *
  go_enter Tryz.func118, Tryz.ntmps118
  go_wp2
  all_goals (go_ret; refine ⟨?_, rfl⟩; rcases HC.out with ⟨h1, h2⟩ | ⟨h1, h2⟩)
  all_goals first
    | (exfalso; omega)
    | (rw [h1]; rfl)
    | (rw [h1]; simp; omega)

set_option maxHeartbeats 1600000 in
theorem valueByte_any (c : UInt8) (w : World) : Calls Tryz.prog 94 #[B c] w fun e w' => e = .returned (.bool (Fd.val c)) ∧ w' = w := by
  have HC0 := dec_cases (p := c.toNat = 9 ∨ 32 ≤ c.toNat ∧ c.toNat ≠ 127) (t := Fd.val c) rfl
  have HC := hide HC0
  clear HC0
  have hc := c.toNat_lt
  generalize Fd.val c = t at *
  go_enter Tryz.func94, Tryz.ntmps94
  go_wp2
  all_goals (go_ret; refine ⟨?_, rfl⟩; rcases HC.out with ⟨h1, h2⟩ | ⟨h1, h2⟩)
  all_goals first
    | (exfalso; omega)
    | (rw [h1]; rfl)
    | (rw [h1]; simp; omega)

theorem white_cases (c : UInt8) : (Fd.white c = true ∧ (c.toNat = 32 ∨ c.toNat = 9)) ∨ (Fd.white c = false ∧ ¬ (c.toNat = 32 ∨ c.toNat = 9)) := by
  cases h : Fd.white c with
  | true => exact Or.inl ⟨rfl, (Fd.white_iff c).1 h⟩
  | false => exact Or.inr ⟨rfl, fun e => by rw [(Fd.white_iff c).2 e] at h; cases h⟩

end Go.Proofs.YtcpflfpgnbihiaaGreatDoor.fd
