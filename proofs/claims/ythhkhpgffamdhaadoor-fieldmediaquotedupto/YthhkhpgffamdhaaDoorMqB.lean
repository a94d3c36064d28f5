import Derived.Test.YthhkhpgffamdhaaDoorMqM
namespace Go.Proofs.YthhkhpgffamdhaaDoor.fd
open Go.ChangeShapes Go.WideShapes Go.ChangeAt Go.RowKit Go.Proofs.YthhkhpgffamdhaaDoor.common Go.Proofs.YthhkhpgffamdhaaDoor.bk
attribute [local go_sem ↓] Go.wp_at_zero Go.wp_at_succ

theorem token_one (c : UInt8) : Fd.token [c] = Fd.tok c := by unfold Fd.token; simp
theorem ext_one (s : ByteArray) (k : Nat) (h : k < s.size) : s.extract k (k + 1) = ⟨#[s[k]]⟩ := by
  apply ba_ext
  rw [Lib.extract_data, show k + 1 - k = 1 by omega, drop_at6 s k h]
  rfl

def BrOut (h u : List UInt8) (e : Ending) : Prop := ∃ t : Bool, e = .returned (.bool t) ∧ (t = true → Broken h u)
set_option maxRecDepth 100000 in
set_option maxHeartbeats 6400000 in
theorem broken_any (h u : ByteArray) (w : World) (hh : h.size ≤ 1048576) (hu : u.size ≤ 1048576) :
    Calls Tryd.prog 12 #[.string h, .string u] w fun e w' => BrOut h.data.toList u.data.toList e ∧ Below w.heap.size w w' := by
  have HLH := hide (len_list h)
  have HLU := hide (len_list u)
  have HSH : Hid (∀ k (_ : k < h.size), h.data.toList.take (k + 1) = h.data.toList.take k ++ [h[k]]) := fun k hk => take_snoc h k hk
  have HSU : Hid (∀ k (_ : k < u.size), u.data.toList.take (k + 1) = u.data.toList.take k ++ [u[k]]) := fun k hk => take_snoc u k hk
  go_enter Tryd.func12, Tryd.ntmps12
  go_wp2_with fail
  refine (token_any h w (by omega)).mono ?_
  rintro x w1 ⟨rfl, hb1⟩
  have HB1 := hide hb1
  clear hb1
  cases htk : Fd.token h.data.toList with
  | false =>
    have HTK := hide htk
    clear htk
    go_wp2_with fail
    go_loopw [5] (fun i wr => ∃ k : Nat, k ≤ h.size ∧ i = .int .i64 k ∧ (∀ x ∈ h.data.toList.take k, x ≠ 59) ∧ wr = w1) (fun i _ => h.size - (intOf i).toNat)
    case atStart => exact ⟨0, Nat.zero_le _, rfl, fun x hx => by simp at hx, rfl⟩
    case round =>
      obtain ⟨k, hk, rfl, hall, rfl⟩ := hrel
      have HAL := hide hall
      clear hall
      by_cases hlt : k < h.size
      · have hki : (k : Int) < (h.size : Int) := by omega
        by_cases h59 : h[k] = 59
        · have h1 : (h[k].toNat : Int) = 59 := by rw [h59]; rfl
          clear h59
          go_wp2_with fail
          go_ret
          exact ⟨⟨false, rfl, fun e => by cases e⟩, HB1.out⟩
        · have h1 : ¬ (h[k].toNat : Int) = 59 := fun e => h59 (UInt8.toNat_inj.1 (by show h[k].toNat = 59; omega))
          have h1b : ((h[k].toNat : Int) == 59) = false := beq_false_of_ne h1
          have HNX : Hid (∀ x ∈ h.data.toList.take (k + 1), x ≠ 59) := by
            intro x hx
            rw [HSH.out k hlt] at hx
            rcases List.mem_append.1 hx with hx | hx
            · exact HAL.out x hx
            · rw [List.mem_singleton] at hx; subst hx; exact h59
          clear h59
          go_wp2_with fail
          go_roundw
          case rel => exact ⟨k + 1, by omega, by go_num, HNX.out, by trivial⟩
          case measure => simp [intOf]; omega
      · have hkn : ¬ (k : Int) < (h.size : Int) := by omega
        have hke : h.data.toList.take k = h.data.toList := List.take_of_length_le (by rw [HLH.out]; omega)
        have HAL2 := HAL.out
        rw [hke] at HAL2
        have HBR : Hid (Broken h.data.toList u.data.toList) := Or.inl ⟨HTK.out, HAL2⟩
        clear HAL2 hke
        go_wp2_with fail
        go_ret
        exact ⟨⟨true, rfl, fun _ => HBR.out⟩, HB1.out⟩
  | true =>
    have HTK := hide htk
    clear htk
    go_wp2_with fail
    go_loopw [6] (fun i wr => ∃ k : Nat, k ≤ u.size ∧ i = .int .i64 k ∧ (∀ x ∈ u.data.toList.take k, Fd.tok x = true) ∧ Below w.heap.size w wr) (fun i _ => u.size - (intOf i).toNat)
    case atStart => exact ⟨0, Nat.zero_le _, rfl, fun x hx => by simp at hx, HB1.out⟩
    case round =>
      obtain ⟨k, hk, rfl, hall, hnx⟩ := hrel
      have HAL := hide hall
      have HN := hide hnx
      clear hall hnx
      by_cases hlt : k < u.size
      · have hki : (k : Int) < (u.size : Int) := by omega
        have k0 : (0 : Int) ≤ (k : Int) := Int.natCast_nonneg _
        have hki1 : (k : Int) + 1 ≤ (u.size : Int) := by omega
        have hkk : (k : Int) ≤ (k : Int) + 1 := by omega
        obtain ⟨E, hE⟩ : ∃ E : ByteArray, u.extract k (k + 1) = E := ⟨_, rfl⟩
        have HEL : Hid (E.data.toList = [u[k]]) := by show _ = _; rw [← hE, ext_one u k hlt]
        have hEs : E.size ≤ 4611686018427387904 := by rw [← hE, ByteArray.size_extract]; omega
        have HT := hide (fun W => token_any E W hEs)
        rw [HEL.out, token_one] at HT
        have HSK := hide (HSU.out k hlt)
        go_wp2_with fail
        refine (HT.out _).mono ?_
        rintro x w2 ⟨rfl, hb2⟩
        have HB2 := hide (keepD HN.out hb2)
        clear hb2
        cases htk : Fd.tok u[k] with
        | true =>
          have HNX : Hid (∀ x ∈ u.data.toList.take (k + 1), Fd.tok x = true) := by
            intro x hx
            rw [HSK.out] at hx
            rcases List.mem_append.1 hx with hx | hx
            · exact HAL.out x hx
            · rw [List.mem_singleton] at hx; subst hx; exact htk
          clear htk
          go_wp2_with fail
          go_roundw
          case rel => exact ⟨k + 1, by omega, by go_num, HNX.out, HB2.out⟩
          case measure => simp [intOf]; omega
        | false =>
          have HBR : Hid ((k = 0 ∨ (u[k] ≠ 59 ∧ u[k] ≠ 32 ∧ u[k] ≠ 9)) → Broken h.data.toList u.data.toList) := by
            intro hor
            refine Or.inr ⟨HTK.out, Or.inr ⟨u.data.toList.take k, u[k], u.data.toList.drop (k + 1), ?_, HAL.out, htk, ?_⟩⟩
            · rw [← drop_at6 u k hlt, List.take_append_drop]
            · rcases hor with h0 | h0
              · left; rw [h0, List.take_zero]
              · exact Or.inr h0
          clear htk
          by_cases hk0 : k = 0
          · have hk0i : (k : Int) = 0 := by omega
            have HBR2 := hide (HBR.out (Or.inl hk0))
            go_wp2_with fail
            go_ret
            exact ⟨⟨true, by simp, fun _ => HBR2.out⟩, HB2.out⟩
          · have hk0i : ¬ (k : Int) = 0 := by omega
            have hk0b : ((k : Int) == 0) = false := beq_false_of_ne hk0i
            have hk0c : (k == 0) = false := beq_false_of_ne hk0
            by_cases h59 : u[k] = 59
            · have h1 : (u[k].toNat : Int) = 59 := by rw [h59]; rfl
              clear h59
              go_wp2_with fail
              go_ret
              exact ⟨⟨false, by simp, fun e => by cases e⟩, HB2.out⟩
            · have h1 : ¬ (u[k].toNat : Int) = 59 := fun e => h59 (UInt8.toNat_inj.1 (by show u[k].toNat = 59; omega))
              have h1b : ((u[k].toNat : Int) == 59) = false := beq_false_of_ne h1
              by_cases h32 : u[k] = 32
              · have h2 : (u[k].toNat : Int) = 32 := by rw [h32]; rfl
                clear h32 h59
                go_wp2_with fail
                go_ret
                exact ⟨⟨false, by simp, fun e => by cases e⟩, HB2.out⟩
              · have h2 : ¬ (u[k].toNat : Int) = 32 := fun e => h32 (UInt8.toNat_inj.1 (by show u[k].toNat = 32; omega))
                have h2b : ((u[k].toNat : Int) == 32) = false := beq_false_of_ne h2
                by_cases h9 : u[k] = 9
                · have h3 : (u[k].toNat : Int) = 9 := by rw [h9]; rfl
                  clear h9 h32 h59
                  go_wp2_with fail
                  go_ret
                  exact ⟨⟨false, by simp, fun e => by cases e⟩, HB2.out⟩
                · have h3 : ¬ (u[k].toNat : Int) = 9 := fun e => h9 (UInt8.toNat_inj.1 (by show u[k].toNat = 9; omega))
                  have h3b : ((u[k].toNat : Int) == 9) = false := beq_false_of_ne h3
                  have HBR2 := hide (HBR.out (Or.inr ⟨h59, h32, h9⟩))
                  clear h9 h32 h59
                  go_wp2_with fail
                  go_ret
                  exact ⟨⟨true, by simp; omega, fun _ => HBR2.out⟩, HB2.out⟩
      · have hkn : ¬ (k : Int) < (u.size : Int) := by omega
        by_cases hz : u.size = 0
        · have hse : u = ⟨#[]⟩ := by
            apply ba_ext
            exact List.length_eq_zero_iff.1 (by rw [HLU.out]; exact hz)
          have HBR : Hid (Broken h.data.toList u.data.toList) := Or.inr ⟨HTK.out, Or.inl (by rw [hse])⟩
          have h1 : (u.toList == []) = true := by
            rw [ByteArray.toList_eq, hse]; rfl
          clear hse
          go_wp2_with fail
          go_ret
          exact ⟨⟨true, by simp, fun _ => HBR.out⟩, HN.out⟩
        · have hne : u.toList ≠ [] := by
            intro e
            have h3 := HLU.out
            rw [ByteArray.toList_eq] at e
            rw [e] at h3
            exact hz h3.symm
          have h1 : (u.toList == []) = false := beq_false_of_ne hne
          have h2 : u.toList.isEmpty = false := by cases hh : u.toList with | nil => exact absurd hh hne | cons _ _ => rfl
          clear hne
          go_wp2_with fail
          go_ret
          exact ⟨⟨false, by simp, fun e => by cases e⟩, HN.out⟩

end Go.Proofs.YthhkhpgffamdhaaDoor.fd
