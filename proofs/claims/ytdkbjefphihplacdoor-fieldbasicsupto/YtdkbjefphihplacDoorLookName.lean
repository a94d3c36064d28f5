import Derived.Test.YtdkbjefphihplacDoorByteKit
import Derived.Test.YtdkbjefphihplacDoorFieldMath
namespace Go.Proofs.YtdkbjefphihplacDoor.lnm
open Go.ChangeShapes Go.WideShapes Go.ChangeAt Go.RowKit Go.Proofs.YtdkbjefphihplacDoor.common Go.Proofs.YtdkbjefphihplacDoor.bk
attribute [local go_sem ↓] Go.wp_at_zero Go.wp_at_succ

def lowB (s : ByteArray) : List UInt8 := Fd.lows s.data.toList
theorem low_big {c : UInt8} (h : 65 ≤ c.toNat ∧ c.toNat ≤ 90) : (Fd.low c).toNat = c.toNat + 32 := by
  have := c.toNat_lt
  unfold Fd.low; rw [if_pos h, UInt8.toNat_add]; show (c.toNat + 32) % 256 = _; omega
theorem low_not {c : UInt8} (h : ¬ (65 ≤ c.toNat ∧ c.toNat ≤ 90)) : Fd.low c = c := by unfold Fd.low; rw [if_neg h]
theorem low_cases (c : UInt8) : (65 ≤ c.toNat ∧ c.toNat ≤ 90 ∧ (Fd.low c).toNat = c.toNat + 32) ∨ (¬ (65 ≤ c.toNat ∧ c.toNat ≤ 90) ∧ (Fd.low c).toNat = c.toNat) := by
  by_cases h : 65 ≤ c.toNat ∧ c.toNat ≤ 90
  · exact Or.inl ⟨h.1, h.2, low_big h⟩
  · exact Or.inr ⟨h, by rw [low_not h]⟩

set_option maxHeartbeats 800000 in
theorem small_any (c : UInt8) (w : World) : Calls Tryd.prog 33 #[B c] w fun e w' => e = .returned (B (Fd.low c)) ∧ w' = w := by
  have HC := hide (low_cases c)
  have hc := c.toNat_lt
  show Calls _ _ _ _ fun e w' => e = .returned (.int .u8 ((Fd.low c).toNat : Int)) ∧ w' = w
  generalize (Fd.low c).toNat = v at *
  go_enter Tryd.func33, Tryd.ntmps33
  go_wp2
  all_goals (go_ret; refine ⟨?_, rfl⟩; have := HC.out)
  all_goals first
    | (exfalso; omega)
    | (simp; omega)

theorem lowB_len (s : ByteArray) : (lowB s).length = s.size := by unfold lowB Fd.lows; simp
theorem lowB_take (s : ByteArray) (k : Nat) (h : k < s.size) : (lowB s).take (k + 1) = (lowB s).take k ++ [Fd.low s[k]] := by
  have hl : k < (lowB s).length := by rw [lowB_len]; exact h
  have e : (lowB s)[k] = Fd.low s[k] := List.getElem_map (f := Fd.low) (l := s.data.toList) (i := k) (h := hl)
  rw [List.take_succ_eq_append_getElem hl, e]
theorem low_inj {x y : UInt8} (h : x.toNat = y.toNat) : x = y := UInt8.toNat_inj.1 h

set_option maxRecDepth 100000 in
set_option maxHeartbeats 3200000 in
theorem sameName_any (a b : ByteArray) (w : World) (hs : a.size ≤ 4611686018427387904) :
    Calls Tryd.prog 16 #[.string a, .string b] w fun e w' => e = .returned (.bool (decide (lowB a = lowB b))) ∧ Below w.heap.size w w' := by
  obtain ⟨r, hr⟩ : ∃ r, decide (lowB a = lowB b) = r := ⟨_, rfl⟩
  rw [hr]
  have HR := hide hr
  clear hr
  by_cases hsz : a.size = b.size
  · have hszi : (a.size : Int) = (b.size : Int) := by omega
    go_enter Tryd.func16, Tryd.ntmps16
    go_wp2_with fail
    go_loopw [13] (fun i wr => ∃ k : Nat, k ≤ a.size ∧ i = .int .i64 k ∧ (lowB a).take k = (lowB b).take k ∧ Below w.heap.size w wr) (fun i _ => a.size - (intOf i).toNat)
    case atStart => exact ⟨0, Nat.zero_le _, rfl, rfl, Below.refl _ _⟩
    case round =>
      obtain ⟨k, hk, rfl, heq, hnx⟩ := hrel
      have HQ := hide heq
      have HX := hide hnx
      clear heq hnx
      by_cases hlt : k < a.size
      · have hltb : k < b.size := by omega
        have hki : (k : Int) < (a.size : Int) := by omega
        have hkib : (k : Int) < (b.size : Int) := by omega
        have k0 : (0 : Int) ≤ (k : Int) := Int.natCast_nonneg _
        have HTA := hide (lowB_take a k hlt)
        have HTB := hide (lowB_take b k hltb)
        by_cases hc : Fd.low a[k] = Fd.low b[k]
        · have HC := hide hc
          have hcn : ((Fd.low a[k]).toNat : Int) = ((Fd.low b[k]).toNat : Int) := by rw [hc]
          clear hc
          go_wp2_with fail
          go_region_held3 (fun _ => True) (trivial) ((go_at_call 33; refine (small_any _ _).mono ?_; rintro x w2 ⟨rfl, rfl⟩))
          all_goals
            go_wp2_with fail
            go_roundw
            case rel => exact ⟨k + 1, by omega, by go_num, by rw [HTA.out, HTB.out, HQ.out, HC.out], HX.out.drew⟩
            case measure => simp [intOf]; omega
        · have hcn : ¬ ((Fd.low a[k]).toNat : Int) = ((Fd.low b[k]).toNat : Int) := fun e => hc (low_inj (by omega))
          have HF : Hid (r = false) := by
            show r = false
            rw [← HR.out]
            refine decide_eq_false fun e => hc ?_
            have h1 := HTA.out
            rw [e, HTB.out] at h1
            have := List.append_inj_right' h1 rfl
            simpa using this.symm
          clear hc
          go_wp2_with fail
          go_region_held3 (fun _ => True) (trivial) ((go_at_call 33; refine (small_any _ _).mono ?_; rintro x w2 ⟨rfl, rfl⟩))
          all_goals
            go_wp2_with fail
            go_ret
            exact ⟨by rw [HF.out]; rfl, HX.out.drew⟩
      · obtain rfl : k = a.size := by omega
        have HF : Hid (r = true) := by
          show r = true
          rw [← HR.out]
          refine decide_eq_true ?_
          have h1 := HQ.out
          rw [List.take_of_length_le (by rw [lowB_len]; exact Nat.le_refl _), List.take_of_length_le (by rw [lowB_len]; omega)] at h1
          exact h1
        go_wp2_with fail
        go_ret
        exact ⟨by rw [HF.out]; rfl, HX.out⟩
  · have hszi : ¬ (a.size : Int) = (b.size : Int) := by omega
    have HF : Hid (r = false) := by
      show r = false
      rw [← HR.out]
      refine decide_eq_false fun e => hsz ?_
      rw [← lowB_len a, e, lowB_len]
    go_enter Tryd.func16, Tryd.ntmps16
    go_wp2_with fail
    go_ret
    exact ⟨by rw [HF.out]; rfl, Below.refl _ _⟩

end Go.Proofs.YtdkbjefphihplacDoor.lnm
