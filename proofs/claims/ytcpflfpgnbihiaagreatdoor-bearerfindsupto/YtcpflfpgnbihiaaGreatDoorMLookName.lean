import Derived.Test.YtcpflfpgnbihiaaGreatDoorMBfFold
import Derived.Test.YtcpflfpgnbihiaaGreatDoorMFieldMath
namespace Go.Proofs.YtcpflfpgnbihiaaGreatDoor.bf
open Go.ChangeShapes Go.WideShapes Go.ChangeAt Go.RowKit Go.Proofs.YtcpflfpgnbihiaaGreatDoor.common Go.Proofs.YtcpflfpgnbihiaaGreatDoor.bk Go.Proofs.YtcpflfpgnbihiaaGreatDoor.fd
attribute [local go_sem ↓] Go.wp_at_zero Go.wp_at_succ

/-- what is left of a text behind a byte's run at its head -/
def ltrim (c : UInt8) (s : ByteArray) : ByteArray := ⟨(s.data.toList.dropWhile (fun x => x == c)).toArray⟩
theorem extD1 (t : ByteArray) : (t.extract 1 t.size).data.toList = t.data.toList.drop 1 := by rw [fd.ext_drop]
theorem ba_cons (t : ByteArray) (h : 0 < t.size) : t.data.toList = t[0] :: t.data.toList.drop 1 := by
  have h1 : t.data.toList.drop 0 = t.data.toList[0]'(by simpa using h) :: t.data.toList.drop (0 + 1) := List.drop_eq_getElem_cons (by simpa using h)
  rw [List.drop_zero, at_list t 0 h] at h1
  exact h1
theorem ltrim_nil (c : UInt8) (t : ByteArray) (h : t.size = 0) : ltrim c t = t := by
  have : t.data.toList = [] := List.eq_nil_of_length_eq_zero (by rw [len_list]; exact h)
  unfold ltrim
  rw [this]
  exact ba_ext (by rw [this]; rfl)
theorem ltrim_eq (c : UInt8) (t : ByteArray) (h : 0 < t.size) (e : t[0] = c) : ltrim c (t.extract 1 t.size) = ltrim c t := by
  unfold ltrim
  rw [extD1]
  conv => rhs; rw [ba_cons t h]
  rw [List.dropWhile_cons, if_pos (by rw [e]; simp)]
theorem ltrim_ne (c : UInt8) (t : ByteArray) (h : 0 < t.size) (e : t[0] ≠ c) : ltrim c t = t := by
  refine ba_ext ?_
  show t.data.toList.dropWhile _ = _
  conv => lhs; rw [ba_cons t h]
  rw [List.dropWhile_cons, if_neg (by simpa using e), ← ba_cons t h]

set_option maxHeartbeats 1600000 in
theorem trimByteL_any (s : ByteArray) (c : UInt8) (w : World) (hs : s.size ≤ 4611686018427387904) :
    Calls Tryz.prog 47 #[.string s, B c] w fun e w' => e = .returned (.string (ltrim c s)) ∧ w' = w := by
  obtain ⟨R, hR⟩ : ∃ R, ltrim c s = R := ⟨_, rfl⟩
  rw [hR]
  have HR0 := hide hR
  clear hR
  go_enter Tryz.func47, Tryz.ntmps47
  go_wp2_with fail
  go_loop [0] (fun v => ∃ t : ByteArray, v = .string t ∧ t.size ≤ 4611686018427387904 ∧ Hid (ltrim c t = R)) (fun v => (match v with | .string t => t.size | _ => 0))
  case atStart => exact ⟨s, rfl, hs, HR0⟩
  case round =>
    obtain ⟨t, rfl, hts, HT⟩ := hrel
    by_cases h0 : t.size = 0
    · have hz : ¬ (0 : Int) < (t.size : Int) := by omega
      have HF : Hid (t = R) := by show t = R; rw [← HT.out]; exact (ltrim_nil c t h0).symm
      clear h0
      go_wp2
      go_ret
      exact ⟨congrArg (fun v => Ending.returned (Value.string v)) HF.out, rfl⟩
    · have hkt : 0 < t.size := by omega
      have hz : (0 : Int) < (t.size : Int) := by omega
      have k1 : (1 : Int) ≤ (t.size : Int) := by omega
      by_cases he : t[0] = c
      · have he' : (t[0].toNat : Int) = (c.toNat : Int) := by rw [he]
        have HNX : Hid (ltrim c (t.extract 1 t.size) = R) := by show _ = R; rw [← HT.out]; exact ltrim_eq c t hkt he
        have HSZ : Hid ((t.extract 1 t.size).size = t.size - 1) := by show _ = _; rw [ByteArray.size_extract]; omega
        clear he h0
        go_wp2
        go_round
        case rel => exact ⟨_, rfl, by have := HSZ.out; omega, HNX⟩
        case measure => have := HSZ.out; simp; omega
      · have he' : ((t[0].toNat : Int) == (c.toNat : Int)) = false := beq_false_of_ne fun h => he (UInt8.toNat_inj.1 (by omega))
        have HF : Hid (t = R) := by show t = R; rw [← HT.out]; exact (ltrim_ne c t hkt he).symm
        clear he h0
        go_wp2
        go_ret
        exact ⟨congrArg (fun v => Ending.returned (Value.string v)) HF.out, rfl⟩

set_option maxRecDepth 100000 in
set_option maxHeartbeats 800000 in
theorem trimL_any (s : ByteArray) (c : UInt8) (w : World) (hs : s.size ≤ 4611686018427387904) (hc : c.toNat < 128) :
    Calls Tryz.prog 29 #[.string s, .string ⟨#[c]⟩] w fun e w' => e = .returned (.string (ltrim c s)) ∧ w' = w := by
  have H := hide (trimByteL_any s c w hs)
  by_cases h0 : s = ⟨#[]⟩
  · have HF : Hid (ltrim c s = s) := ltrim_nil c s (by rw [h0]; rfl)
    rw [HF.out]
    subst h0
    go_enter Tryz.func29, Tryz.ntmps29
    go_wp2_with fail
    go_ret
    exact ⟨rfl, rfl⟩
  · have h1 : (s.toList == []) = false := by
      rw [ByteArray.toList_eq]
      exact beq_false_of_ne fun e => h0 (by apply ByteArray.ext; apply Array.toList_inj.1; exact e)
    have h2 : s.toList.isEmpty = false := by cases hh : s.toList with
      | nil => rw [hh] at h1; cases h1
      | cons _ _ => rfl
    have hci : (c.toNat : Int) < 128 := by omega
    have hg : ∀ h : 0 < (⟨#[c]⟩ : ByteArray).size, ((⟨#[c]⟩ : ByteArray)[0]'h).toNat = c.toNat := fun _ => rfl
    generalize ltrim c s = R at *
    clear h0
    go_enter Tryz.func29, Tryz.ntmps29
    go_wp2_with (go_at_call 47; refine H.out.mono ?_; rintro e w' ⟨rfl, rfl⟩)
    go_ret
    exact ⟨rfl, rfl⟩

end Go.Proofs.YtcpflfpgnbihiaaGreatDoor.bf

namespace Go.Proofs.YtcpflfpgnbihiaaGreatDoor.lnm
open Go.ChangeShapes Go.WideShapes Go.ChangeAt Go.RowKit Go.Proofs.YtcpflfpgnbihiaaGreatDoor.common Go.Proofs.YtcpflfpgnbihiaaGreatDoor.bk
attribute [local go_sem ↓] Go.wp_at_zero Go.wp_at_succ

def lowB (s : ByteArray) : List UInt8 := Fd.lows s.data.toList
theorem low_big {c : UInt8} (h : 65 ≤ c.toNat ∧ c.toNat ≤ 90) : (Fd.low c).toNat = c.toNat + 32 := by
  have := c.toNat_lt
  unfold Fd.low; rw [if_pos h, UInt8.toNat_add]; show (c.toNat + 32) % 256 = _; omega
theorem low_not {c : UInt8} (h : ¬ (65 ≤ c.toNat ∧ c.toNat ≤ 90)) : Fd.low c = c := by unfold Fd.low; rw [if_neg h]
theorem low_cases (c : UInt8) : (65 ≤ c.toNat ∧ c.toNat ≤ 90 ∧ (Fd.low c).toNat = c.toNat + 32) ∨ (¬ (65 ≤ c.toNat ∧ c.toNat ≤ 90) ∧ (Fd.low c).toNat = c.toNat) := by
  by_cases h : 65 ≤ c.toNat ∧ c.toNat ≤ 90
  · exact Or.inl ⟨h.1, h.2, low_big h⟩
  · exact Or.inr ⟨h, by rw [low_not h]⟩

set_option maxHeartbeats 800000 in
theorem small_any (c : UInt8) (w : World) : Calls Tryz.prog 43 #[B c] w fun e w' => e = .returned (B (Fd.low c)) ∧ w' = w := by
  have HC := hide (low_cases c)
  have hc := c.toNat_lt
  show Calls _ _ _ _ fun e w' => e = .returned (.int .u8 ((Fd.low c).toNat : Int)) ∧ w' = w
  generalize (Fd.low c).toNat = v at *
  go_enter Tryz.func43, Tryz.ntmps43
  go_wp2
  all_goals (go_ret; refine ⟨?_, rfl⟩; have := HC.out)
  all_goals first
    | (exfalso; omega)
    | (simp; omega)

theorem lowB_len (s : ByteArray) : (lowB s).length = s.size := by unfold lowB Fd.lows; simp
theorem lowB_take (s : ByteArray) (k : Nat) (h : k < s.size) : (lowB s).take (k + 1) = (lowB s).take k ++ [Fd.low s[k]] := by
  have hl : k < (lowB s).length := by rw [lowB_len]; exact h
  have e : (lowB s)[k] = Fd.low s[k] := List.getElem_map (f := Fd.low) (l := s.data.toList) (i := k) (h := hl)
  rw [List.take_succ_eq_append_getElem hl, e]
theorem low_inj {x y : UInt8} (h : x.toNat = y.toNat) : x = y := UInt8.toNat_inj.1 h

set_option maxRecDepth 100000 in
set_option maxHeartbeats 3200000 in
theorem sameName_any (a b : ByteArray) (w : World) (hs : a.size ≤ 4611686018427387904) :
    Calls Tryz.prog 26 #[.string a, .string b] w fun e w' => e = .returned (.bool (decide (lowB a = lowB b))) ∧ Below w.heap.size w w' := by
  obtain ⟨r, hr⟩ : ∃ r, decide (lowB a = lowB b) = r := ⟨_, rfl⟩
  rw [hr]
  have HR := hide hr
  clear hr
  by_cases hsz : a.size = b.size
  · have hszi : (a.size : Int) = (b.size : Int) := by omega
    go_enter Tryz.func26, Tryz.ntmps26
    go_wp2_with fail
    go_loopw [13] (fun i wr => ∃ k : Nat, k ≤ a.size ∧ i = .int .i64 k ∧ (lowB a).take k = (lowB b).take k ∧ Below w.heap.size w wr) (fun i _ => a.size - (intOf i).toNat)
    case atStart => exact ⟨0, Nat.zero_le _, rfl, rfl, Below.refl _ _⟩
    case round =>
      obtain ⟨k, hk, rfl, heq, hnx⟩ := hrel
      have HQ := hide heq
      have HX := hide hnx
      clear heq hnx
      by_cases hlt : k < a.size
      · have hltb : k < b.size := by omega
        have hki : (k : Int) < (a.size : Int) := by omega
        have hkib : (k : Int) < (b.size : Int) := by omega
        have k0 : (0 : Int) ≤ (k : Int) := Int.natCast_nonneg _
        have HTA := hide (lowB_take a k hlt)
        have HTB := hide (lowB_take b k hltb)
        by_cases hc : Fd.low a[k] = Fd.low b[k]
        · have HC := hide hc
          have hcn : ((Fd.low a[k]).toNat : Int) = ((Fd.low b[k]).toNat : Int) := by rw [hc]
          clear hc
          go_wp2_with fail
          go_region_held3 (fun _ => True) (trivial) ((go_at_call 43; refine (small_any _ _).mono ?_; rintro x w2 ⟨rfl, rfl⟩))
          all_goals
            go_wp2_with fail
            go_roundw
            case rel => exact ⟨k + 1, by omega, by go_num, by rw [HTA.out, HTB.out, HQ.out, HC.out], HX.out.drew⟩
            case measure => simp [intOf]; omega
        · have hcn : ¬ ((Fd.low a[k]).toNat : Int) = ((Fd.low b[k]).toNat : Int) := fun e => hc (low_inj (by omega))
          have HF : Hid (r = false) := by
            show r = false
            rw [← HR.out]
            refine decide_eq_false fun e => hc ?_
            have h1 := HTA.out
            rw [e, HTB.out] at h1
            have := List.append_inj_right' h1 rfl
            simpa using this.symm
          clear hc
          go_wp2_with fail
          go_region_held3 (fun _ => True) (trivial) ((go_at_call 43; refine (small_any _ _).mono ?_; rintro x w2 ⟨rfl, rfl⟩))
          all_goals
            go_wp2_with fail
            go_ret
            exact ⟨by rw [HF.out]; rfl, HX.out.drew⟩
      · obtain rfl : k = a.size := by omega
        have HF : Hid (r = true) := by
          show r = true
          rw [← HR.out]
          refine decide_eq_true ?_
          have h1 := HQ.out
          rw [List.take_of_length_le (by rw [lowB_len]; exact Nat.le_refl _), List.take_of_length_le (by rw [lowB_len]; omega)] at h1
          exact h1
        go_wp2_with fail
        go_ret
        exact ⟨by rw [HF.out]; rfl, HX.out⟩
  · have hszi : ¬ (a.size : Int) = (b.size : Int) := by omega
    have HF : Hid (r = false) := by
      show r = false
      rw [← HR.out]
      refine decide_eq_false fun e => hsz ?_
      rw [← lowB_len a, e, lowB_len]
    go_enter Tryz.func26, Tryz.ntmps26
    go_wp2_with fail
    go_ret
    exact ⟨by rw [HF.out]; rfl, Below.refl _ _⟩

end Go.Proofs.YtcpflfpgnbihiaaGreatDoor.lnm
