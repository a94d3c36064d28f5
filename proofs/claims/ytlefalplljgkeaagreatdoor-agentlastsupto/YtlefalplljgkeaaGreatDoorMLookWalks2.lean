import Derived.Test.YtlefalplljgkeaaGreatDoorMLookWalks
import Derived.Test.YtlefalplljgkeaaGreatDoorMAgMath
namespace Go.Proofs.YtlefalplljgkeaaGreatDoor.lst
open Go.ChangeShapes Go.WideShapes Go.ChangeAt Go.RowKit Go.Proofs.YtlefalplljgkeaaGreatDoor.common
attribute [local go_sem ↓] Go.wp_at_zero Go.wp_at_succ

theorem lowB_len (s : ByteArray) : (lowB s).length = s.size := by unfold lowB Fd.lows; simp
theorem lowB_take (s : ByteArray) (k : Nat) (h : k < s.size) : (lowB s).take (k + 1) = (lowB s).take k ++ [Fd.low s[k]] := by
  have hl : k < (lowB s).length := by rw [lowB_len]; exact h
  have e : (lowB s)[k] = Fd.low s[k] := List.getElem_map (f := Fd.low) (l := s.data.toList) (i := k) (h := hl)
  rw [List.take_succ_eq_append_getElem hl, e]
/-- a text with small letters -/
def lowS (s : ByteArray) : ByteArray := ⟨(lowB s).toArray⟩
theorem lowS_iff (a b : ByteArray) : lowS a = lowS b ↔ lowB a = lowB b := by
  constructor
  · intro e
    have := congrArg (fun x : ByteArray => x.data.toList) e
    simpa [lowS] using this
  · intro e; unfold lowS; rw [e]
theorem low_inj {x y : UInt8} (h : x.toNat = y.toNat) : x = y := UInt8.toNat_inj.1 h

set_option maxRecDepth 100000 in
set_option maxHeartbeats 3200000 in
theorem sameName_any (a b : ByteArray) (w : World) (hs : a.size ≤ 4611686018427387904) :
    Calls Tryz.prog 23 #[.string a, .string b] w fun e w' => e = .returned (.bool (decide (lowB a = lowB b))) ∧ Below w.heap.size w w' := by
  obtain ⟨r, hr⟩ : ∃ r, decide (lowB a = lowB b) = r := ⟨_, rfl⟩
  rw [hr]
  have HR := hide hr
  clear hr
  by_cases hsz : a.size = b.size
  · have hszi : (a.size : Int) = (b.size : Int) := by omega
    go_enter Tryz.func23, Tryz.ntmps23
    go_wp2_with fail
    go_loopw [13] (fun i wr => ∃ k : Nat, k ≤ a.size ∧ i = .int .i64 k ∧ (lowB a).take k = (lowB b).take k ∧ Below w.heap.size w wr) (fun i _ => a.size - (intOf i).toNat)
    case atStart => exact ⟨0, Nat.zero_le _, rfl, rfl, Below.refl _ _⟩
    case round =>
      obtain ⟨k, hk, rfl, heq, hnx⟩ := hrel
      have HQ := hide heq
      have HX := hide hnx
      clear heq hnx
      by_cases hlt : k < a.size
      · have hltb : k < b.size := by omega
        have hki : (k : Int) < (a.size : Int) := by omega
        have hkib : (k : Int) < (b.size : Int) := by omega
        have k0 : (0 : Int) ≤ (k : Int) := Int.natCast_nonneg _
        have HTA := hide (lowB_take a k hlt)
        have HTB := hide (lowB_take b k hltb)
        by_cases hc : Fd.low a[k] = Fd.low b[k]
        · have HC := hide hc
          have hcn : ((Fd.low a[k]).toNat : Int) = ((Fd.low b[k]).toNat : Int) := by rw [hc]
          clear hc
          go_wp2_with fail
          go_region_held3 (fun _ => True) (trivial) ((go_at_call 39; refine (small_any _ _).mono ?_; rintro x w2 ⟨rfl, rfl⟩))
          all_goals
            go_wp2_with fail
            go_roundw
            case rel => exact ⟨k + 1, by omega, by go_num, by rw [HTA.out, HTB.out, HQ.out, HC.out], HX.out.drew⟩
            case measure => simp [intOf]; omega
        · have hcn : ¬ ((Fd.low a[k]).toNat : Int) = ((Fd.low b[k]).toNat : Int) := fun e => hc (low_inj (by omega))
          have HF : Hid (r = false) := by
            show r = false
            rw [← HR.out]
            refine decide_eq_false fun e => hc ?_
            have h1 := HTA.out
            rw [e, HTB.out] at h1
            have := List.append_inj_right' h1 rfl
            simpa using this.symm
          clear hc
          go_wp2_with fail
          go_region_held3 (fun _ => True) (trivial) ((go_at_call 39; refine (small_any _ _).mono ?_; rintro x w2 ⟨rfl, rfl⟩))
          all_goals
            go_wp2_with fail
            go_ret
            exact ⟨by rw [HF.out]; rfl, HX.out.drew⟩
      · obtain rfl : k = a.size := by omega
        have HF : Hid (r = true) := by
          show r = true
          rw [← HR.out]
          refine decide_eq_true ?_
          have h1 := HQ.out
          rw [List.take_of_length_le (by rw [lowB_len]; exact Nat.le_refl _), List.take_of_length_le (by rw [lowB_len]; omega)] at h1
          exact h1
        go_wp2_with fail
        go_ret
        exact ⟨by rw [HF.out]; rfl, HX.out⟩
  · have hszi : ¬ (a.size : Int) = (b.size : Int) := by omega
    have HF : Hid (r = false) := by
      show r = false
      rw [← HR.out]
      refine decide_eq_false fun e => hsz ?_
      rw [← lowB_len a, e, lowB_len]
    go_enter Tryz.func23, Tryz.ntmps23
    go_wp2_with fail
    go_ret
    exact ⟨by rw [HF.out]; rfl, Below.refl _ _⟩

set_option maxRecDepth 100000 in
set_option maxHeartbeats 3200000 in
theorem look_any (v : Value) (l : List PB) (n : ByteArray) (w : World) (hl : Lies w v l) (hs : l.length ≤ 4611686018427387904) (hn : ∀ p ∈ l, p.1.size ≤ 140737488355328) :
    Calls Tryz.prog 11 #[v, .string n] w fun e w' => e = .returned (.tuple #[.string (lookOf l (lowB n)).1, .int .i64 ((lookOf l (lowB n)).2 : Int)]) ∧ Below w.heap.size w w' := by
  obtain ⟨oa, ca, rfl, hca⟩ := hl
  have HA := hide hca
  have HN := hide hn
  clear hca hn
  go_enter Tryz.func11, Tryz.ntmps11
  go_wp2_with fail
  go_loopw [6, 7, 12] (fun f c i wr => ∃ k : Nat, k ≤ l.length ∧ i = .int .i64 k ∧ f = .string (lookOf (l.take k) (lowB n)).1 ∧ c = .int .i64 ((lookOf (l.take k) (lowB n)).2 : Int) ∧ Below w.heap.size w wr) (fun _ _ i _ => l.length - (intOf i).toNat)
  case atStart => exact ⟨0, Nat.zero_le _, rfl, rfl, rfl, Below.refl _ _⟩
  case round =>
    obtain ⟨k, hk, rfl, rfl, rfl, hnx⟩ := hrel
    have hsz := hnx.size
    have hle := lookOf_le (l.take k) (lowB n)
    have hle2 : (l.take k).length ≤ k := by rw [List.length_take]; exact Nat.min_le_left _ _
    by_cases hlt : k < l.length
    · have hki : (k : Int) < (l.length : Int) := by omega
      obtain ⟨b, o, rfl, hb, c0, c1⟩ := HA.out k hlt
      have d0 := (hnx.cell (p := ⟨b, o + k * 2, none⟩) hb).trans c0
      have d1 := (hnx.cell (p := ⟨b, o + k * 2 + 1, none⟩) hb).trans c1
      have HSN : Hid (lookOf (l.take (k + 1)) (lowB n) = step (lowB n) (lookOf (l.take k) (lowB n)) l[k]) := by show _ = _; rw [takeP l k hlt, lookOf_snoc]
      have HX := hide hnx
      have HPN : Hid (l[k].1.size ≤ 140737488355328) := HN.out _ (List.getElem_mem hlt)
      clear hnx c0 c1
      have HB := hide hb
      generalize l[k] = p at *
      obtain ⟨pn, pv⟩ := p
      generalize lookOf (l.take k) (lowB n) = a at *
      obtain ⟨af, ac⟩ := a
      simp only [] at d0 d1 hle HPN ⊢
      have k0 : (0 : Int) ≤ (k : Int) := Int.natCast_nonneg _
      go_wp2_with fail
      refine (sameName_any pn n _ (by have := HPN.out; omega)).mono ?_
      rintro x w2 ⟨rfl, hb2⟩
      have d1' : w2.cell? ⟨wr.heap.size, 1, none⟩ = some (.string pv) := (hb2.cell (by simp)).trans (range_new wr _ _ 1 _ rfl)
      have HX2 := hide (bk.keepD (HX.out.alloc hsz _) hb2)
      clear hb2 d0 d1
      by_cases h1 : lowB pn = lowB n
      · have HS : Hid (lookOf (l.take (k + 1)) (lowB n) = (if ac = 0 then pv else af, ac + 1)) := by show _ = _; rw [HSN.out]; unfold step; rw [if_pos h1]
        rw [decide_eq_true h1]
        by_cases h3 : ac = 0
        · subst h3
          rw [if_pos rfl] at HS
          go_wp2_with fail
          go_roundw
          case rel => exact ⟨k + 1, by omega, by go_num, by rw [HS.out], by rw [HS.out]; rfl, HX2.out⟩
          case measure => simp [intOf]; omega
        · have h3i : ¬ (ac : Int) = 0 := by omega
          rw [if_neg h3] at HS
          go_wp2_with fail
          go_roundw
          case rel => exact ⟨k + 1, by omega, by go_num, by rw [HS.out], by rw [HS.out]; rfl, HX2.out⟩
          case measure => simp [intOf]; omega
      · have HS : Hid (lookOf (l.take (k + 1)) (lowB n) = (af, ac)) := by show _ = _; rw [HSN.out]; unfold step; rw [if_neg h1]
        rw [decide_eq_false h1]
        go_wp2_with fail
        go_roundw
        case rel => exact ⟨k + 1, by omega, by go_num, by rw [HS.out], by rw [HS.out], HX2.out⟩
        case measure => simp [intOf]; omega
    · obtain rfl : k = l.length := by omega
      rw [List.take_length]
      have H2 := hide hnx
      clear hnx
      go_wp2_with fail
      go_ret2
      exact ⟨rfl, H2.out⟩

end Go.Proofs.YtlefalplljgkeaaGreatDoor.lst
