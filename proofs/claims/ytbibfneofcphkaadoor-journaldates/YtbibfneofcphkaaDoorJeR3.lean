import Derived.Test.YtbibfneofcphkaaDoorJeR2
namespace Go.Proofs.YtbibfneofcphkaaDoor.je
open Go.ChangeShapes Go.WideShapes Go.ChangeAt Go.RowKit Go.Proofs.YtbibfneofcphkaaDoor.common Go.Proofs.YtbibfneofcphkaaDoor.Jc Go.Proofs.YtbibfneofcphkaaDoor.jc
attribute [local go_sem ↓] Go.wp_at_zero Go.wp_at_succ

theorem cut_eq (l : List UInt8) (p : Nat) (N : List UInt8) (h3 : N.length = 3) : (((tx l).extract p (p + 3)).toList == (tx N).toList) = N.isPrefixOf (l.drop p) := by
  have e1 : ((tx l).extract p (p + 3)).toList = (l.drop p).take 3 := by
    rw [ByteArray.toList_eq, ext_list, show p + 3 - p = 3 by omega]
    simp [tx]
  have e2 : (tx N).toList = N := by rw [ByteArray.toList_eq]; simp [tx]
  rw [e1, e2, pre_take, h3]
  by_cases h : (l.drop p).take 3 = N
  · rw [decide_eq_true h, h]; simp
  · rw [decide_eq_false h]; exact beq_false_of_ne h
theorem mo_hit {l : List UInt8} {p i : Nat} (h : ∀ j, j < i → (moN.getD j []).isPrefixOf (l.drop p) = false) (hi : i < 12) (hp : (moN.getD i []).isPrefixOf (l.drop p) = true) : moS l p = i + 1 := by
  have hg : ∀ j, (hj : j < moN.length) → moN.getD j [] = moN[j] := fun j hj => by simp [hj]
  have e : moN.findIdx? (fun n => n.isPrefixOf (l.drop p)) = some i := List.findIdx?_eq_some_iff_getElem.2 ⟨hi, by rw [← hg i hi]; exact hp, fun j hj => by rw [← hg j (Nat.lt_trans hj hi), h j hj]; simp⟩
  unfold moS
  rw [e]
theorem mo_miss {l : List UInt8} {p : Nat} (h : ∀ j, j < 12 → (moN.getD j []).isPrefixOf (l.drop p) = false) : moS l p = 1 := by
  have e : moN.findIdx? (fun n => n.isPrefixOf (l.drop p)) = none := List.findIdx?_eq_none_iff.2 (fun x hx => by
    obtain ⟨j, hj, rfl⟩ := List.getElem_of_mem hx
    have := h j hj
    rwa [show moN.getD j [] = moN[j] by simp [hj]] at this)
  unfold moS
  rw [e]

set_option maxRecDepth 100000 in
set_option maxHeartbeats 3200000 in
theorem monthAt_any (l : List UInt8) (p : Nat) (hp : p ≤ 1000) (w : World) :
    Calls Tryd.prog 36 #[.string (tx l), .int .i64 (p : Int)] w fun e w' => e = .returned (.int .i64 (moS l p : Int)) ∧ Below w.heap.size w w' := by
  have HC : Hid (∀ i, i < 12 → (((tx l).extract p (p + 3)).toList == (tx (moN.getD i [])).toList) = (moN.getD i []).isPrefixOf (l.drop p)) := fun i hi => cut_eq l p _ (moN_len i hi)
  have HH : Hid (∀ i, (∀ j, j < i → (moN.getD j []).isPrefixOf (l.drop p) = false) → i < 12 → (moN.getD i []).isPrefixOf (l.drop p) = true → moS l p = i + 1) := fun i h h1 h2 => mo_hit h h1 h2
  have HM : Hid ((∀ j, j < 12 → (moN.getD j []).isPrefixOf (l.drop p) = false) → moS l p = 1) := fun h => mo_miss h
  have HN : Hid (∀ i, i < 12 → ¬ p + 3 ≤ l.length → (moN.getD i []).isPrefixOf (l.drop p) = false) := fun i hi h => pre_short _ _ (by rw [moN_len i hi, List.length_drop]; omega)
  have hs : (tx l).size = l.length := tx_size l
  obtain ⟨pf, hpf⟩ : ∃ pf : Nat → Bool, pf = fun i => (moN.getD i []).isPrefixOf (l.drop p) := ⟨_, rfl⟩
  have hpi : ∀ i, (moN.getD i []).isPrefixOf (l.drop p) = pf i := fun i => by rw [hpf]
  simp only [hpi] at HC HH HM HN
  clear hpf hpi
  generalize moS l p = R at *
  generalize tx l = S at *
  generalize l.length = n at *
  have wp3 : wrap64 ((p : Int) + 3) = (p : Int) + 3 := wrp _ ⟨by omega, by omega⟩
  go_enter Tryd.func36, Tryd.ntmps36
  go_wp2_with fail
  go_loopw [5] (fun v wr => ∃ i : Nat, v = .int .i64 ((i : Int) + 1) ∧ i ≤ 12 ∧ Hid (∀ j, j < i → pf j = false) ∧ Hid (Below w.heap.size w wr)) (fun v _ => 15 - (intOf v).toNat)
  case atStart => exact ⟨0, rfl, by omega, fun j hj => by omega, Below.refl _ _⟩
  case round =>
    obtain ⟨i, rfl, ik, HJ, HB⟩ := hrel
    by_cases hik : i < 12
    · have hii : (i : Int) + 1 ≤ 12 := by omega
      have HMO : Hid (∀ n, Calls Tryd.prog 54 #[.int .i64 ((i : Int) + 1)] (wr.drewN n) fun e w' => e = .returned (.string (tx (moN.getD i []))) ∧ w' = wr.drewN n) := fun n => month_any (i + 1) _ (by omega) (by omega)
      have Hv : Hid (Value.int .i64 (wrap64 ((i : Int) + 1 + 1)) = .int .i64 (((i + 1 : Nat) : Int) + 1)) := by show _ = _; rw [wrp _ ⟨by omega, by omega⟩]; congr 1
      by_cases hn : p + 3 ≤ n
      · have hni : (p : Int) + 3 ≤ (n : Int) := by omega
        have hnd : decide ((p : Int) + 3 ≤ (n : Int)) = true := decide_eq_true hni
        have hp0 : (0 : Int) ≤ (p : Int) := by omega
        have hp03 : (p : Int) ≤ (p : Int) + 3 := by omega
        have hcq := HC.out i hik
        cases hpf : pf i with
        | true =>
          have HX := hide (HH.out i HJ.out hik hpf)
          rw [hpf] at hcq
          clear HC HH HM HN HJ hpf
          generalize tx (moN.getD i []) = T at *
          go_wp2_with fail
          go_quiet ((go_at_call 54; exact Calls.quiet_of_same (HMO.out _)))
          go_wp2_with fail
          go_ret
          exact ⟨by rw [HX.out]; rfl, Go.Proofs.YtbibfneofcphkaaDoor.jc.below_drewN HB.out _⟩
        | false =>
          have HJ2 : Hid (∀ j, j < i + 1 → pf j = false) := fun j hj => by
            rcases Nat.lt_or_ge j i with h1 | h1
            · exact HJ.out j h1
            · rw [show j = i by omega]; exact hpf
          rw [hpf] at hcq
          clear HC HH HM HN HJ hpf
          generalize tx (moN.getD i []) = T at *
          go_wp2_with fail
          go_quiet ((go_at_call 54; exact Calls.quiet_of_same (HMO.out _)))
          go_wp2_with fail
          go_roundw
          case rel => exact ⟨i + 1, by first | exact Hv.out | go_num, by omega, HJ2, Go.Proofs.YtbibfneofcphkaaDoor.jc.below_drewN HB.out _⟩
          case measure => simp [intOf]; omega
      · have hnd : decide ((p : Int) + 3 ≤ (n : Int)) = false := decide_eq_false (by omega)
        have hni : ¬ (p : Int) + 3 ≤ (n : Int) := by omega
        have HJ2 : Hid (∀ j, j < i + 1 → pf j = false) := fun j hj => by
          rcases Nat.lt_or_ge j i with h1 | h1
          · exact HJ.out j h1
          · rw [show j = i by omega]; exact HN.out i hik hn
        clear HC HH HM HN HJ
        go_wp2_with fail
        go_quiet ((go_at_call 54; exact Calls.quiet_of_same (HMO.out _)))
        go_wp2_with fail
        go_roundw
        case rel => exact ⟨i + 1, by first | exact Hv.out | go_num, by omega, HJ2, Go.Proofs.YtbibfneofcphkaaDoor.jc.below_drewN HB.out _⟩
        case measure => simp [intOf]; omega
    · have ei : i = 12 := by omega
      have HX := hide (HM.out (fun j hj => HJ.out j (by omega)))
      have hii : ¬ ((i : Int) + 1 ≤ 12) := by omega
      clear HC HH HM HN HJ ei hik
      go_wp2_with fail
      go_ret
      exact ⟨by rw [HX.out]; rfl, HB.out⟩

set_option maxRecDepth 100000 in
set_option maxHeartbeats 3200000 in
theorem century_any (t : Int) (M L : Nat) (h1 : -300000 ≤ t) (h2 : t ≤ 300000) (hM : M ≤ 20000) (hL : L = min M 9999) (w : World) :
    Calls Tryd.prog 37 #[.int .i64 t, .int .i64 (M : Int)] w fun e w' => e = .returned (.int .i64 (cent 100 (9900 + t) L)) ∧ w' = w := by
  obtain ⟨R, hR⟩ : ∃ R, R = cent 100 (9900 + t) (L : Int) := ⟨_, rfl⟩
  rw [← hR]
  have HR := hide hR
  clear hR
  have wt : wrap64 (9900 + t) = 9900 + t := wrp _ ⟨by omega, by omega⟩
  have HL := hide hL
  clear hL
  go_enter Tryd.func37, Tryd.ntmps37
  go_wp2_with fail
  go_loopw [5, 6] (fun u v wr => ∃ (y : Int) (i : Nat), u = .int .i64 y ∧ v = .int .i64 (i : Int) ∧ i ≤ 100 ∧ Hid (R = cent (100 - i) y L) ∧ Hid (-400000 - 100 * (i : Int) ≤ y ∧ y ≤ 400000) ∧ wr = w) (fun _ v _ => 200 - (intOf v).toNat)
  case atStart => exact ⟨_, 0, rfl, rfl, by omega, HR, by show _ ∧ _; omega, rfl⟩
  case round =>
    obtain ⟨y, i, rfl, rfl, ik, HC, HB, rfl⟩ := hrel
    have hb := HB.out
    by_cases hik : i < 100
    · have hii : (i : Int) < 100 := by omega
      have hiid : decide ((i : Int) < 100) = true := decide_eq_true hii
      have Hv : Hid (Value.int .i64 (wrap64 ((i : Int) + 1)) = .int .i64 ((i + 1 : Nat) : Int)) := by show _ = _; rw [wrpN i (by omega)]; rfl
      have wy : wrap64 (y - 100) = y - 100 := wrp _ ⟨by omega, by omega⟩
      have HS : Hid (R = if (L : Int) < y then cent (100 - (i + 1)) (y - 100) L else y) := by
        show _ = _
        rw [HC.out, show 100 - i = 100 - (i + 1) + 1 by omega]
        rfl
      by_cases hy : (M : Int) < y
      · have hyd : decide ((M : Int) < y) = true := decide_eq_true hy
        have HS2 : Hid (R = cent (100 - (i + 1)) (y - 100) L) := by show _ = _; rw [HS.out, if_pos (by have := HL.out; omega)]
        have HB2 : Hid (-400000 - 100 * ((i + 1 : Nat) : Int) ≤ y - 100 ∧ y - 100 ≤ 400000) := by show _ ∧ _; omega
        clear HS HC HB hb
        go_wp2_with fail
        go_roundw
        case rel => exact ⟨y - 100, i + 1, by first | rfl | go_num, by first | exact Hv.out | go_num, by omega, HS2, HB2, by first | trivial | rfl⟩
        case measure => simp [intOf]; omega
      · have hyd : decide ((M : Int) < y) = false := decide_eq_false hy
        by_cases hz : 9999 < y
        · have hzd : decide (9999 < y) = true := decide_eq_true hz
          have HS2 : Hid (R = cent (100 - (i + 1)) (y - 100) L) := by show _ = _; rw [HS.out, if_pos (by have := HL.out; omega)]
          have HB2 : Hid (-400000 - 100 * ((i + 1 : Nat) : Int) ≤ y - 100 ∧ y - 100 ≤ 400000) := by show _ ∧ _; omega
          clear HS HC HB hb
          go_wp2_with fail
          go_roundw
          case rel => exact ⟨y - 100, i + 1, by first | rfl | go_num, by first | exact Hv.out | go_num, by omega, HS2, HB2, by first | trivial | rfl⟩
          case measure => simp [intOf]; omega
        · have hzd : decide (9999 < y) = false := decide_eq_false hz
          have HS2 : Hid (R = y) := by show _ = _; rw [HS.out, if_neg (by have := HL.out; omega)]
          clear HS HC HB hb
          go_wp2_with fail
          go_ret
          exact ⟨by rw [HS2.out]; rfl, rfl⟩
    · have ei : i = 100 := by omega
      have hii : ¬ ((i : Int) < 100) := by omega
      have hiid : decide ((i : Int) < 100) = false := decide_eq_false hii
      have HS2 : Hid (R = y) := by show _ = _; rw [HC.out, ei]; rfl
      clear HC HB hb ei hik
      go_wp2_with fail
      go_ret
      exact ⟨by rw [HS2.out]; rfl, rfl⟩
end Go.Proofs.YtbibfneofcphkaaDoor.je
