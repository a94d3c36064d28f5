import Derived.Test.YtpadnllngbjbnaaDoorReasonM
namespace Go.Proofs.YtpadnllngbjbnaaDoor.rp
open Go.ChangeShapes Go.WideShapes Go.ChangeAt Go.RowKit Go.Proofs.YtpadnllngbjbnaaDoor.common
attribute [local go_sem ↓] Go.wp_at_zero Go.wp_at_succ

set_option maxRecDepth 100000 in
set_option maxHeartbeats 800000 in
theorem rarer_any (n : Int) (w : World) (h0 : ∀ k ∈ [200, 302, 303, 400, 401, 403, 404, 405], n ≠ k) :
    Calls Tryd.prog 6 #[.int .i64 n] w fun e w' => e = .returned (S (reasonL n)) ∧ w' = w := by
  by_cases h413 : n = 413
  · subst h413
    go_enter Tryd.func6, Tryd.ntmps6
    go_wp2_with fail
    go_ret
    exact ⟨rfl, rfl⟩
  by_cases h415 : n = 415
  · subst h415
    go_enter Tryd.func6, Tryd.ntmps6
    go_wp2_with fail
    go_ret
    exact ⟨rfl, rfl⟩
  by_cases h417 : n = 417
  · subst h417
    go_enter Tryd.func6, Tryd.ntmps6
    go_wp2_with fail
    go_ret
    exact ⟨rfl, rfl⟩
  by_cases h429 : n = 429
  · subst h429
    go_enter Tryd.func6, Tryd.ntmps6
    go_wp2_with fail
    go_ret
    exact ⟨rfl, rfl⟩
  by_cases h431 : n = 431
  · subst h431
    go_enter Tryd.func6, Tryd.ntmps6
    go_wp2_with fail
    go_ret
    exact ⟨rfl, rfl⟩
  by_cases h500 : n = 500
  · subst h500
    go_enter Tryd.func6, Tryd.ntmps6
    go_wp2_with fail
    go_ret
    exact ⟨rfl, rfl⟩
  by_cases h501 : n = 501
  · subst h501
    go_enter Tryd.func6, Tryd.ntmps6
    go_wp2_with fail
    go_ret
    exact ⟨rfl, rfl⟩
  by_cases h503 : n = 503
  · subst h503
    go_enter Tryd.func6, Tryd.ntmps6
    go_wp2_with fail
    go_ret
    exact ⟨rfl, rfl⟩
  by_cases h505 : n = 505
  · subst h505
    go_enter Tryd.func6, Tryd.ntmps6
    go_wp2_with fail
    go_ret
    exact ⟨rfl, rfl⟩
  have HR : Hid (reasonL n = []) := by
    have hf : tabR.find? (fun p => p.1 == n) = none := by
      rw [List.find?_eq_none]
      intro p hp
      simp only [tabR, List.mem_cons, List.not_mem_nil, or_false] at hp
      simp only [List.mem_cons, List.not_mem_nil, or_false, forall_eq_or_imp, forall_eq] at h0
      obtain ⟨a1, a2, a3, a4, a5, a6, a7, a8⟩ := h0
      rcases hp with rfl | rfl | rfl | rfl | rfl | rfl | rfl | rfl | rfl | rfl | rfl | rfl | rfl | rfl | rfl | rfl | rfl <;> simp <;> omega
    show _ = _
    unfold reasonL
    rw [hf]; rfl
  clear h0
  go_enter Tryd.func6, Tryd.ntmps6
  go_wp2_with fail
  go_ret
  exact ⟨by rw [HR.out]; rfl, rfl⟩

set_option maxRecDepth 100000 in
set_option maxHeartbeats 800000 in
theorem refReason_any (n : Int) (w : World) :
    Calls Tryd.prog 5 #[.int .i64 n] w fun e w' => e = .returned (S (reasonL n)) ∧ w' = w := by
  by_cases h200 : n = 200
  · subst h200
    go_enter Tryd.func5, Tryd.ntmps5
    go_wp2_with fail
    go_ret
    exact ⟨rfl, rfl⟩
  by_cases h302 : n = 302
  · subst h302
    go_enter Tryd.func5, Tryd.ntmps5
    go_wp2_with fail
    go_ret
    exact ⟨rfl, rfl⟩
  by_cases h303 : n = 303
  · subst h303
    go_enter Tryd.func5, Tryd.ntmps5
    go_wp2_with fail
    go_ret
    exact ⟨rfl, rfl⟩
  by_cases h400 : n = 400
  · subst h400
    go_enter Tryd.func5, Tryd.ntmps5
    go_wp2_with fail
    go_ret
    exact ⟨rfl, rfl⟩
  by_cases h401 : n = 401
  · subst h401
    go_enter Tryd.func5, Tryd.ntmps5
    go_wp2_with fail
    go_ret
    exact ⟨rfl, rfl⟩
  by_cases h403 : n = 403
  · subst h403
    go_enter Tryd.func5, Tryd.ntmps5
    go_wp2_with fail
    go_ret
    exact ⟨rfl, rfl⟩
  by_cases h404 : n = 404
  · subst h404
    go_enter Tryd.func5, Tryd.ntmps5
    go_wp2_with fail
    go_ret
    exact ⟨rfl, rfl⟩
  by_cases h405 : n = 405
  · subst h405
    go_enter Tryd.func5, Tryd.ntmps5
    go_wp2_with fail
    go_ret
    exact ⟨rfl, rfl⟩
  have HR := hide (rarer_any n w (by simp [*]))
  generalize reasonL n = R at *
  go_enter Tryd.func5, Tryd.ntmps5
  go_wp2_with (go_at_call 6; refine HR.out.mono ?_; rintro x w2 ⟨rfl, rfl⟩)
  go_ret
  exact ⟨rfl, rfl⟩

theorem sizeT : (Tryd.prog.info? 26).map (·.size) = some cellsL.length := by rw [cells_len]; kernel_rfl
theorem sizeS : (Tryd.prog.info? 25).map (·.size) = some 2 := by kernel_rfl

set_option maxRecDepth 100000 in
theorem index_tab : ∀ k : Nat, k < 17 → ∀ w : World, (Instr.index 26 (.agg cellsL.toArray) (.int .i64 (k : Int))).run Tryd.prog w = .ok (.agg #[.int .i64 (tN k), S (tS k)]) w := by
  intro k h w
  match k, h with
  | 0, _ => rfl
  | 1, _ => rfl
  | 2, _ => rfl
  | 3, _ => rfl
  | 4, _ => rfl
  | 5, _ => rfl
  | 6, _ => rfl
  | 7, _ => rfl
  | 8, _ => rfl
  | 9, _ => rfl
  | 10, _ => rfl
  | 11, _ => rfl
  | 12, _ => rfl
  | 13, _ => rfl
  | 14, _ => rfl
  | 15, _ => rfl
  | 16, _ => rfl
  | k + 17, h => omega

set_option maxRecDepth 100000 in
set_option maxHeartbeats 1600000 in
theorem reason_any (n : Int) (w : World) (h : Stat w) :
    Calls Tryd.prog 4 #[.int .i64 n] w fun e w' => e = .returned (S (reasonL n)) ∧ Below w.heap.size w w' := by
  have HS := hide h
  clear h
  go_enter Tryd.func4, Tryd.ntmps4
  go_wp2_with (refine wpList_load_mid rfl 26 _ rfl 0 0 rfl cellsL _ HS.out Tryd.underlying26 rfl sizeT ?_)
  go_loopw [6] (fun i wr => ∃ k : Nat, k ≤ 17 ∧ i = .int .i64 k ∧ reasonL n = (((tabR.drop k).find? fun p => p.1 == n).map (·.2)).getD [] ∧ Below w.heap.size w wr) (fun i _ => 17 - (intOf i).toNat)
  case atStart => exact ⟨0, Nat.zero_le _, rfl, rfl, Below.refl _ _⟩
  case round =>
    obtain ⟨k, hk, rfl, hr, hb⟩ := hrel
    have HB := hide hb
    have HR := hide hr
    clear hb hr
    by_cases hlt : k < 17
    · have hki : (k : Int) < (17 : Int) := by omega
      have hix := index_tab k hlt
      have HF := hide (find_step n k hlt)
      generalize cellsL.toArray = C at *
      generalize htn : tN k = N at *
      generalize tS k = T at *
      by_cases hn : N = n
      · have HQ : Hid (reasonL n = T) := by
          show _ = _
          rw [HR.out, HF.out, if_pos hn]; rfl
        go_wp2_with fail
        go_ret
        exact ⟨by rw [HQ.out]; rfl, HB.out.alloc (HB.out.size) _⟩
      · have HQ : Hid (reasonL n = (((tabR.drop (k + 1)).find? fun p => p.1 == n).map (·.2)).getD []) := by
          show _ = _
          rw [HR.out, HF.out, if_neg hn]
        go_wp2_with fail
        go_roundw
        case rel => exact ⟨k + 1, by omega, by go_num, HQ.out, HB.out.alloc (HB.out.size) _⟩
        case measure => simp [intOf]; omega
    · obtain rfl : k = 17 := by omega
      have HQ : Hid (reasonL n = []) := by
        show _ = _
        rw [HR.out]; rfl
      go_wp2_with fail
      go_ret
      exact ⟨by rw [HQ.out]; rfl, HB.out⟩

theorem Stat.below {w w' : World} (h : Stat w) (hb : Below w.heap.size w w') : Stat w' := fun j v hv => by
  have := h j v hv
  exact (hb.cell (World.block_lt_of_cell? w _ this)).trans this

set_option maxRecDepth 100000 in
set_option maxHeartbeats 1600000 in
theorem lawReason (n : Int) (w : World) (h : Stat w) :
    Calls Tryd.prog 3 #[.int .i64 n] w fun e w' => e = .returned (.bool true) ∧ Below w.heap.size w w' := by
  have HA : Hid (∀ (m : Int) (W : World), Below w.heap.size w W → Calls Tryd.prog 4 #[.int .i64 m] W fun e w' => e = .returned (S (reasonL m)) ∧ Below W.heap.size W w') := fun m W hW => reason_any m W (h.below hW)
  have HD : Hid (∀ (m : Int) (W : World), Calls Tryd.prog 5 #[.int .i64 m] W fun e w' => e = .returned (S (reasonL m)) ∧ w' = W) := refReason_any
  clear h
  have H0 := hide (HA.out n w (Below.refl _ _))
  have H1 := hide (HD.out n)
  generalize reasonL n = R0 at H0 H1
  go_enter Tryd.func3, Tryd.ntmps3
  go_wp2_with (first
    | (go_at_call 4; refine H0.out.mono ?_; rintro x w1 ⟨rfl, hb1⟩)
    | (go_at_call 5; refine (H1.out _).mono ?_; rintro x w2 ⟨rfl, rfl⟩))
  have HB1 := hide hb1
  clear hb1 H0 H1
  go_loopw [3, 4, 5] (fun _ _ i wr => ∃ k : Nat, k ≤ 520 ∧ i = .int .i64 k ∧ Below w.heap.size w wr) (fun _ _ i _ => 520 - (intOf i).toNat)
  case atStart => exact ⟨190, by omega, rfl, HB1.out⟩
  case round =>
    obtain ⟨k, hk, rfl, hb⟩ := hrel
    have HB := hide hb
    clear hb HB1
    by_cases hlt : k < 520
    · have hki : (k : Int) < (520 : Int) := by omega
      have H0 := hide (HA.out k wr HB.out)
      have H1 := hide (HD.out k)
      generalize reasonL k = R1 at H0 H1
      go_wp2_with (first
        | (go_at_call 4; refine H0.out.mono ?_; rintro x w1 ⟨rfl, hb1⟩)
        | (go_at_call 5; refine (H1.out _).mono ?_; rintro x w2 ⟨rfl, rfl⟩))
      go_roundw
      case rel => exact ⟨k + 1, by omega, by go_num, HB.out.trans (hb1.mono HB.out.size)⟩
      case measure => simp [intOf]; omega
    · obtain rfl : k = 520 := by omega
      go_wp2_with fail
      go_ret
      exact ⟨rfl, HB.out⟩
end Go.Proofs.YtpadnllngbjbnaaDoor.rp
