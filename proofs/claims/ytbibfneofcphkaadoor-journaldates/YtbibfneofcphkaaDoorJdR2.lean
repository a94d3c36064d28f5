import Derived.Test.YtbibfneofcphkaaDoorJdR1
namespace Go.Proofs.YtbibfneofcphkaaDoor.jc
open Go.ChangeShapes Go.WideShapes Go.ChangeAt Go.RowKit Go.Proofs.YtbibfneofcphkaaDoor.common Go.Proofs.YtbibfneofcphkaaDoor.Jc

set_option maxRecDepth 100000 in
set_option maxHeartbeats 1600000 in
theorem start_any (y : Nat) (w : World) (h0 : 1970 ≤ y) (h1 : y ≤ 9999) : Calls Tryd.prog 29 #[.int .i64 (y : Int)] w fun e w' => e = .returned (.int .i64 (yb y : Int)) ∧ w' = w := by
  go_enter Tryd.func29, Tryd.ntmps29
  go_wp2_with fail
  go_loopw [3, 4] (fun u v wr => ∃ n z : Nat, u = .int .i64 (n : Int) ∧ v = .int .i64 (z : Int) ∧ 1970 ≤ z ∧ z ≤ y ∧ Hid (n = yb z) ∧ wr = w) (fun _ v _ => 10000 - (intOf v).toNat)
  case atStart => exact ⟨0, 1970, rfl, rfl, by omega, h0, yb_first.symm, rfl⟩
  case round =>
    obtain ⟨n, z, rfl, rfl, z0, z1, HN, rfl⟩ := hrel
    by_cases hz : z < y
    · have hzi : (z : Int) < (y : Int) := by omega
      have HD := hide (refDaysOf_any z wr)
      have HN2 : Hid (n + yl z = yb (z + 1)) := by show _ = _; rw [yb_succ z z0, HN.out]
      have hn : n ≤ 366 * z := by rw [HN.out]; exact yb_most z
      have hyl := yl_two z
      have Hv : Hid (Value.int .i64 (wrap64 ((n : Int) + (yl z : Int))) = .int .i64 ((n + yl z : Nat) : Int)) := by
        show _ = _
        have : n + yl z ≤ 1000000000 := by omega
        clear hyl
        rw [wrp _ ⟨by omega, by omega⟩]; rfl
      have Hv2 : Hid (Value.int .i64 (wrap64 ((z : Int) + 1)) = .int .i64 ((z + 1 : Nat) : Int)) := by show _ = _; rw [wrpN z (by omega)]; rfl
      have HZ : Hid (z + 1 ≤ y) := hz
      clear HN hn hyl hz
      generalize yl z = q at *
      go_wp2_with fail
      refine HD.out.mono ?_
      rintro x w1 ⟨rfl, rfl⟩
      go_wp2_with fail
      go_roundw
      case rel => exact ⟨n + q, z + 1, by first | exact Hv.out | go_num, by first | exact Hv2.out | go_num, by omega, HZ.out, HN2, by trivial⟩
      case measure => have := HZ.out; simp [intOf]; omega
    · have ez : z = y := by omega
      subst ez
      clear hz
      have hzi : ¬ ((z : Int) < (z : Int)) := by omega
      go_wp2_with fail
      go_ret
      exact ⟨by rw [HN.out]; rfl, rfl⟩

set_option maxRecDepth 100000 in
set_option maxHeartbeats 6400000 in
theorem refSeconds_no1 (a b c d e f g : Int) (w : World) (hT : RTab w) (hm : momB a b c d e f = false) : Calls Tryd.prog 19 #[dI a b c d e f g] w fun q w' => q = .returned (.tuple #[.int .i64 0, .int .i64 1]) ∧ Below w.heap.size w w' := by
  obtain ⟨V, hW⟩ : ∃ V, V = (w.alloc (.cells #[.int .i64 a, .int .i64 b, .int .i64 c, .int .i64 d, .int .i64 e, .int .i64 f, .int .i64 g] 24)) := ⟨_, rfl⟩
  have BA : Below w.heap.size w V := by rw [hW]; exact (Below.refl _ _).alloc (Nat.le_refl _) _
  have hsz : w.heap.size < V.heap.size := by rw [hW, World.size_alloc]; omega
  have hc := cells7 w a b c d e f g
  rw [← hW] at hc
  obtain ⟨fc, hf, hg⟩ := rc.class_of V
  have r0 : ∀ n, (fc n).cell? ⟨w.heap.size, 0, none⟩ = some (.int .i64 a) := fun n => ((hf n).cell (p := ⟨w.heap.size, 0, none⟩) hsz).trans (hc 0 (by decide))
  have r1 : ∀ n, (fc n).cell? ⟨w.heap.size, 1, none⟩ = some (.int .i64 b) := fun n => ((hf n).cell (p := ⟨w.heap.size, 1, none⟩) hsz).trans (hc 1 (by decide))
  have r2 : ∀ n, (fc n).cell? ⟨w.heap.size, 2, none⟩ = some (.int .i64 c) := fun n => ((hf n).cell (p := ⟨w.heap.size, 2, none⟩) hsz).trans (hc 2 (by decide))
  have r3 : ∀ n, (fc n).cell? ⟨w.heap.size, 3, none⟩ = some (.int .i64 d) := fun n => ((hf n).cell (p := ⟨w.heap.size, 3, none⟩) hsz).trans (hc 3 (by decide))
  have r4 : ∀ n, (fc n).cell? ⟨w.heap.size, 4, none⟩ = some (.int .i64 e) := fun n => ((hf n).cell (p := ⟨w.heap.size, 4, none⟩) hsz).trans (hc 4 (by decide))
  have r5 : ∀ n, (fc n).cell? ⟨w.heap.size, 5, none⟩ = some (.int .i64 f) := fun n => ((hf n).cell (p := ⟨w.heap.size, 5, none⟩) hsz).trans (hc 5 (by decide))
  have r6 : ∀ n, (fc n).cell? ⟨w.heap.size, 6, none⟩ = some (.int .i64 g) := fun n => ((hf n).cell (p := ⟨w.heap.size, 6, none⟩) hsz).trans (hc 6 (by decide))
  have HB0 := hide (fun n => keepW BA (hf n) (Nat.le_of_lt hsz))
  have HW0 := hide hW
  have HD : Hid (V.drew = fc V.drew) := (hg _ (Below.refl _ _).drew).symm
  have HTC : Hid (∀ n, RTab (fc n)) := fun n => (hT.fr BA).fr (hf n)
  haveI : Nonempty World := ⟨w⟩
  have HDI : Hid (¬ a < 1970 → ¬ b < 1 → ¬ 12 < b → ∀ n, Calls Tryd.prog 32 #[.int .i64 a, .int .i64 b] (fc n) fun q w' => q = .returned (.int .i64 (md a.toNat b.toNat : Int)) ∧ ∃ m, w' = fc m) := fun h1 h2 h3 n => by
    have h := (refDaysIn_any a.toNat b.toNat (fc n) (HTC.out n) (by omega) (by omega)).mono (fun _ w1 h => (⟨h.1, n, h.2⟩ : _ ∧ ∃ m, w1 = fc m))
    have ea : ((a.toNat : Nat) : Int) = a := by omega
    have eb : ((b.toNat : Nat) : Int) = b := by omega
    rw [ea, eb] at h
    exact h
  have HM : Hid (momB a b c d e f = (inB a 1970 9999 && (inB b 1 12 && (inB c 1 (md a.toNat b.toNat) && (inB d 0 23 && (inB e 0 59 && inB f 0 59)))))) := rfl
  rw [hm] at HM
  clear hW BA hc hT hf hg hsz HTC hm
  unfold dI
  by_cases h0 : a < 1970
  · have k0 : decide (a < 1970) = true := decide_eq_true h0
    clear HDI HM h0
    go_enter Tryd.func19, Tryd.ntmps19
    go_wp2_with fail
    rw [← HW0.out]
    try simp only [List.append_eq, List.cons_append, List.nil_append]
    refine rc.wp_region_cls fc (by kernel_rfl) (by kernel_rfl) _ HD.out ?_
    repeat (go_big_quiet_step (fail))
    refine wpQuiet_nil ?_
    rintro _ ⟨nq, rfl⟩
    go_wp2_with fail
    go_ret2
    exact ⟨rfl, HB0.out nq⟩
  · by_cases h1 : 9999 < a
    · have k0 : decide (a < 1970) = false := decide_eq_false h0
      have k1 : decide (9999 < a) = true := decide_eq_true h1
      clear HDI HM h0 h1
      go_enter Tryd.func19, Tryd.ntmps19
      go_wp2_with fail
      rw [← HW0.out]
      try simp only [List.append_eq, List.cons_append, List.nil_append]
      refine rc.wp_region_cls fc (by kernel_rfl) (by kernel_rfl) _ HD.out ?_
      repeat (go_big_quiet_step (fail))
      refine wpQuiet_nil ?_
      rintro _ ⟨nq, rfl⟩
      go_wp2_with fail
      go_ret2
      exact ⟨rfl, HB0.out nq⟩
    · by_cases h2 : b < 1
      · have k0 : decide (a < 1970) = false := decide_eq_false h0
        have k1 : decide (9999 < a) = false := decide_eq_false h1
        have k2 : decide (b < 1) = true := decide_eq_true h2
        clear HDI HM h0 h1 h2
        go_enter Tryd.func19, Tryd.ntmps19
        go_wp2_with fail
        rw [← HW0.out]
        try simp only [List.append_eq, List.cons_append, List.nil_append]
        refine rc.wp_region_cls fc (by kernel_rfl) (by kernel_rfl) _ HD.out ?_
        repeat (go_big_quiet_step (fail))
        refine wpQuiet_nil ?_
        rintro _ ⟨nq, rfl⟩
        go_wp2_with fail
        go_ret2
        exact ⟨rfl, HB0.out nq⟩
      · by_cases h3 : 12 < b
        · have k0 : decide (a < 1970) = false := decide_eq_false h0
          have k1 : decide (9999 < a) = false := decide_eq_false h1
          have k2 : decide (b < 1) = false := decide_eq_false h2
          have k3 : decide (12 < b) = true := decide_eq_true h3
          clear HDI HM h0 h1 h2 h3
          go_enter Tryd.func19, Tryd.ntmps19
          go_wp2_with fail
          rw [← HW0.out]
          try simp only [List.append_eq, List.cons_append, List.nil_append]
          refine rc.wp_region_cls fc (by kernel_rfl) (by kernel_rfl) _ HD.out ?_
          repeat (go_big_quiet_step (fail))
          refine wpQuiet_nil ?_
          rintro _ ⟨nq, rfl⟩
          go_wp2_with fail
          go_ret2
          exact ⟨rfl, HB0.out nq⟩
        · by_cases h4 : c < 1
          · have k0 : decide (a < 1970) = false := decide_eq_false h0
            have k1 : decide (9999 < a) = false := decide_eq_false h1
            have k2 : decide (b < 1) = false := decide_eq_false h2
            have k3 : decide (12 < b) = false := decide_eq_false h3
            have k4 : decide (c < 1) = true := decide_eq_true h4
            clear HDI HM h0 h1 h2 h3 h4
            go_enter Tryd.func19, Tryd.ntmps19
            go_wp2_with fail
            rw [← HW0.out]
            try simp only [List.append_eq, List.cons_append, List.nil_append]
            refine rc.wp_region_cls fc (by kernel_rfl) (by kernel_rfl) _ HD.out ?_
            repeat (go_big_quiet_step (fail))
            refine wpQuiet_nil ?_
            rintro _ ⟨nq, rfl⟩
            go_wp2_with fail
            go_ret2
            exact ⟨rfl, HB0.out nq⟩
          · by_cases h5 : (md a.toNat b.toNat : Int) < c
            · have k0 : decide (a < 1970) = false := decide_eq_false h0
              have k1 : decide (9999 < a) = false := decide_eq_false h1
              have k2 : decide (b < 1) = false := decide_eq_false h2
              have k3 : decide (12 < b) = false := decide_eq_false h3
              have k4 : decide (c < 1) = false := decide_eq_false h4
              have k5 : decide ((md a.toNat b.toNat : Int) < c) = true := decide_eq_true h5
              have HX := hide (HDI.out h0 h2 h3)
              clear HDI HM h0 h1 h2 h3 h4 h5
              generalize (md a.toNat b.toNat : Int) = M at *
              go_enter Tryd.func19, Tryd.ntmps19
              go_wp2_with fail
              rw [← HW0.out]
              try simp only [List.append_eq, List.cons_append, List.nil_append]
              refine rc.wp_region_cls fc (by kernel_rfl) (by kernel_rfl) _ HD.out ?_
              repeat (go_big_quiet_step (first | with_reducible exact HX.out _))
              refine wpQuiet_nil ?_
              rintro _ ⟨nq, rfl⟩
              go_wp2_with fail
              go_ret2
              exact ⟨rfl, HB0.out nq⟩
            · by_cases h6 : d < 0
              · have k0 : decide (a < 1970) = false := decide_eq_false h0
                have k1 : decide (9999 < a) = false := decide_eq_false h1
                have k2 : decide (b < 1) = false := decide_eq_false h2
                have k3 : decide (12 < b) = false := decide_eq_false h3
                have k4 : decide (c < 1) = false := decide_eq_false h4
                have k5 : decide ((md a.toNat b.toNat : Int) < c) = false := decide_eq_false h5
                have k6 : decide (d < 0) = true := decide_eq_true h6
                have HX := hide (HDI.out h0 h2 h3)
                clear HDI HM h0 h1 h2 h3 h4 h5 h6
                generalize (md a.toNat b.toNat : Int) = M at *
                go_enter Tryd.func19, Tryd.ntmps19
                go_wp2_with fail
                rw [← HW0.out]
                try simp only [List.append_eq, List.cons_append, List.nil_append]
                refine rc.wp_region_cls fc (by kernel_rfl) (by kernel_rfl) _ HD.out ?_
                repeat (go_big_quiet_step (first | with_reducible exact HX.out _))
                refine wpQuiet_nil ?_
                rintro _ ⟨nq, rfl⟩
                go_wp2_with fail
                go_ret2
                exact ⟨rfl, HB0.out nq⟩
              · by_cases h7 : 23 < d
                · have k0 : decide (a < 1970) = false := decide_eq_false h0
                  have k1 : decide (9999 < a) = false := decide_eq_false h1
                  have k2 : decide (b < 1) = false := decide_eq_false h2
                  have k3 : decide (12 < b) = false := decide_eq_false h3
                  have k4 : decide (c < 1) = false := decide_eq_false h4
                  have k5 : decide ((md a.toNat b.toNat : Int) < c) = false := decide_eq_false h5
                  have k6 : decide (d < 0) = false := decide_eq_false h6
                  have k7 : decide (23 < d) = true := decide_eq_true h7
                  have HX := hide (HDI.out h0 h2 h3)
                  clear HDI HM h0 h1 h2 h3 h4 h5 h6 h7
                  generalize (md a.toNat b.toNat : Int) = M at *
                  go_enter Tryd.func19, Tryd.ntmps19
                  go_wp2_with fail
                  rw [← HW0.out]
                  try simp only [List.append_eq, List.cons_append, List.nil_append]
                  refine rc.wp_region_cls fc (by kernel_rfl) (by kernel_rfl) _ HD.out ?_
                  repeat (go_big_quiet_step (first | with_reducible exact HX.out _))
                  refine wpQuiet_nil ?_
                  rintro _ ⟨nq, rfl⟩
                  go_wp2_with fail
                  go_ret2
                  exact ⟨rfl, HB0.out nq⟩
                · by_cases h8 : e < 0
                  · have k0 : decide (a < 1970) = false := decide_eq_false h0
                    have k1 : decide (9999 < a) = false := decide_eq_false h1
                    have k2 : decide (b < 1) = false := decide_eq_false h2
                    have k3 : decide (12 < b) = false := decide_eq_false h3
                    have k4 : decide (c < 1) = false := decide_eq_false h4
                    have k5 : decide ((md a.toNat b.toNat : Int) < c) = false := decide_eq_false h5
                    have k6 : decide (d < 0) = false := decide_eq_false h6
                    have k7 : decide (23 < d) = false := decide_eq_false h7
                    have k8 : decide (e < 0) = true := decide_eq_true h8
                    have HX := hide (HDI.out h0 h2 h3)
                    clear HDI HM h0 h1 h2 h3 h4 h5 h6 h7 h8
                    generalize (md a.toNat b.toNat : Int) = M at *
                    go_enter Tryd.func19, Tryd.ntmps19
                    go_wp2_with fail
                    rw [← HW0.out]
                    try simp only [List.append_eq, List.cons_append, List.nil_append]
                    refine rc.wp_region_cls fc (by kernel_rfl) (by kernel_rfl) _ HD.out ?_
                    repeat (go_big_quiet_step (first | with_reducible exact HX.out _))
                    refine wpQuiet_nil ?_
                    rintro _ ⟨nq, rfl⟩
                    go_wp2_with fail
                    go_ret2
                    exact ⟨rfl, HB0.out nq⟩
                  · by_cases h9 : 59 < e
                    · have k0 : decide (a < 1970) = false := decide_eq_false h0
                      have k1 : decide (9999 < a) = false := decide_eq_false h1
                      have k2 : decide (b < 1) = false := decide_eq_false h2
                      have k3 : decide (12 < b) = false := decide_eq_false h3
                      have k4 : decide (c < 1) = false := decide_eq_false h4
                      have k5 : decide ((md a.toNat b.toNat : Int) < c) = false := decide_eq_false h5
                      have k6 : decide (d < 0) = false := decide_eq_false h6
                      have k7 : decide (23 < d) = false := decide_eq_false h7
                      have k8 : decide (e < 0) = false := decide_eq_false h8
                      have k9 : decide (59 < e) = true := decide_eq_true h9
                      have HX := hide (HDI.out h0 h2 h3)
                      clear HDI HM h0 h1 h2 h3 h4 h5 h6 h7 h8 h9
                      generalize (md a.toNat b.toNat : Int) = M at *
                      go_enter Tryd.func19, Tryd.ntmps19
                      go_wp2_with fail
                      rw [← HW0.out]
                      try simp only [List.append_eq, List.cons_append, List.nil_append]
                      refine rc.wp_region_cls fc (by kernel_rfl) (by kernel_rfl) _ HD.out ?_
                      repeat (go_big_quiet_step (first | with_reducible exact HX.out _))
                      refine wpQuiet_nil ?_
                      rintro _ ⟨nq, rfl⟩
                      go_wp2_with fail
                      go_ret2
                      exact ⟨rfl, HB0.out nq⟩
                    · by_cases h10 : f < 0
                      · have k0 : decide (a < 1970) = false := decide_eq_false h0
                        have k1 : decide (9999 < a) = false := decide_eq_false h1
                        have k2 : decide (b < 1) = false := decide_eq_false h2
                        have k3 : decide (12 < b) = false := decide_eq_false h3
                        have k4 : decide (c < 1) = false := decide_eq_false h4
                        have k5 : decide ((md a.toNat b.toNat : Int) < c) = false := decide_eq_false h5
                        have k6 : decide (d < 0) = false := decide_eq_false h6
                        have k7 : decide (23 < d) = false := decide_eq_false h7
                        have k8 : decide (e < 0) = false := decide_eq_false h8
                        have k9 : decide (59 < e) = false := decide_eq_false h9
                        have k10 : decide (f < 0) = true := decide_eq_true h10
                        have HX := hide (HDI.out h0 h2 h3)
                        clear HDI HM h0 h1 h2 h3 h4 h5 h6 h7 h8 h9 h10
                        generalize (md a.toNat b.toNat : Int) = M at *
                        go_enter Tryd.func19, Tryd.ntmps19
                        go_wp2_with fail
                        rw [← HW0.out]
                        try simp only [List.append_eq, List.cons_append, List.nil_append]
                        refine rc.wp_region_cls fc (by kernel_rfl) (by kernel_rfl) _ HD.out ?_
                        repeat (go_big_quiet_step (first | with_reducible exact HX.out _))
                        refine wpQuiet_nil ?_
                        rintro _ ⟨nq, rfl⟩
                        go_wp2_with fail
                        go_ret2
                        exact ⟨rfl, HB0.out nq⟩
                      · by_cases h11 : 59 < f
                        · have k0 : decide (a < 1970) = false := decide_eq_false h0
                          have k1 : decide (9999 < a) = false := decide_eq_false h1
                          have k2 : decide (b < 1) = false := decide_eq_false h2
                          have k3 : decide (12 < b) = false := decide_eq_false h3
                          have k4 : decide (c < 1) = false := decide_eq_false h4
                          have k5 : decide ((md a.toNat b.toNat : Int) < c) = false := decide_eq_false h5
                          have k6 : decide (d < 0) = false := decide_eq_false h6
                          have k7 : decide (23 < d) = false := decide_eq_false h7
                          have k8 : decide (e < 0) = false := decide_eq_false h8
                          have k9 : decide (59 < e) = false := decide_eq_false h9
                          have k10 : decide (f < 0) = false := decide_eq_false h10
                          have k11 : decide (59 < f) = true := decide_eq_true h11
                          have HX := hide (HDI.out h0 h2 h3)
                          clear HDI HM h0 h1 h2 h3 h4 h5 h6 h7 h8 h9 h10 h11
                          generalize (md a.toNat b.toNat : Int) = M at *
                          go_enter Tryd.func19, Tryd.ntmps19
                          go_wp2_with fail
                          rw [← HW0.out]
                          try simp only [List.append_eq, List.cons_append, List.nil_append]
                          refine rc.wp_region_cls fc (by kernel_rfl) (by kernel_rfl) _ HD.out ?_
                          repeat (go_big_quiet_step (first | with_reducible exact HX.out _))
                          refine wpQuiet_nil ?_
                          rintro _ ⟨nq, rfl⟩
                          go_wp2_with fail
                          go_ret2
                          exact ⟨rfl, HB0.out nq⟩
                        · exfalso
                          have := HM.out
                          simp only [inB, Bool.false_eq, Bool.and_eq_false_iff, decide_eq_false_iff_not] at this
                          omega
end Go.Proofs.YtbibfneofcphkaaDoor.jc
