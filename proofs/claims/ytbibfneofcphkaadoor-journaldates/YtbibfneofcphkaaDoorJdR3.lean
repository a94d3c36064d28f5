import Derived.Test.YtbibfneofcphkaaDoorJdR2
namespace Go.Proofs.YtbibfneofcphkaaDoor.jc
open Go.ChangeShapes Go.WideShapes Go.ChangeAt Go.RowKit Go.Proofs.YtbibfneofcphkaaDoor.common Go.Proofs.YtbibfneofcphkaaDoor.Jc

set_option maxRecDepth 100000 in
set_option maxHeartbeats 6400000 in
theorem refSeconds_mo (x : Dt) (g : Int) (w : World) (hT : RTab w) (hx : Ok x) (hy1 : x.y ≤ 9999) : Calls Tryd.prog 19 #[dI x.y x.m x.d x.h x.i x.s g] w fun q w' => q = .returned (if g = (((4 + x.day) % 7 : Nat) : Int) then .tuple #[.int .i64 (x.sec : Int), .int .i64 0] else .tuple #[.int .i64 0, .int .i64 1]) ∧ Below w.heap.size w w' := by
  obtain ⟨y, m, d, h, i, s, ww⟩ := x
  obtain ⟨y0, m0, m1, d0, d1, h1, i1, s1⟩ := hx
  simp only at *
  have hday := day_most (x := ⟨y, m, d, h, i, s, ww⟩) ⟨y0, m0, m1, d0, d1, h1, i1, s1⟩ hy1
  have HDY : Hid (Dt.day ⟨y, m, d, h, i, s, ww⟩ = yb y + cm y (m - 1) + d - 1) := rfl
  have HSC : Hid (Dt.sec ⟨y, m, d, h, i, s, ww⟩ = 86400 * Dt.day ⟨y, m, d, h, i, s, ww⟩ + 3600 * h + 60 * i + s) := rfl
  obtain ⟨R, hR⟩ : ∃ R : Value, R = (if g = (((4 + Dt.day ⟨y, m, d, h, i, s, ww⟩) % 7 : Nat) : Int) then .tuple #[.int .i64 (Dt.sec ⟨y, m, d, h, i, s, ww⟩ : Int), .int .i64 0] else .tuple #[.int .i64 0, .int .i64 1]) := ⟨_, rfl⟩
  rw [← hR]
  have HR := hide hR
  clear hR
  generalize Dt.sec ⟨y, m, d, h, i, s, ww⟩ = S at *
  generalize Dt.day ⟨y, m, d, h, i, s, ww⟩ = D at *
  obtain ⟨V, hW⟩ : ∃ V, V = (w.alloc (.cells #[.int .i64 (y : Int), .int .i64 (m : Int), .int .i64 (d : Int), .int .i64 (h : Int), .int .i64 (i : Int), .int .i64 (s : Int), .int .i64 g] 24)) := ⟨_, rfl⟩
  have BA : Below w.heap.size w V := by rw [hW]; exact (Below.refl _ _).alloc (Nat.le_refl _) _
  have hsz : w.heap.size < V.heap.size := by rw [hW, World.size_alloc]; omega
  have hc := cells7 w (y : Int) (m : Int) (d : Int) (h : Int) (i : Int) (s : Int) g
  rw [← hW] at hc
  obtain ⟨fc, hf, hg⟩ := rc.class_of V
  have r0 : ∀ n, (fc n).cell? ⟨w.heap.size, 0, none⟩ = some (.int .i64 (y : Int)) := fun n => ((hf n).cell (p := ⟨w.heap.size, 0, none⟩) hsz).trans (hc 0 (by decide))
  have r1 : ∀ n, (fc n).cell? ⟨w.heap.size, 1, none⟩ = some (.int .i64 (m : Int)) := fun n => ((hf n).cell (p := ⟨w.heap.size, 1, none⟩) hsz).trans (hc 1 (by decide))
  have r2 : ∀ n, (fc n).cell? ⟨w.heap.size, 2, none⟩ = some (.int .i64 (d : Int)) := fun n => ((hf n).cell (p := ⟨w.heap.size, 2, none⟩) hsz).trans (hc 2 (by decide))
  have r3 : ∀ n, (fc n).cell? ⟨w.heap.size, 3, none⟩ = some (.int .i64 (h : Int)) := fun n => ((hf n).cell (p := ⟨w.heap.size, 3, none⟩) hsz).trans (hc 3 (by decide))
  have r4 : ∀ n, (fc n).cell? ⟨w.heap.size, 4, none⟩ = some (.int .i64 (i : Int)) := fun n => ((hf n).cell (p := ⟨w.heap.size, 4, none⟩) hsz).trans (hc 4 (by decide))
  have r5 : ∀ n, (fc n).cell? ⟨w.heap.size, 5, none⟩ = some (.int .i64 (s : Int)) := fun n => ((hf n).cell (p := ⟨w.heap.size, 5, none⟩) hsz).trans (hc 5 (by decide))
  have r6 : ∀ n, (fc n).cell? ⟨w.heap.size, 6, none⟩ = some (.int .i64 g) := fun n => ((hf n).cell (p := ⟨w.heap.size, 6, none⟩) hsz).trans (hc 6 (by decide))
  have HB0 := hide (fun n => keepW BA (hf n) (Nat.le_of_lt hsz))
  have HW0 := hide hW
  have HD : Hid (V.drew = fc V.drew) := (hg _ (Below.refl _ _).drew).symm
  have HTC : Hid (∀ n, RTab (fc n)) := fun n => (hT.fr BA).fr (hf n)
  haveI : Nonempty World := ⟨w⟩
  have HX : Hid (∀ n, Calls Tryd.prog 32 #[.int .i64 (y : Int), .int .i64 (m : Int)] (fc n) fun q w' => q = .returned (.int .i64 (md y m : Int)) ∧ ∃ m, w' = fc m) := fun n => (refDaysIn_any y m (fc n) (HTC.out n) m0 m1).mono (fun _ _ hh => ⟨hh.1, n, hh.2⟩)
  have HDM : Hid (∀ (n : World) (k : Nat), 1 ≤ k → k ≤ 12 → Calls Tryd.prog 32 #[.int .i64 (y : Int), .int .i64 (k : Int)] (fc n) fun q w' => q = .returned (.int .i64 (md y k : Int)) ∧ w' = fc n) := fun n k k0 k1 => refDaysIn_any y k (fc n) (HTC.out n) k0 k1
  have k0 : decide ((y : Int) < 1970) = false := decide_eq_false (by omega)
  have k1 : decide (9999 < (y : Int)) = false := decide_eq_false (by omega)
  have k2 : decide ((m : Int) < 1) = false := decide_eq_false (by omega)
  have k3 : decide (12 < (m : Int)) = false := decide_eq_false (by omega)
  have k4 : decide ((d : Int) < 1) = false := decide_eq_false (by omega)
  have k5 : decide ((md y m : Int) < (d : Int)) = false := decide_eq_false (by omega)
  have k6 : decide ((h : Int) < 0) = false := decide_eq_false (by omega)
  have k7 : decide (23 < (h : Int)) = false := decide_eq_false (by omega)
  have k8 : decide ((i : Int) < 0) = false := decide_eq_false (by omega)
  have k9 : decide (59 < (i : Int)) = false := decide_eq_false (by omega)
  have ka : decide ((s : Int) < 0) = false := decide_eq_false (by omega)
  have kb : decide (59 < (s : Int)) = false := decide_eq_false (by omega)
  have HST : Hid (∀ n, Calls Tryd.prog 29 #[.int .i64 (y : Int)] (fc n) fun e w' => e = .returned (.int .i64 (yb y : Int)) ∧ w' = fc n) := fun n => start_any y (fc n) y0 hy1
  have ybm := yb_most y
  have hcy : ∀ k, k ≤ 12 → cm y k ≤ 366 := fun k hk => by
    have := cm_mono y hk
    rw [cm_year] at this
    have := yl_two y
    omega
  have HCY := hide hcy
  have dm := (md_most y m m0 m1).2
  have HDB : Hid (yb y + cm y (m - 1) + d = D + 1) := by have := HDY.out; show _ = _; omega
  clear hcy hW BA hc hT hf hg hsz HTC HDY
  unfold dI
  go_enter Tryd.func19, Tryd.ntmps19
  go_wp2_with fail
  rw [← HW0.out]
  try simp only [List.append_eq, List.cons_append, List.nil_append]
  refine rc.wp_region_cls fc (by kernel_rfl) (by kernel_rfl) _ HD.out ?_
  repeat (go_big_quiet_step (first | with_reducible exact HX.out _))
  refine wpQuiet_nil ?_
  rintro _ ⟨nq, rfl⟩
  go_wp2_with fail
  refine (HST.out nq).mono ?_
  rintro q w1 ⟨rfl, rfl⟩
  have q0 := r0 nq
  have q1 := r1 nq
  have q2 := r2 nq
  have q3 := r3 nq
  have q4 := r4 nq
  have q5 := r5 nq
  have q6 := r6 nq
  have HBQ := hide (HB0.out nq)
  have HDQ := hide (HDM.out nq)
  clear HX HST HD HW0 HB0 HDM k0 k1 k2 k3 k4 k5 k6 k7 k8 k9 ka kb
  generalize fc nq = W at *
  clear r0 r1 r2 r3 r4 r5 r6
  go_wp2_with fail
  go_loopw [4, 5] (fun u v wr => ∃ n k : Nat, u = .int .i64 (n : Int) ∧ v = .int .i64 (k : Int) ∧ 1 ≤ k ∧ k ≤ m ∧ Hid (n = yb y + cm y (k - 1)) ∧ wr = W) (fun _ v _ => 13 - (intOf v).toNat)
  case atStart => exact ⟨yb y, 1, rfl, rfl, by omega, m0, rfl, rfl⟩
  case round =>
    obtain ⟨n, k, rfl, rfl, k0, k1, HN, rfl⟩ := hrel
    have hn : n ≤ 5000000 := by
      rw [HN.out]
      have := HCY.out (k - 1) (by omega)
      omega
    by_cases hk : k < m
    · have hki : (k : Int) < (m : Int) := by omega
      have HD := hide (HDQ.out k k0 (by omega))
      have hmk := (md_most y k k0 (by omega)).2
      have HN2 : Hid (n + md y k = yb y + cm y (k + 1 - 1)) := by
        show n + md y k = yb y + cm y k
        rw [HN.out, cm_step y k k0]; omega
      have b1 : n + md y k ≤ 1000000000 := by omega
      have Hv : Hid (Value.int .i64 (wrap64 ((n : Int) + (md y k : Int))) = .int .i64 ((n + md y k : Nat) : Int)) := by
        show _ = _
        rw [wrp _ ⟨by omega, by omega⟩]; rfl
      have b2 : k ≤ 1000000000 := by omega
      have Hv2 : Hid (Value.int .i64 (wrap64 ((k : Int) + 1)) = .int .i64 ((k + 1 : Nat) : Int)) := by show _ = _; rw [wrpN k b2]; rfl
      have HZ : Hid (k + 1 ≤ m ∧ m ≤ 12) := ⟨hk, m1⟩
      clear HN hk hmk b1 b2 HDQ HCY ybm hday dm HDB HSC hn k1 m1 d1
      generalize md y k = q at *
      go_wp2_with fail
      refine HD.out.mono ?_
      rintro x w1 ⟨rfl, rfl⟩
      go_wp2_with fail
      go_roundw
      case rel => exact ⟨n + q, k + 1, by first | exact Hv.out | go_num, by first | exact Hv2.out | go_num, by omega, HZ.out.1, HN2, by trivial⟩
      case measure => have h1 := HZ.out; have e2 := Hv2.out; simp only [e2]; simp [intOf]; omega
    · have ek : k = m := by omega
      subst ek
      clear hk
      have hki : ¬ ((k : Int) < (k : Int)) := by omega
      have HNd : Hid (n + d = D + 1) := by show _ = _; rw [HN.out]; exact HDB.out
      have e7 : ((n : Int) + (d : Int) - 1 + 4).tmod 7 = (((4 + D) % 7 : Nat) : Int) := by
        rw [← tmodN]; congr 1; have := HNd.out; omega
      have hd31 : d ≤ 31 := by omega
      clear HN HDB HDQ HCY ybm dm hday d1 k1
      generalize (4 + D) % 7 = wk at *
      by_cases hq : g = (wk : Int)
      · subst hq
        have HS : Hid (((n : Int) + (d : Int) - 1) * 86400 + (h : Int) * 3600 + (i : Int) * 60 + (s : Int) = (S : Int)) := by
          show _ = _
          have := HNd.out
          have := HSC.out
          omega
        clear HNd HSC
        go_wp2_with fail
        go_ret2
        exact ⟨by rw [HR.out, ← HS.out]; rfl, HBQ.out⟩
      · have HQ := hide hq
        have hb : (g == (wk : Int)) = false := beq_false_of_ne hq
        have hb2 : (g != (wk : Int)) = true := by rw [bne, hb]; rfl
        clear HNd HSC hq
        go_wp2_with fail
        go_ret2
        exact ⟨by rw [HR.out, if_neg HQ.out]; rfl, HBQ.out⟩
end Go.Proofs.YtbibfneofcphkaaDoor.jc
