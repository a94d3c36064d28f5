import Derived.Test.YtidccfflpcgkiaaGreatDoorMRcSmD
namespace Go.Proofs.YtidccfflpcgkiaaGreatDoor.rc
open Go.ChangeShapes Go.WideShapes Go.ChangeAt Go.RowKit Go.Proofs.YtidccfflpcgkiaaGreatDoor.common Go.Proofs.YtidccfflpcgkiaaGreatDoor.ss
attribute [local go_sem ↓] Go.wp_at_zero Go.wp_at_succ

set_option maxRecDepth 100000 in
set_option maxHeartbeats 6400000 in
theorem sr_0 (xk : Int) (xi : ByteArray) (xu : ByteArray) (xc : ByteArray) (xr : ByteArray) (xh : ByteArray) (xd : ByteArray) (xt : Int) (xs : List ByteArray) (yk : Int) (yi : ByteArray) (yu : ByteArray) (yc : ByteArray) (yr : ByteArray) (yh : ByteArray) (yd : ByteArray) (yt : Int) (ys : List ByteArray) (va vb : Value) (w : World) (ha : Lies w va xs) (hb : Lies w vb ys) (n1 : xs.length ≤ 4611686018427387904) (n2 : ys.length ≤ 4611686018427387904) (hne : xk ≠ yk) :
    Calls Tryz.prog 13 #[.agg (rcs ⟨xk, xi, xu, xc, xr, xh, xd, xs, xt⟩ va), .agg (rcs ⟨yk, yi, yu, yc, yr, yh, yd, ys, yt⟩ vb)] w fun e w' => e = .returned (.bool false) ∧ Below w.heap.size w w' := by
  obtain ⟨W0, hW0⟩ : ∃ W0, W0 = (w.alloc (.cells (rcs ⟨xk, xi, xu, xc, xr, xh, xd, xs, xt⟩ va) 24)).alloc (.cells (rcs ⟨yk, yi, yu, yc, yr, yh, yd, ys, yt⟩ vb) 24) := ⟨_, rfl⟩
  have hb0 : Below w.heap.size w W0 := by rw [hW0]; exact ((Below.refl _ _).alloc (Nat.le_refl _) _).alloc (by simp) _
  have hA : W0.heap[w.heap.size]? = some (.cells (rcs ⟨xk, xi, xu, xc, xr, xh, xd, xs, xt⟩ va) 24 (0, 0)) := by rw [hW0]; exact (Below.heap_alloc _ _ _ (by simp)).trans (heap_alloc_new w _)
  have hB : W0.heap[w.heap.size + 1]? = some (.cells (rcs ⟨yk, yi, yu, yc, yr, yh, yd, ys, yt⟩ vb) 24 (0, 0)) := by
    have h1 := heap_alloc_new (w.alloc (.cells (rcs ⟨xk, xi, xu, xc, xr, xh, xd, xs, xt⟩ va) 24)) (.cells (rcs ⟨yk, yi, yu, yc, yr, yh, yd, ys, yt⟩ vb) 24 (0, 0))
    rw [World.size_alloc] at h1
    rw [hW0]
    exact h1
  have HS := hide (sameStr_dec va vb xs ys W0 (ha.below hb0) (hb.below hb0) n1 n2)
  generalize decide (xs = ys) = T at HS
  have q1 : (xk == yk) = false := beq_false_of_ne hne
  have HA := hide hA
  have HB := hide hB
  have HB0 := hide hb0
  have HW0 := hide hW0
  clear ha hb hA hB hb0 hW0 n1 n2
  go_enter Tryz.func13, Tryz.ntmps13
  go_wp2_with fail
  rw [← HW0.out]
  refine HS.out.mono ?_
  rintro x w2 ⟨rfl, bw⟩
  have hA2 := (bw.block _ (Array.getElem?_eq_some_iff.1 HA.out).1).trans HA.out
  have hB2 := (bw.block _ (Array.getElem?_eq_some_iff.1 HB.out).1).trans HB.out
  have a0 := dk.cell_of hA2 0
  have b0 := dk.cell_of hB2 0
  have HB2 := hide (keepW HB0.out bw)
  clear bw hA2 hB2 HA HB
  go_wp2_with fail
  go_ret
  exact ⟨rfl, HB2.out⟩
set_option maxRecDepth 100000 in
set_option maxHeartbeats 6400000 in
theorem sr_1 (xk : Int) (xi : ByteArray) (xu : ByteArray) (xc : ByteArray) (xr : ByteArray) (xh : ByteArray) (xd : ByteArray) (xt : Int) (xs : List ByteArray) (yi : ByteArray) (yu : ByteArray) (yc : ByteArray) (yr : ByteArray) (yh : ByteArray) (yd : ByteArray) (yt : Int) (ys : List ByteArray) (va vb : Value) (w : World) (ha : Lies w va xs) (hb : Lies w vb ys) (n1 : xs.length ≤ 4611686018427387904) (n2 : ys.length ≤ 4611686018427387904) (hne : xi ≠ yi) :
    Calls Tryz.prog 13 #[.agg (rcs ⟨xk, xi, xu, xc, xr, xh, xd, xs, xt⟩ va), .agg (rcs ⟨xk, yi, yu, yc, yr, yh, yd, ys, yt⟩ vb)] w fun e w' => e = .returned (.bool false) ∧ Below w.heap.size w w' := by
  obtain ⟨W0, hW0⟩ : ∃ W0, W0 = (w.alloc (.cells (rcs ⟨xk, xi, xu, xc, xr, xh, xd, xs, xt⟩ va) 24)).alloc (.cells (rcs ⟨xk, yi, yu, yc, yr, yh, yd, ys, yt⟩ vb) 24) := ⟨_, rfl⟩
  have hb0 : Below w.heap.size w W0 := by rw [hW0]; exact ((Below.refl _ _).alloc (Nat.le_refl _) _).alloc (by simp) _
  have hA : W0.heap[w.heap.size]? = some (.cells (rcs ⟨xk, xi, xu, xc, xr, xh, xd, xs, xt⟩ va) 24 (0, 0)) := by rw [hW0]; exact (Below.heap_alloc _ _ _ (by simp)).trans (heap_alloc_new w _)
  have hB : W0.heap[w.heap.size + 1]? = some (.cells (rcs ⟨xk, yi, yu, yc, yr, yh, yd, ys, yt⟩ vb) 24 (0, 0)) := by
    have h1 := heap_alloc_new (w.alloc (.cells (rcs ⟨xk, xi, xu, xc, xr, xh, xd, xs, xt⟩ va) 24)) (.cells (rcs ⟨xk, yi, yu, yc, yr, yh, yd, ys, yt⟩ vb) 24 (0, 0))
    rw [World.size_alloc] at h1
    rw [hW0]
    exact h1
  have HS := hide (sameStr_dec va vb xs ys W0 (ha.below hb0) (hb.below hb0) n1 n2)
  generalize decide (xs = ys) = T at HS
  have q1 := str_ne hne
  have HA := hide hA
  have HB := hide hB
  have HB0 := hide hb0
  have HW0 := hide hW0
  clear ha hb hA hB hb0 hW0 n1 n2
  go_enter Tryz.func13, Tryz.ntmps13
  go_wp2_with fail
  rw [← HW0.out]
  refine HS.out.mono ?_
  rintro x w2 ⟨rfl, bw⟩
  have hA2 := (bw.block _ (Array.getElem?_eq_some_iff.1 HA.out).1).trans HA.out
  have hB2 := (bw.block _ (Array.getElem?_eq_some_iff.1 HB.out).1).trans HB.out
  have a0 := dk.cell_of hA2 0
  have b0 := dk.cell_of hB2 0
  have a1 := dk.cell_of hA2 1
  have b1 := dk.cell_of hB2 1
  have HB2 := hide (keepW HB0.out bw)
  clear bw hA2 hB2 HA HB
  go_wp2_with fail
  go_ret
  exact ⟨rfl, HB2.out⟩
set_option maxRecDepth 100000 in
set_option maxHeartbeats 6400000 in
theorem sr_2 (xk : Int) (xi : ByteArray) (xu : ByteArray) (xc : ByteArray) (xr : ByteArray) (xh : ByteArray) (xd : ByteArray) (xt : Int) (xs : List ByteArray) (yu : ByteArray) (yc : ByteArray) (yr : ByteArray) (yh : ByteArray) (yd : ByteArray) (yt : Int) (ys : List ByteArray) (va vb : Value) (w : World) (ha : Lies w va xs) (hb : Lies w vb ys) (n1 : xs.length ≤ 4611686018427387904) (n2 : ys.length ≤ 4611686018427387904) (hne : xu ≠ yu) :
    Calls Tryz.prog 13 #[.agg (rcs ⟨xk, xi, xu, xc, xr, xh, xd, xs, xt⟩ va), .agg (rcs ⟨xk, xi, yu, yc, yr, yh, yd, ys, yt⟩ vb)] w fun e w' => e = .returned (.bool false) ∧ Below w.heap.size w w' := by
  obtain ⟨W0, hW0⟩ : ∃ W0, W0 = (w.alloc (.cells (rcs ⟨xk, xi, xu, xc, xr, xh, xd, xs, xt⟩ va) 24)).alloc (.cells (rcs ⟨xk, xi, yu, yc, yr, yh, yd, ys, yt⟩ vb) 24) := ⟨_, rfl⟩
  have hb0 : Below w.heap.size w W0 := by rw [hW0]; exact ((Below.refl _ _).alloc (Nat.le_refl _) _).alloc (by simp) _
  have hA : W0.heap[w.heap.size]? = some (.cells (rcs ⟨xk, xi, xu, xc, xr, xh, xd, xs, xt⟩ va) 24 (0, 0)) := by rw [hW0]; exact (Below.heap_alloc _ _ _ (by simp)).trans (heap_alloc_new w _)
  have hB : W0.heap[w.heap.size + 1]? = some (.cells (rcs ⟨xk, xi, yu, yc, yr, yh, yd, ys, yt⟩ vb) 24 (0, 0)) := by
    have h1 := heap_alloc_new (w.alloc (.cells (rcs ⟨xk, xi, xu, xc, xr, xh, xd, xs, xt⟩ va) 24)) (.cells (rcs ⟨xk, xi, yu, yc, yr, yh, yd, ys, yt⟩ vb) 24 (0, 0))
    rw [World.size_alloc] at h1
    rw [hW0]
    exact h1
  have HS := hide (sameStr_dec va vb xs ys W0 (ha.below hb0) (hb.below hb0) n1 n2)
  generalize decide (xs = ys) = T at HS
  have q1 := str_ne hne
  have HA := hide hA
  have HB := hide hB
  have HB0 := hide hb0
  have HW0 := hide hW0
  clear ha hb hA hB hb0 hW0 n1 n2
  go_enter Tryz.func13, Tryz.ntmps13
  go_wp2_with fail
  rw [← HW0.out]
  refine HS.out.mono ?_
  rintro x w2 ⟨rfl, bw⟩
  have hA2 := (bw.block _ (Array.getElem?_eq_some_iff.1 HA.out).1).trans HA.out
  have hB2 := (bw.block _ (Array.getElem?_eq_some_iff.1 HB.out).1).trans HB.out
  have a0 := dk.cell_of hA2 0
  have b0 := dk.cell_of hB2 0
  have a1 := dk.cell_of hA2 1
  have b1 := dk.cell_of hB2 1
  have a2 := dk.cell_of hA2 2
  have b2 := dk.cell_of hB2 2
  have HB2 := hide (keepW HB0.out bw)
  clear bw hA2 hB2 HA HB
  go_wp2_with fail
  go_ret
  exact ⟨rfl, HB2.out⟩
set_option maxRecDepth 100000 in
set_option maxHeartbeats 6400000 in
theorem sr_3 (xk : Int) (xi : ByteArray) (xu : ByteArray) (xc : ByteArray) (xr : ByteArray) (xh : ByteArray) (xd : ByteArray) (xt : Int) (xs : List ByteArray) (yc : ByteArray) (yr : ByteArray) (yh : ByteArray) (yd : ByteArray) (yt : Int) (ys : List ByteArray) (va vb : Value) (w : World) (ha : Lies w va xs) (hb : Lies w vb ys) (n1 : xs.length ≤ 4611686018427387904) (n2 : ys.length ≤ 4611686018427387904) (hne : xc ≠ yc) :
    Calls Tryz.prog 13 #[.agg (rcs ⟨xk, xi, xu, xc, xr, xh, xd, xs, xt⟩ va), .agg (rcs ⟨xk, xi, xu, yc, yr, yh, yd, ys, yt⟩ vb)] w fun e w' => e = .returned (.bool false) ∧ Below w.heap.size w w' := by
  obtain ⟨W0, hW0⟩ : ∃ W0, W0 = (w.alloc (.cells (rcs ⟨xk, xi, xu, xc, xr, xh, xd, xs, xt⟩ va) 24)).alloc (.cells (rcs ⟨xk, xi, xu, yc, yr, yh, yd, ys, yt⟩ vb) 24) := ⟨_, rfl⟩
  have hb0 : Below w.heap.size w W0 := by rw [hW0]; exact ((Below.refl _ _).alloc (Nat.le_refl _) _).alloc (by simp) _
  have hA : W0.heap[w.heap.size]? = some (.cells (rcs ⟨xk, xi, xu, xc, xr, xh, xd, xs, xt⟩ va) 24 (0, 0)) := by rw [hW0]; exact (Below.heap_alloc _ _ _ (by simp)).trans (heap_alloc_new w _)
  have hB : W0.heap[w.heap.size + 1]? = some (.cells (rcs ⟨xk, xi, xu, yc, yr, yh, yd, ys, yt⟩ vb) 24 (0, 0)) := by
    have h1 := heap_alloc_new (w.alloc (.cells (rcs ⟨xk, xi, xu, xc, xr, xh, xd, xs, xt⟩ va) 24)) (.cells (rcs ⟨xk, xi, xu, yc, yr, yh, yd, ys, yt⟩ vb) 24 (0, 0))
    rw [World.size_alloc] at h1
    rw [hW0]
    exact h1
  have HS := hide (sameStr_dec va vb xs ys W0 (ha.below hb0) (hb.below hb0) n1 n2)
  generalize decide (xs = ys) = T at HS
  have q1 := str_ne hne
  have HA := hide hA
  have HB := hide hB
  have HB0 := hide hb0
  have HW0 := hide hW0
  clear ha hb hA hB hb0 hW0 n1 n2
  go_enter Tryz.func13, Tryz.ntmps13
  go_wp2_with fail
  rw [← HW0.out]
  refine HS.out.mono ?_
  rintro x w2 ⟨rfl, bw⟩
  have hA2 := (bw.block _ (Array.getElem?_eq_some_iff.1 HA.out).1).trans HA.out
  have hB2 := (bw.block _ (Array.getElem?_eq_some_iff.1 HB.out).1).trans HB.out
  have a0 := dk.cell_of hA2 0
  have b0 := dk.cell_of hB2 0
  have a1 := dk.cell_of hA2 1
  have b1 := dk.cell_of hB2 1
  have a2 := dk.cell_of hA2 2
  have b2 := dk.cell_of hB2 2
  have a3 := dk.cell_of hA2 3
  have b3 := dk.cell_of hB2 3
  have HB2 := hide (keepW HB0.out bw)
  clear bw hA2 hB2 HA HB
  go_wp2_with fail
  go_ret
  exact ⟨rfl, HB2.out⟩
set_option maxRecDepth 100000 in
set_option maxHeartbeats 6400000 in
theorem sr_4 (xk : Int) (xi : ByteArray) (xu : ByteArray) (xc : ByteArray) (xr : ByteArray) (xh : ByteArray) (xd : ByteArray) (xt : Int) (xs : List ByteArray) (yr : ByteArray) (yh : ByteArray) (yd : ByteArray) (yt : Int) (ys : List ByteArray) (va vb : Value) (w : World) (ha : Lies w va xs) (hb : Lies w vb ys) (n1 : xs.length ≤ 4611686018427387904) (n2 : ys.length ≤ 4611686018427387904) (hne : xr ≠ yr) :
    Calls Tryz.prog 13 #[.agg (rcs ⟨xk, xi, xu, xc, xr, xh, xd, xs, xt⟩ va), .agg (rcs ⟨xk, xi, xu, xc, yr, yh, yd, ys, yt⟩ vb)] w fun e w' => e = .returned (.bool false) ∧ Below w.heap.size w w' := by
  obtain ⟨W0, hW0⟩ : ∃ W0, W0 = (w.alloc (.cells (rcs ⟨xk, xi, xu, xc, xr, xh, xd, xs, xt⟩ va) 24)).alloc (.cells (rcs ⟨xk, xi, xu, xc, yr, yh, yd, ys, yt⟩ vb) 24) := ⟨_, rfl⟩
  have hb0 : Below w.heap.size w W0 := by rw [hW0]; exact ((Below.refl _ _).alloc (Nat.le_refl _) _).alloc (by simp) _
  have hA : W0.heap[w.heap.size]? = some (.cells (rcs ⟨xk, xi, xu, xc, xr, xh, xd, xs, xt⟩ va) 24 (0, 0)) := by rw [hW0]; exact (Below.heap_alloc _ _ _ (by simp)).trans (heap_alloc_new w _)
  have hB : W0.heap[w.heap.size + 1]? = some (.cells (rcs ⟨xk, xi, xu, xc, yr, yh, yd, ys, yt⟩ vb) 24 (0, 0)) := by
    have h1 := heap_alloc_new (w.alloc (.cells (rcs ⟨xk, xi, xu, xc, xr, xh, xd, xs, xt⟩ va) 24)) (.cells (rcs ⟨xk, xi, xu, xc, yr, yh, yd, ys, yt⟩ vb) 24 (0, 0))
    rw [World.size_alloc] at h1
    rw [hW0]
    exact h1
  have HS := hide (sameStr_dec va vb xs ys W0 (ha.below hb0) (hb.below hb0) n1 n2)
  generalize decide (xs = ys) = T at HS
  have q1 := str_ne hne
  have HA := hide hA
  have HB := hide hB
  have HB0 := hide hb0
  have HW0 := hide hW0
  clear ha hb hA hB hb0 hW0 n1 n2
  go_enter Tryz.func13, Tryz.ntmps13
  go_wp2_with fail
  rw [← HW0.out]
  refine HS.out.mono ?_
  rintro x w2 ⟨rfl, bw⟩
  have hA2 := (bw.block _ (Array.getElem?_eq_some_iff.1 HA.out).1).trans HA.out
  have hB2 := (bw.block _ (Array.getElem?_eq_some_iff.1 HB.out).1).trans HB.out
  have a0 := dk.cell_of hA2 0
  have b0 := dk.cell_of hB2 0
  have a1 := dk.cell_of hA2 1
  have b1 := dk.cell_of hB2 1
  have a2 := dk.cell_of hA2 2
  have b2 := dk.cell_of hB2 2
  have a3 := dk.cell_of hA2 3
  have b3 := dk.cell_of hB2 3
  have a4 := dk.cell_of hA2 4
  have b4 := dk.cell_of hB2 4
  have HB2 := hide (keepW HB0.out bw)
  clear bw hA2 hB2 HA HB
  go_wp2_with fail
  go_ret
  exact ⟨rfl, HB2.out⟩
set_option maxRecDepth 100000 in
set_option maxHeartbeats 6400000 in
theorem sr_5 (xk : Int) (xi : ByteArray) (xu : ByteArray) (xc : ByteArray) (xr : ByteArray) (xh : ByteArray) (xd : ByteArray) (xt : Int) (xs : List ByteArray) (yh : ByteArray) (yd : ByteArray) (yt : Int) (ys : List ByteArray) (va vb : Value) (w : World) (ha : Lies w va xs) (hb : Lies w vb ys) (n1 : xs.length ≤ 4611686018427387904) (n2 : ys.length ≤ 4611686018427387904) (hne : xh ≠ yh) :
    Calls Tryz.prog 13 #[.agg (rcs ⟨xk, xi, xu, xc, xr, xh, xd, xs, xt⟩ va), .agg (rcs ⟨xk, xi, xu, xc, xr, yh, yd, ys, yt⟩ vb)] w fun e w' => e = .returned (.bool false) ∧ Below w.heap.size w w' := by
  obtain ⟨W0, hW0⟩ : ∃ W0, W0 = (w.alloc (.cells (rcs ⟨xk, xi, xu, xc, xr, xh, xd, xs, xt⟩ va) 24)).alloc (.cells (rcs ⟨xk, xi, xu, xc, xr, yh, yd, ys, yt⟩ vb) 24) := ⟨_, rfl⟩
  have hb0 : Below w.heap.size w W0 := by rw [hW0]; exact ((Below.refl _ _).alloc (Nat.le_refl _) _).alloc (by simp) _
  have hA : W0.heap[w.heap.size]? = some (.cells (rcs ⟨xk, xi, xu, xc, xr, xh, xd, xs, xt⟩ va) 24 (0, 0)) := by rw [hW0]; exact (Below.heap_alloc _ _ _ (by simp)).trans (heap_alloc_new w _)
  have hB : W0.heap[w.heap.size + 1]? = some (.cells (rcs ⟨xk, xi, xu, xc, xr, yh, yd, ys, yt⟩ vb) 24 (0, 0)) := by
    have h1 := heap_alloc_new (w.alloc (.cells (rcs ⟨xk, xi, xu, xc, xr, xh, xd, xs, xt⟩ va) 24)) (.cells (rcs ⟨xk, xi, xu, xc, xr, yh, yd, ys, yt⟩ vb) 24 (0, 0))
    rw [World.size_alloc] at h1
    rw [hW0]
    exact h1
  have HS := hide (sameStr_dec va vb xs ys W0 (ha.below hb0) (hb.below hb0) n1 n2)
  generalize decide (xs = ys) = T at HS
  have q1 := str_ne hne
  have HA := hide hA
  have HB := hide hB
  have HB0 := hide hb0
  have HW0 := hide hW0
  clear ha hb hA hB hb0 hW0 n1 n2
  go_enter Tryz.func13, Tryz.ntmps13
  go_wp2_with fail
  rw [← HW0.out]
  refine HS.out.mono ?_
  rintro x w2 ⟨rfl, bw⟩
  have hA2 := (bw.block _ (Array.getElem?_eq_some_iff.1 HA.out).1).trans HA.out
  have hB2 := (bw.block _ (Array.getElem?_eq_some_iff.1 HB.out).1).trans HB.out
  have a0 := dk.cell_of hA2 0
  have b0 := dk.cell_of hB2 0
  have a1 := dk.cell_of hA2 1
  have b1 := dk.cell_of hB2 1
  have a2 := dk.cell_of hA2 2
  have b2 := dk.cell_of hB2 2
  have a3 := dk.cell_of hA2 3
  have b3 := dk.cell_of hB2 3
  have a4 := dk.cell_of hA2 4
  have b4 := dk.cell_of hB2 4
  have a5 := dk.cell_of hA2 5
  have b5 := dk.cell_of hB2 5
  have HB2 := hide (keepW HB0.out bw)
  clear bw hA2 hB2 HA HB
  go_wp2_with fail
  go_ret
  exact ⟨rfl, HB2.out⟩
set_option maxRecDepth 100000 in
set_option maxHeartbeats 6400000 in
theorem sr_6 (xk : Int) (xi : ByteArray) (xu : ByteArray) (xc : ByteArray) (xr : ByteArray) (xh : ByteArray) (xd : ByteArray) (xt : Int) (xs : List ByteArray) (yd : ByteArray) (yt : Int) (ys : List ByteArray) (va vb : Value) (w : World) (ha : Lies w va xs) (hb : Lies w vb ys) (n1 : xs.length ≤ 4611686018427387904) (n2 : ys.length ≤ 4611686018427387904) (hne : xd ≠ yd) :
    Calls Tryz.prog 13 #[.agg (rcs ⟨xk, xi, xu, xc, xr, xh, xd, xs, xt⟩ va), .agg (rcs ⟨xk, xi, xu, xc, xr, xh, yd, ys, yt⟩ vb)] w fun e w' => e = .returned (.bool false) ∧ Below w.heap.size w w' := by
  obtain ⟨W0, hW0⟩ : ∃ W0, W0 = (w.alloc (.cells (rcs ⟨xk, xi, xu, xc, xr, xh, xd, xs, xt⟩ va) 24)).alloc (.cells (rcs ⟨xk, xi, xu, xc, xr, xh, yd, ys, yt⟩ vb) 24) := ⟨_, rfl⟩
  have hb0 : Below w.heap.size w W0 := by rw [hW0]; exact ((Below.refl _ _).alloc (Nat.le_refl _) _).alloc (by simp) _
  have hA : W0.heap[w.heap.size]? = some (.cells (rcs ⟨xk, xi, xu, xc, xr, xh, xd, xs, xt⟩ va) 24 (0, 0)) := by rw [hW0]; exact (Below.heap_alloc _ _ _ (by simp)).trans (heap_alloc_new w _)
  have hB : W0.heap[w.heap.size + 1]? = some (.cells (rcs ⟨xk, xi, xu, xc, xr, xh, yd, ys, yt⟩ vb) 24 (0, 0)) := by
    have h1 := heap_alloc_new (w.alloc (.cells (rcs ⟨xk, xi, xu, xc, xr, xh, xd, xs, xt⟩ va) 24)) (.cells (rcs ⟨xk, xi, xu, xc, xr, xh, yd, ys, yt⟩ vb) 24 (0, 0))
    rw [World.size_alloc] at h1
    rw [hW0]
    exact h1
  have HS := hide (sameStr_dec va vb xs ys W0 (ha.below hb0) (hb.below hb0) n1 n2)
  generalize decide (xs = ys) = T at HS
  have q1 := str_ne hne
  have HA := hide hA
  have HB := hide hB
  have HB0 := hide hb0
  have HW0 := hide hW0
  clear ha hb hA hB hb0 hW0 n1 n2
  go_enter Tryz.func13, Tryz.ntmps13
  go_wp2_with fail
  rw [← HW0.out]
  refine HS.out.mono ?_
  rintro x w2 ⟨rfl, bw⟩
  have hA2 := (bw.block _ (Array.getElem?_eq_some_iff.1 HA.out).1).trans HA.out
  have hB2 := (bw.block _ (Array.getElem?_eq_some_iff.1 HB.out).1).trans HB.out
  have a0 := dk.cell_of hA2 0
  have b0 := dk.cell_of hB2 0
  have a1 := dk.cell_of hA2 1
  have b1 := dk.cell_of hB2 1
  have a2 := dk.cell_of hA2 2
  have b2 := dk.cell_of hB2 2
  have a3 := dk.cell_of hA2 3
  have b3 := dk.cell_of hB2 3
  have a4 := dk.cell_of hA2 4
  have b4 := dk.cell_of hB2 4
  have a5 := dk.cell_of hA2 5
  have b5 := dk.cell_of hB2 5
  have a6 := dk.cell_of hA2 6
  have b6 := dk.cell_of hB2 6
  have HB2 := hide (keepW HB0.out bw)
  clear bw hA2 hB2 HA HB
  go_wp2_with fail
  go_ret
  exact ⟨rfl, HB2.out⟩
set_option maxRecDepth 100000 in
set_option maxHeartbeats 6400000 in
theorem sr_7 (xk : Int) (xi : ByteArray) (xu : ByteArray) (xc : ByteArray) (xr : ByteArray) (xh : ByteArray) (xd : ByteArray) (xt : Int) (xs : List ByteArray) (yt : Int) (ys : List ByteArray) (va vb : Value) (w : World) (ha : Lies w va xs) (hb : Lies w vb ys) (n1 : xs.length ≤ 4611686018427387904) (n2 : ys.length ≤ 4611686018427387904) (hne : xt ≠ yt) :
    Calls Tryz.prog 13 #[.agg (rcs ⟨xk, xi, xu, xc, xr, xh, xd, xs, xt⟩ va), .agg (rcs ⟨xk, xi, xu, xc, xr, xh, xd, ys, yt⟩ vb)] w fun e w' => e = .returned (.bool false) ∧ Below w.heap.size w w' := by
  obtain ⟨W0, hW0⟩ : ∃ W0, W0 = (w.alloc (.cells (rcs ⟨xk, xi, xu, xc, xr, xh, xd, xs, xt⟩ va) 24)).alloc (.cells (rcs ⟨xk, xi, xu, xc, xr, xh, xd, ys, yt⟩ vb) 24) := ⟨_, rfl⟩
  have hb0 : Below w.heap.size w W0 := by rw [hW0]; exact ((Below.refl _ _).alloc (Nat.le_refl _) _).alloc (by simp) _
  have hA : W0.heap[w.heap.size]? = some (.cells (rcs ⟨xk, xi, xu, xc, xr, xh, xd, xs, xt⟩ va) 24 (0, 0)) := by rw [hW0]; exact (Below.heap_alloc _ _ _ (by simp)).trans (heap_alloc_new w _)
  have hB : W0.heap[w.heap.size + 1]? = some (.cells (rcs ⟨xk, xi, xu, xc, xr, xh, xd, ys, yt⟩ vb) 24 (0, 0)) := by
    have h1 := heap_alloc_new (w.alloc (.cells (rcs ⟨xk, xi, xu, xc, xr, xh, xd, xs, xt⟩ va) 24)) (.cells (rcs ⟨xk, xi, xu, xc, xr, xh, xd, ys, yt⟩ vb) 24 (0, 0))
    rw [World.size_alloc] at h1
    rw [hW0]
    exact h1
  have HS := hide (sameStr_dec va vb xs ys W0 (ha.below hb0) (hb.below hb0) n1 n2)
  generalize decide (xs = ys) = T at HS
  have q1 : (xt == yt) = false := beq_false_of_ne hne
  have HA := hide hA
  have HB := hide hB
  have HB0 := hide hb0
  have HW0 := hide hW0
  clear ha hb hA hB hb0 hW0 n1 n2
  go_enter Tryz.func13, Tryz.ntmps13
  go_wp2_with fail
  rw [← HW0.out]
  refine HS.out.mono ?_
  rintro x w2 ⟨rfl, bw⟩
  have hA2 := (bw.block _ (Array.getElem?_eq_some_iff.1 HA.out).1).trans HA.out
  have hB2 := (bw.block _ (Array.getElem?_eq_some_iff.1 HB.out).1).trans HB.out
  have a0 := dk.cell_of hA2 0
  have b0 := dk.cell_of hB2 0
  have a1 := dk.cell_of hA2 1
  have b1 := dk.cell_of hB2 1
  have a2 := dk.cell_of hA2 2
  have b2 := dk.cell_of hB2 2
  have a3 := dk.cell_of hA2 3
  have b3 := dk.cell_of hB2 3
  have a4 := dk.cell_of hA2 4
  have b4 := dk.cell_of hB2 4
  have a5 := dk.cell_of hA2 5
  have b5 := dk.cell_of hB2 5
  have a6 := dk.cell_of hA2 6
  have b6 := dk.cell_of hB2 6
  have a8 := dk.cell_of hA2 8
  have b8 := dk.cell_of hB2 8
  have HB2 := hide (keepW HB0.out bw)
  clear bw hA2 hB2 HA HB
  go_wp2_with fail
  go_ret
  exact ⟨rfl, HB2.out⟩
set_option maxRecDepth 100000 in
set_option maxHeartbeats 6400000 in
theorem sr_8 (xk : Int) (xi : ByteArray) (xu : ByteArray) (xc : ByteArray) (xr : ByteArray) (xh : ByteArray) (xd : ByteArray) (xt : Int) (xs : List ByteArray) (ys : List ByteArray) (va vb : Value) (w : World) (ha : Lies w va xs) (hb : Lies w vb ys) (n1 : xs.length ≤ 4611686018427387904) (n2 : ys.length ≤ 4611686018427387904) (hne : xs ≠ ys) :
    Calls Tryz.prog 13 #[.agg (rcs ⟨xk, xi, xu, xc, xr, xh, xd, xs, xt⟩ va), .agg (rcs ⟨xk, xi, xu, xc, xr, xh, xd, ys, xt⟩ vb)] w fun e w' => e = .returned (.bool false) ∧ Below w.heap.size w w' := by
  obtain ⟨W0, hW0⟩ : ∃ W0, W0 = (w.alloc (.cells (rcs ⟨xk, xi, xu, xc, xr, xh, xd, xs, xt⟩ va) 24)).alloc (.cells (rcs ⟨xk, xi, xu, xc, xr, xh, xd, ys, xt⟩ vb) 24) := ⟨_, rfl⟩
  have hb0 : Below w.heap.size w W0 := by rw [hW0]; exact ((Below.refl _ _).alloc (Nat.le_refl _) _).alloc (by simp) _
  have hA : W0.heap[w.heap.size]? = some (.cells (rcs ⟨xk, xi, xu, xc, xr, xh, xd, xs, xt⟩ va) 24 (0, 0)) := by rw [hW0]; exact (Below.heap_alloc _ _ _ (by simp)).trans (heap_alloc_new w _)
  have hB : W0.heap[w.heap.size + 1]? = some (.cells (rcs ⟨xk, xi, xu, xc, xr, xh, xd, ys, xt⟩ vb) 24 (0, 0)) := by
    have h1 := heap_alloc_new (w.alloc (.cells (rcs ⟨xk, xi, xu, xc, xr, xh, xd, xs, xt⟩ va) 24)) (.cells (rcs ⟨xk, xi, xu, xc, xr, xh, xd, ys, xt⟩ vb) 24 (0, 0))
    rw [World.size_alloc] at h1
    rw [hW0]
    exact h1
  have HS := hide (sameStr_dec va vb xs ys W0 (ha.below hb0) (hb.below hb0) n1 n2)
  rw [decide_eq_false hne] at HS
  have HA := hide hA
  have HB := hide hB
  have HB0 := hide hb0
  have HW0 := hide hW0
  clear ha hb hA hB hb0 hW0 n1 n2
  go_enter Tryz.func13, Tryz.ntmps13
  go_wp2_with fail
  rw [← HW0.out]
  refine HS.out.mono ?_
  rintro x w2 ⟨rfl, bw⟩
  have hA2 := (bw.block _ (Array.getElem?_eq_some_iff.1 HA.out).1).trans HA.out
  have hB2 := (bw.block _ (Array.getElem?_eq_some_iff.1 HB.out).1).trans HB.out
  have a0 := dk.cell_of hA2 0
  have b0 := dk.cell_of hB2 0
  have a1 := dk.cell_of hA2 1
  have b1 := dk.cell_of hB2 1
  have a2 := dk.cell_of hA2 2
  have b2 := dk.cell_of hB2 2
  have a3 := dk.cell_of hA2 3
  have b3 := dk.cell_of hB2 3
  have a4 := dk.cell_of hA2 4
  have b4 := dk.cell_of hB2 4
  have a5 := dk.cell_of hA2 5
  have b5 := dk.cell_of hB2 5
  have a6 := dk.cell_of hA2 6
  have b6 := dk.cell_of hB2 6
  have a8 := dk.cell_of hA2 8
  have b8 := dk.cell_of hB2 8
  have HB2 := hide (keepW HB0.out bw)
  clear bw hA2 hB2 HA HB
  go_wp2_with fail
  go_ret
  exact ⟨rfl, HB2.out⟩
/-- SameRecord says whether two records are one -/
theorem sameRec_dec (a b : Rec) (va vb : Value) (w : World) (t : Bool) (ht : t = true ↔ a = b) (ha : Lies w va a.ss) (hb : Lies w vb b.ss) (n1 : a.ss.length ≤ 4611686018427387904) (n2 : b.ss.length ≤ 4611686018427387904) :
    Calls Tryz.prog 13 #[.agg (rcs a va), .agg (rcs b vb)] w fun e w' => e = .returned (.bool t) ∧ Below w.heap.size w w' := by
  have hf : a ≠ b → t = false := fun h => by cases t with | false => rfl | true => exact absurd (ht.1 rfl) h
  have htr : a = b → t = true := ht.2
  obtain ⟨xk, xi, xu, xc, xr, xh, xd, xs, xt⟩ := a
  obtain ⟨yk, yi, yu, yc, yr, yh, yd, ys, yt⟩ := b
  clear ht
  by_cases e0 : xk = yk
  case neg =>
    rw [hf (fun e => e0 (by injection e))]
    exact sr_0 xk xi xu xc xr xh xd xt xs yk yi yu yc yr yh yd yt ys va vb w ha hb n1 n2 e0
  subst e0
  by_cases e1 : xi = yi
  case neg =>
    rw [hf (fun e => e1 (by injection e))]
    exact sr_1 xk xi xu xc xr xh xd xt xs yi yu yc yr yh yd yt ys va vb w ha hb n1 n2 e1
  subst e1
  by_cases e2 : xu = yu
  case neg =>
    rw [hf (fun e => e2 (by injection e))]
    exact sr_2 xk xi xu xc xr xh xd xt xs yu yc yr yh yd yt ys va vb w ha hb n1 n2 e2
  subst e2
  by_cases e3 : xc = yc
  case neg =>
    rw [hf (fun e => e3 (by injection e))]
    exact sr_3 xk xi xu xc xr xh xd xt xs yc yr yh yd yt ys va vb w ha hb n1 n2 e3
  subst e3
  by_cases e4 : xr = yr
  case neg =>
    rw [hf (fun e => e4 (by injection e))]
    exact sr_4 xk xi xu xc xr xh xd xt xs yr yh yd yt ys va vb w ha hb n1 n2 e4
  subst e4
  by_cases e5 : xh = yh
  case neg =>
    rw [hf (fun e => e5 (by injection e))]
    exact sr_5 xk xi xu xc xr xh xd xt xs yh yd yt ys va vb w ha hb n1 n2 e5
  subst e5
  by_cases e6 : xd = yd
  case neg =>
    rw [hf (fun e => e6 (by injection e))]
    exact sr_6 xk xi xu xc xr xh xd xt xs yd yt ys va vb w ha hb n1 n2 e6
  subst e6
  by_cases e7 : xt = yt
  case neg =>
    rw [hf (fun e => e7 (by injection e))]
    exact sr_7 xk xi xu xc xr xh xd xt xs yt ys va vb w ha hb n1 n2 e7
  subst e7
  by_cases e8 : xs = ys
  case neg =>
    rw [hf (fun e => e8 (by injection e))]
    exact sr_8 xk xi xu xc xr xh xd xt xs ys va vb w ha hb n1 n2 e8
  subst e8
  rw [htr rfl]
  exact sameRec_any _ va vb w ha hb n1
end Go.Proofs.YtidccfflpcgkiaaGreatDoor.rc
