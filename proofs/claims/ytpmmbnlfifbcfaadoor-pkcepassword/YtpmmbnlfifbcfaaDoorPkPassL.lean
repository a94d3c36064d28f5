import Derived.Test.YtpmmbnlfifbcfaaDoorPkSealL
import Derived.Deep.RegionHeld3
namespace Go.Proofs.YtpmmbnlfifbcfaaDoor.pk
open Go.ChangeShapes Go.WideShapes Go.ChangeAt Go.RowKit Go.Proofs.YtpmmbnlfifbcfaaDoor.common

theorem cellsEntry : Tryd.prog.cellsOf 36 = 4 := by kernel_rfl
theorem pw_own (p a : ByteArray) (n : Int) (h : okR n) : pw p a (sd p a n) n = true := by unfold pw; rw [okB_t h, sm_self]; rfl

/-- four cells in a block of their own -/
theorem box4 (w : World) (x y z u : Value) (t : TypeId) : ∃ W0 : World, W0 = w.alloc (.cells #[x, y, z, u] t) ∧ Below w.heap.size w W0 ∧
    ∀ X, Below W0.heap.size W0 X → X.cell? ⟨w.heap.size, 0, none⟩ = some x ∧ X.cell? ⟨w.heap.size, 1, none⟩ = some y ∧ X.cell? ⟨w.heap.size, 2, none⟩ = some z ∧ X.cell? ⟨w.heap.size, 3, none⟩ = some u := by
  refine ⟨_, rfl, (Below.refl _ _).alloc (Nat.le_refl _) _, fun X hX => ?_⟩
  have hlt : w.heap.size < (w.alloc (.cells #[x, y, z, u] t)).heap.size := by simp
  exact ⟨(hX.cell (p := ⟨w.heap.size, 0, none⟩) hlt).trans (range_new w #[x, y, z, u] _ 0 _ rfl), (hX.cell (p := ⟨w.heap.size, 1, none⟩) hlt).trans (range_new w #[x, y, z, u] _ 1 _ rfl),
    (hX.cell (p := ⟨w.heap.size, 2, none⟩) hlt).trans (range_new w #[x, y, z, u] _ 2 _ rfl), (hX.cell (p := ⟨w.heap.size, 3, none⟩) hlt).trans (range_new w #[x, y, z, u] _ 3 _ rfl)⟩

set_option maxRecDepth 100000 in
set_option maxHeartbeats 3200000 in
theorem lawPassword (p a b : ByteArray) (n : Int) (w : World) (hp : p.size ≤ reachBytes) (ha : a.size ≤ reachBytes) (hb : b.size ≤ reachBytes) (ht : refw.Tabs w) (a0 : Addr) (he : Arg w a0) :
    Calls Tryd.prog 5 #[.agg #[.string p, .string a, .string b, .int .i64 n]] w fun e w' => e = .returned (.bool true) ∧ Below w.heap.size w w' := by
  unfold reachBytes at hp ha hb
  obtain ⟨W0, hW0, hbl, hc⟩ := box4 w (.string p) (.string a) (.string b) (.int .i64 n) 36
  have H1 : Hid (∀ W, Below w.heap.size w W → Calls Tryd.prog 7 #[.string p, sec a b, .int .i64 n] W fun x w' => x = .returned (.bool (pw p a b n)) ∧ Below W.heap.size W w') := fun W hW => password_any p a b n W hp ha (by omega) ⟨(ht.below hW).rw, (ht.below hW).fw⟩ a0 (he.below hW)
  have H2 : Hid (∀ W, Below w.heap.size w W → Calls Tryd.prog 10 #[.string p, sec a b, .int .i64 n] W fun x w' => x = .returned (.bool (pw p a b n)) ∧ Below W.heap.size W w') := fun W hW => refPassword_any p a b n W hp ha (ht.below hW)
  have H3 : Hid (∀ W, ¬ okS a n → Calls Tryd.prog 8 #[.string p, .string a, .int .i64 n] W fun x w' => x = .returned (.tuple #[sec ⟨#[]⟩ ⟨#[]⟩, .int .i64 1]) ∧ Below W.heap.size W w') := fun W h => rseal_bad p a n W h
  have H4 : Hid (∀ W, okS a n → Below w.heap.size w W → Calls Tryd.prog 8 #[.string p, .string a, .int .i64 n] W fun x w' => x = .returned (.tuple #[sec a (sd p a n), .int .i64 0]) ∧ Below W.heap.size W w') := fun W h hW => rseal_good p a n W h hp (ht.below hW)
  have H5 : Hid (∀ W, okS a n → Below w.heap.size w W → Calls Tryd.prog 7 #[.string p, sec a (sd p a n), .int .i64 n] W fun x w' => x = .returned (.bool true) ∧ Below W.heap.size W w') := fun W h hW => by
    have := password_any p a (sd p a n) n W hp ha (by rw [sd_size]; decide) ⟨(ht.below hW).rw, (ht.below hW).fw⟩ a0 (he.below hW)
    rwa [pw_own p a n h.2] at this
  have HBL := hide hbl
  have HC := hide hc
  have x0 : ∀ X, Below W0.heap.size W0 X → X.cell? ⟨w.heap.size, 0, none⟩ = some (.string p) := fun X hX => (hc X hX).1
  have x1 : ∀ X, Below W0.heap.size W0 X → X.cell? ⟨w.heap.size, 1, none⟩ = some (.string a) := fun X hX => (hc X hX).2.1
  have x2 : ∀ X, Below W0.heap.size W0 X → X.cell? ⟨w.heap.size, 2, none⟩ = some (.string b) := fun X hX => (hc X hX).2.2.1
  have x3 : ∀ X, Below W0.heap.size W0 X → X.cell? ⟨w.heap.size, 3, none⟩ = some (.int .i64 n) := fun X hX => (hc X hX).2.2.2
  have HOK := hide (Classical.em (okS a n))
  clear ht he hbl hc hp ha hb
  generalize pw p a b n = t at *
  generalize sd p a n = D at *
  generalize okS a n = ok at *
  have HW0 := hide hW0
  clear hW0
  go_enter Tryd.func5, Tryd.ntmps5
  go_wp2_with fail
  rw [← HW0.out]
  go_region_held3 (fun X => Below W0.heap.size W0 X)
    (first
      | exact Below.refl _ _
      | assumption
      | exact keep2 (by assumption) (by assumption)
      | exact Below.drew (by assumption)
      | exact (Below.refl _ _).drew)
    (first
      | (go_at_call 7; refine (H1.out _ (keep2 HBL.out (by assumption))).mono ?_; rintro x w1 ⟨rfl, hb1⟩)
      | (go_at_call 10; refine (H2.out _ (keep2 HBL.out (by assumption))).mono ?_; rintro x w2 ⟨rfl, hb2⟩))
  all_goals
    have HB2 : Hid (Below W0.heap.size W0 w2) := by assumption
    have z0 := x0 _ HB2.out
    have z1 := x1 _ HB2.out
    have z3 := x3 _ HB2.out
    rcases HOK.out with hok | hok
    · go_wp2_with fail
      refine (H4.out _ hok (keep2 HBL.out HB2.out)).mono ?_
      rintro x w3 ⟨rfl, hb3⟩
      have HB3 := hide (keep2 HB2.out hb3)
      clear z0 z1 z3 hb3
      obtain ⟨W1, hW1, hbl1, hc1⟩ := box2 w3 (.string a) (.string D) 25
      have HB4 := hide (keep2 HB3.out hbl1)
      have z0 := x0 _ HB4.out
      have z3 := x3 _ HB4.out
      obtain ⟨y0, y1⟩ := hc1 W1 (Below.refl _ _)
      clear hbl1 hc1
      rw [hW1] at z0 z3 y0 y1
      go_wp2_with fail
      rw [← hW1] at *
      refine (H5.out _ hok (keep2 HBL.out HB4.out)).mono ?_
      rintro x w4 ⟨rfl, hb4⟩
      have HB5 := hide (keep2 HB4.out hb4)
      have HW1 := hide hW1
      clear hW1 z0 z3 y0 y1 hb4
      go_wp2
      go_ret
      exact ⟨by simp, keep2 HBL.out HB5.out⟩
    · go_wp2_with fail
      refine (H3.out _ hok).mono ?_
      rintro x w3 ⟨rfl, hb3⟩
      have HB3 := hide (keep2 HB2.out hb3)
      have HB4 : Hid (Below W0.heap.size W0 (w3.alloc (.cells #[.string ⟨#[]⟩, .string ⟨#[]⟩] 25))) := keep2 HB3.out ((Below.refl _ _).alloc (Nat.le_refl _) _)
      clear z0 z1 z3 hb3
      go_wp2
      go_ret
      exact ⟨by simp, keep2 HBL.out HB4.out⟩

end Go.Proofs.YtpmmbnlfifbcfaaDoor.pk
