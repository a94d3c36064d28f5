import Derived.Test.YtpmmbnlfifbcfaaDoorPkSeal2
namespace Go.Proofs.YtpmmbnlfifbcfaaDoor.pk
open Go.ChangeShapes Go.WideShapes Go.ChangeAt Go.RowKit Go.Proofs.YtpmmbnlfifbcfaaDoor.common
open Go.Proofs.YtpmmbnlfifbcfaaDoor.errw (Errs E)

theorem cellsSealing : Tryd.prog.cellsOf 23 = 5 := by kernel_rfl
theorem keep2 {a b c : World} (h : Below a.heap.size a b) (h2 : Below b.heap.size b c) : Below a.heap.size a c := h.trans (h2.mono h.size)

/-- the argument in a block of its own -/
theorem box5 (w : World) (x y z u v : Value) (t : TypeId) : ∃ W0 : World, W0 = w.alloc (.cells #[x, y, z, u, v] t) ∧ Below w.heap.size w W0 ∧
    ∀ X, Below W0.heap.size W0 X → X.cell? ⟨w.heap.size, 0, none⟩ = some x ∧ X.cell? ⟨w.heap.size, 1, none⟩ = some y ∧ X.cell? ⟨w.heap.size, 2, none⟩ = some z ∧ X.cell? ⟨w.heap.size, 3, none⟩ = some u := by
  refine ⟨_, rfl, (Below.refl _ _).alloc (Nat.le_refl _) _, fun X hX => ?_⟩
  have hlt : w.heap.size < (w.alloc (.cells #[x, y, z, u, v] t)).heap.size := by simp
  exact ⟨(hX.cell (p := ⟨w.heap.size, 0, none⟩) hlt).trans (range_new w #[x, y, z, u, v] _ 0 _ rfl), (hX.cell (p := ⟨w.heap.size, 1, none⟩) hlt).trans (range_new w #[x, y, z, u, v] _ 1 _ rfl),
    (hX.cell (p := ⟨w.heap.size, 2, none⟩) hlt).trans (range_new w #[x, y, z, u, v] _ 2 _ rfl), (hX.cell (p := ⟨w.heap.size, 3, none⟩) hlt).trans (range_new w #[x, y, z, u, v] _ 3 _ rfl)⟩

set_option maxRecDepth 100000 in
set_option maxHeartbeats 3200000 in
theorem lawSealWith (p s o A D : ByteArray) (n k f : Int) (ev : Value) (w : World)
    (h1 : ∀ W, Below w.heap.size w W → Calls Tryd.prog 6 #[.string p, .string s, .int .i64 n] W fun x w' => x = .returned (.tuple #[sec A D, ev]) ∧ Below W.heap.size W w')
    (h2 : ∀ W, Below w.heap.size w W → Calls Tryd.prog 8 #[.string p, .string s, .int .i64 n] W fun x w' => x = .returned (.tuple #[sec A D, .int .i64 f]) ∧ Below W.heap.size W w')
    (h3 : ∀ W, Below w.heap.size w W → Calls Tryd.prog 9 #[ev] W fun x w' => x = .returned (.int .i64 f) ∧ w' = W) :
    Calls Tryd.prog 4 #[.agg #[.string p, .string s, .int .i64 n, .string o, .int .i64 k]] w fun e w' => e = .returned (.bool true) ∧ Below w.heap.size w w' := by
  obtain ⟨W0, hW0, hbl, hc⟩ := box5 w (.string p) (.string s) (.int .i64 n) (.string o) (.int .i64 k) 23
  have H1 := hide h1
  have H2 := hide h2
  have H3 := hide h3
  have HBL := hide hbl
  have HC := hide hc
  obtain ⟨y0, y1, y2, _⟩ := hc W0 (Below.refl _ _)
  clear h1 h2 h3 hbl hc
  rw [hW0] at y0 y1 y2
  go_enter Tryd.func4, Tryd.ntmps4
  go_wp2_with fail
  rw [← hW0] at *
  refine (H1.out _ HBL.out).mono ?_
  rintro x w1 ⟨rfl, hb1⟩
  have HB1 := hide hb1
  have HW0 := hide hW0
  clear hb1 hW0 y0 y1 y2
  obtain ⟨W1, hW1, hbl1, hc1⟩ := box2 w1 (.string A) (.string D) 25
  have HB2 := hide (keep2 HB1.out hbl1)
  obtain ⟨y0, y1, y2, _⟩ := HC.out W1 HB2.out
  have HC1 := hide hc1
  clear hbl1 hc1
  rw [hW1] at y0 y1 y2
  go_wp2_with fail
  rw [← hW1] at *
  refine (H2.out _ (keep2 HBL.out HB2.out)).mono ?_
  rintro x w2 ⟨rfl, hb2⟩
  have HW1 := hide hW1
  clear hW1 y0 y1 y2
  have HB3 := hide (keep2 HB2.out hb2)
  obtain ⟨W2, hW2, hbl2, hc2⟩ := box2 w2 (.string A) (.string D) 25
  have HB4 := hide (keep2 HB3.out hbl2)
  obtain ⟨z0, z1⟩ := HC1.out W2 (keep2 hb2 hbl2)
  obtain ⟨u0, u1⟩ := hc2 W2 (Below.refl _ _)
  clear hb2 hbl2 hc2
  rw [hW2] at z0 z1 u0 u1
  go_wp2_with fail
  rw [← hW2] at *
  refine (H3.out _ (keep2 HBL.out HB4.out)).mono ?_
  rintro x w3 ⟨rfl, h3⟩
  obtain rfl := h3.symm
  have HW2 := hide hW2
  clear hW2 z0 z1 u0 u1 h3
  go_wp2
  go_ret
  exact ⟨by simp, keep2 HBL.out HB4.out⟩

theorem lawSeal (p s o : ByteArray) (n k : Int) (w : World) (hp : p.size ≤ reachBytes) (ht : refw.Tabs w) (e : Nat → Addr) (he : Errs w e) :
    Calls Tryd.prog 4 #[.agg #[.string p, .string s, .int .i64 n, .string o, .int .i64 k]] w fun e w' => e = .returned (.bool true) ∧ Below w.heap.size w w' := by
  unfold reachBytes at hp
  by_cases h : okS s n
  · exact lawSealWith p s o _ _ n k 0 .nilIface w (fun W hW => seal_good p s n W h hp ⟨(ht.below hW).rw, (ht.below hW).fw⟩) (fun W hW => rseal_good p s n W h hp (ht.below hW)) (fun W _ => errw.num_nil W)
  · exact lawSealWith p s o _ _ n k 1 _ w (fun W hW => seal_bad p s n W h (e 0) ((he.below hW).cell 0 (by decide))) (fun W _ => rseal_bad p s n W h) (fun W hW => errw.num_0 W e (he.below hW))

end Go.Proofs.YtpmmbnlfifbcfaaDoor.pk
