import Derived.Test.YtbibfneofcphkaaDoorJdR4
import Derived.Test.YtbibfneofcphkaaDoorJdW2
import Derived.Test.YtbibfneofcphkaaDoorJdR3
namespace Go.Proofs.YtbibfneofcphkaaDoor.jc
open Go.ChangeShapes Go.WideShapes Go.ChangeAt Go.RowKit Go.Proofs.YtbibfneofcphkaaDoor.common Go.Proofs.YtbibfneofcphkaaDoor.Jc

set_option maxRecDepth 100000 in
set_option maxHeartbeats 3200000 in
theorem clock_any (x : Dt) (w : World) (h1 : x.h < 100) (i1 : x.i < 100) (s1 : x.s < 100) :
    Calls Tryd.prog 55 #[dv x] w fun e w' => e = .returned (.string (tx (tmL x))) ∧ Below w.heap.size w w' := by
  obtain ⟨V, hW⟩ : ∃ V, V = w.alloc (ob x) := ⟨_, rfl⟩
  have BA : Below w.heap.size w V := by rw [hW]; exact (Below.refl _ _).alloc (Nat.le_refl _) _
  have hsz : w.heap.size < V.heap.size := by rw [hW, World.size_alloc]; omega
  have o1 : V.heap[w.heap.size]? = some (ob x) := by rw [hW]; exact heap_new w _
  obtain ⟨fc, hf, hg⟩ := rc.class_of V
  have r3 := fun n => (obc (ob_fr o1 (hf n))).2.2.2.1
  have r4 := fun n => (obc (ob_fr o1 (hf n))).2.2.2.2.1
  have r5 := fun n => (obc (ob_fr o1 (hf n))).2.2.2.2.2.1
  have HB0 := hide (fun n => keepW BA (hf n) (Nat.le_of_lt hsz))
  have HW0 := hide hW
  have HD : Hid (V.drew = fc V.drew) := (hg _ (Below.refl _ _).drew).symm
  haveI : Nonempty World := ⟨w⟩
  have HDG : Hid (∀ k : Nat, k < 100 → ∀ n, Calls Tryd.prog 53 #[.int .i64 (k : Int), .int .i64 2] (fc n) fun e w' => e = .returned (.string (tx (dg 2 k))) ∧ ∃ m, w' = fc m) := fun k hk n => (refDigits_any 2 k (fc n) (by omega) (by omega) (by omega)).mono (fun _ w1 hh => ⟨hh.1, w1, (hg _ (keepW (hf n) hh.2 (hf n).size)).symm⟩)
  have H3 := hide (HDG.out x.h h1)
  have H4 := hide (HDG.out x.i i1)
  have H5 := hide (HDG.out x.s s1)
  obtain ⟨Z1, Z2, Z3, e1, e2, e3, e4, z1, z2, z3⟩ := tim_sum (dg 2 x.h) (dg 2 x.i) (dg 2 x.s)
  have t3 : (tx (dg 2 x.h)).size = 2 := by rw [tx_size, dg_len]
  have t4 : (tx (dg 2 x.i)).size = 2 := by rw [tx_size, dg_len]
  have t5 : (tx (dg 2 x.s)).size = 2 := by rw [tx_size, dg_len]
  rw [dg_len] at z1
  rw [dg_len, dg_len] at z2 z3
  have u1 := sum_tx _ _ _ e1 (by rw [t3]; show 2 + 1 ≤ _; omega)
  have u2 := sum_tx _ _ _ e2 (by omega)
  have u3 := sum_tx _ _ _ e3 (by rw [z2]; show 2 + 1 + 2 + 1 ≤ _; omega)
  have u4 := sum_tx _ _ _ e4 (by omega)
  have HR : Hid (tx (tmL x) = tx (dg 2 x.h ++ [58] ++ dg 2 x.i ++ [58] ++ dg 2 x.s)) := rfl
  generalize tx (dg 2 x.h ++ [58] ++ dg 2 x.i ++ [58] ++ dg 2 x.s) = R at *
  generalize tx (dg 2 x.h) = A at *
  generalize tx (dg 2 x.i) = B at *
  generalize tx (dg 2 x.s) = C at *
  clear hW BA hf hg hsz o1 HDG e1 e2 e3 e4 z1 z2 z3 t3 t4 t5 h1 i1 s1
  unfold dv
  go_enter Tryd.func55, Tryd.ntmps55
  go_wp2_with fail
  rw [← HW0.out]
  try simp only [List.append_eq, List.cons_append, List.nil_append]
  refine rc.wp_region_cls fc (by kernel_rfl) (by kernel_rfl) _ HD.out ?_
  repeat (go_big_quiet_step (first | with_reducible exact H3.out _ | with_reducible exact H4.out _ | with_reducible exact H5.out _))
  refine wpQuiet_nil ?_
  rintro _ ⟨nq, rfl⟩
  go_wp2_with fail
  go_ret
  exact ⟨by rw [HR.out]; rfl, HB0.out nq⟩

set_option maxRecDepth 100000 in
set_option maxHeartbeats 3200000 in
theorem month_any (m : Nat) (w : World) (m0 : 1 ≤ m) (m1 : m ≤ 12) : Calls Tryd.prog 54 #[.int .i64 (m : Int)] w fun e w' => e = .returned (.string (tx (moN.getD (m - 1) []))) ∧ w' = w := by
  match m, m0, m1 with
  | 1, _, _ =>
    go_enter Tryd.func54, Tryd.ntmps54
    go_wp2
    go_ret
    exact ⟨by kernel_rfl, rfl⟩
  | 2, _, _ =>
    go_enter Tryd.func54, Tryd.ntmps54
    go_wp2
    go_ret
    exact ⟨by kernel_rfl, rfl⟩
  | 3, _, _ =>
    go_enter Tryd.func54, Tryd.ntmps54
    go_wp2
    go_ret
    exact ⟨by kernel_rfl, rfl⟩
  | 4, _, _ =>
    go_enter Tryd.func54, Tryd.ntmps54
    go_wp2
    go_ret
    exact ⟨by kernel_rfl, rfl⟩
  | 5, _, _ =>
    go_enter Tryd.func54, Tryd.ntmps54
    go_wp2
    go_ret
    exact ⟨by kernel_rfl, rfl⟩
  | 6, _, _ =>
    go_enter Tryd.func54, Tryd.ntmps54
    go_wp2
    go_ret
    exact ⟨by kernel_rfl, rfl⟩
  | 7, _, _ =>
    go_enter Tryd.func54, Tryd.ntmps54
    go_wp2
    go_ret
    exact ⟨by kernel_rfl, rfl⟩
  | 8, _, _ =>
    go_enter Tryd.func54, Tryd.ntmps54
    go_wp2
    go_ret
    exact ⟨by kernel_rfl, rfl⟩
  | 9, _, _ =>
    go_enter Tryd.func54, Tryd.ntmps54
    go_wp2
    go_ret
    exact ⟨by kernel_rfl, rfl⟩
  | 10, _, _ =>
    go_enter Tryd.func54, Tryd.ntmps54
    go_wp2
    go_ret
    exact ⟨by kernel_rfl, rfl⟩
  | 11, _, _ =>
    go_enter Tryd.func54, Tryd.ntmps54
    go_wp2
    go_ret
    exact ⟨by kernel_rfl, rfl⟩
  | 12, _, _ =>
    go_enter Tryd.func54, Tryd.ntmps54
    go_wp2
    go_ret
    exact ⟨by kernel_rfl, rfl⟩
end Go.Proofs.YtbibfneofcphkaaDoor.jc
