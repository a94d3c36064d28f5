import Derived.Test.YtlbhiefamnpphaaDoorJdW1
import Derived.Test.YtlbhiefamnpphaaDoorJdFm
namespace Go.Proofs.YtlbhiefamnpphaaDoor.jc
open Go.ChangeShapes Go.WideShapes Go.ChangeAt Go.RowKit Go.Proofs.YtlbhiefamnpphaaDoor.common Go.Proofs.YtlbhiefamnpphaaDoor.Jc

/-- the names, in the program's tables -/
def WTab (w : World) : Prop := ∀ i, i < 7 → w.cell? ⟨3, i, none⟩ = some (.string (tx (wdN.getD i [])))
theorem WTab.fr {w w' : World} (h : WTab w) (hb : Below w.heap.size w w') : WTab w' := fun i hi => (hb.cell (World.block_lt_of_cell? _ _ (h i hi))).trans (h i hi)
def OTab (w : World) : Prop := ∀ i, i < 12 → w.cell? ⟨4, i, none⟩ = some (.string (tx (moN.getD i [])))
theorem OTab.fr {w w' : World} (h : OTab w) (hb : Below w.heap.size w w') : OTab w' := fun i hi => (hb.cell (World.block_lt_of_cell? _ _ (h i hi))).trans (h i hi)

set_option maxRecDepth 100000 in
set_option maxHeartbeats 6400000 in
theorem fixdateOf_any (x : Dt) (w : World) (hp : Pow w.heap.size w) (hw : WTab w) (ho : OTab w) (hf1 : Fm x) (hy : 1000 ≤ x.y) :
    Calls Tryd.prog 14 #[dv x] w fun e w' => e = .returned (.string (tx (imfL x))) ∧ Below w.heap.size w w' := by
  obtain ⟨V, hW⟩ : ∃ V, V = w.alloc (ob x) := ⟨_, rfl⟩
  have BA : Below w.heap.size w V := by rw [hW]; exact (Below.refl _ _).alloc (Nat.le_refl _) _
  have hsz : w.heap.size < V.heap.size := by rw [hW, World.size_alloc]; omega
  have o1 : V.heap[w.heap.size]? = some (ob x) := by rw [hW]; exact heap_new w _
  obtain ⟨fc, hf, hg⟩ := rc.class_of V
  have r0 := fun n => (obc (ob_fr o1 (hf n))).1
  have r1 := fun n => (obc (ob_fr o1 (hf n))).2.1
  have r2 := fun n => (obc (ob_fr o1 (hf n))).2.2.1
  have r3 := fun n => (obc (ob_fr o1 (hf n))).2.2.2.1
  have r4 := fun n => (obc (ob_fr o1 (hf n))).2.2.2.2.1
  have r5 := fun n => (obc (ob_fr o1 (hf n))).2.2.2.2.2.1
  have r6 := fun n => (obc (ob_fr o1 (hf n))).2.2.2.2.2.2
  have HB0 := hide (fun n => keepW BA (hf n) (Nat.le_of_lt hsz))
  have HW0 := hide hW
  have HD : Hid (V.drew = fc V.drew) := (hg _ (Below.refl _ _).drew).symm
  haveI : Nonempty World := ⟨w⟩
  have HDG : Hid (∀ k : Nat, k < 100 → ∀ n, Calls Tryd.prog 22 #[.int .i64 (k : Int), .int .i64 2] (fc n) fun e w' => e = .returned (.string (tx (dg 2 k))) ∧ ∃ m, w' = fc m) := fun k hk n => (digitsOf_any 2 k (fc n) (hp.up (HB0.out n) (HB0.out n).size) (Or.inl ⟨rfl, hk⟩)).mono (fun _ w1 hh => ⟨hh.1, w1, (hg _ (keepW (hf n) hh.2 (hf n).size)).symm⟩)
  have HDY : Hid (∀ n, Calls Tryd.prog 22 #[.int .i64 (x.y : Int), .int .i64 4] (fc n) fun e w' => e = .returned (.string (tx (dg 4 x.y))) ∧ ∃ m, w' = fc m) := fun n => (digitsOf_any 4 x.y (fc n) (hp.up (HB0.out n) (HB0.out n).size) (Or.inr ⟨rfl, hy, hf1.y⟩)).mono (fun _ w1 hh => ⟨hh.1, w1, (hg _ (keepW (hf n) hh.2 (hf n).size)).symm⟩)
  have HTM : Hid (∀ n, Calls Tryd.prog 23 #[dv x] (fc n) fun e w' => e = .returned (.string (tx (tmL x))) ∧ ∃ m, w' = fc m) := fun n => (timeOf_any x (fc n) (hp.up (HB0.out n) (HB0.out n).size) hf1.h hf1.i hf1.s).mono (fun _ w1 hh => ⟨hh.1, w1, (hg _ (keepW (hf n) hh.2 (hf n).size)).symm⟩)
  have H2 := hide (HDG.out x.d hf1.d)
  have gw : ∀ n, (fc n).cell? ⟨3, x.w, none⟩ = some (.string (tx (wdN.getD x.w []))) := fun n => (hw.fr (HB0.out n)) x.w hf1.w
  have go : ∀ n, (fc n).cell? ⟨4, x.m - 1, none⟩ = some (.string (tx (moN.getD (x.m - 1) []))) := fun n => (ho.fr (HB0.out n)) (x.m - 1) (by have := hf1.m0; have := hf1.m1; omega)
  have e1 : tx (wdN.getD x.w []) ++ ⟨#[44, 32]⟩ = tx (wdN.getD x.w [] ++ [44, 32]) := tx_app _ _
  have e2 : tx (wdN.getD x.w [] ++ [44, 32]) ++ tx (dg 2 x.d) = tx (wdN.getD x.w [] ++ [44, 32] ++ dg 2 x.d) := tx_app _ _
  have e3 : tx (wdN.getD x.w [] ++ [44, 32] ++ dg 2 x.d) ++ ⟨#[32]⟩ = tx (wdN.getD x.w [] ++ [44, 32] ++ dg 2 x.d ++ [32]) := tx_app _ _
  have e4 : tx (wdN.getD x.w [] ++ [44, 32] ++ dg 2 x.d ++ [32]) ++ tx (moN.getD (x.m - 1) []) = tx (wdN.getD x.w [] ++ [44, 32] ++ dg 2 x.d ++ [32] ++ moN.getD (x.m - 1) []) := tx_app _ _
  have e5 : tx (wdN.getD x.w [] ++ [44, 32] ++ dg 2 x.d ++ [32] ++ moN.getD (x.m - 1) []) ++ ⟨#[32]⟩ = tx (wdN.getD x.w [] ++ [44, 32] ++ dg 2 x.d ++ [32] ++ moN.getD (x.m - 1) [] ++ [32]) := tx_app _ _
  have e6 : tx (wdN.getD x.w [] ++ [44, 32] ++ dg 2 x.d ++ [32] ++ moN.getD (x.m - 1) [] ++ [32]) ++ tx (dg 4 x.y) = tx (wdN.getD x.w [] ++ [44, 32] ++ dg 2 x.d ++ [32] ++ moN.getD (x.m - 1) [] ++ [32] ++ dg 4 x.y) := tx_app _ _
  have e7 : tx (wdN.getD x.w [] ++ [44, 32] ++ dg 2 x.d ++ [32] ++ moN.getD (x.m - 1) [] ++ [32] ++ dg 4 x.y) ++ ⟨#[32]⟩ = tx (wdN.getD x.w [] ++ [44, 32] ++ dg 2 x.d ++ [32] ++ moN.getD (x.m - 1) [] ++ [32] ++ dg 4 x.y ++ [32]) := tx_app _ _
  have e8 : tx (wdN.getD x.w [] ++ [44, 32] ++ dg 2 x.d ++ [32] ++ moN.getD (x.m - 1) [] ++ [32] ++ dg 4 x.y ++ [32]) ++ tx (tmL x) = tx (wdN.getD x.w [] ++ [44, 32] ++ dg 2 x.d ++ [32] ++ moN.getD (x.m - 1) [] ++ [32] ++ dg 4 x.y ++ [32] ++ tmL x) := tx_app _ _
  have e9 : tx (wdN.getD x.w [] ++ [44, 32] ++ dg 2 x.d ++ [32] ++ moN.getD (x.m - 1) [] ++ [32] ++ dg 4 x.y ++ [32] ++ tmL x) ++ ⟨#[32, 71, 77, 84]⟩ = tx (wdN.getD x.w [] ++ [44, 32] ++ dg 2 x.d ++ [32] ++ moN.getD (x.m - 1) [] ++ [32] ++ dg 4 x.y ++ [32] ++ tmL x ++ [32, 71, 77, 84]) := tx_app _ _
  have s0 : (tx (wdN.getD x.w [])).size = 3 := by rw [tx_size]; exact wdN_len _ hf1.w
  have s2 : (tx (dg 2 x.d)).size = 2 := by rw [tx_size, dg_len]
  have s4 : (tx (moN.getD (x.m - 1) [])).size = 3 := by rw [tx_size]; exact moN_len _ (by have := hf1.m0; have := hf1.m1; omega)
  have s6 : (tx (dg 4 x.y)).size = 4 := by rw [tx_size, dg_len]
  have s8 : (tx (tmL x)).size = 8 := by rw [tx_size]; simp [tmL, dg_len]
  have s1 : (⟨#[44, 32]⟩ : ByteArray).size = 2 := rfl
  have s3 : (⟨#[32]⟩ : ByteArray).size = 1 := rfl
  have s9 : (⟨#[32, 71, 77, 84]⟩ : ByteArray).size = 4 := rfl
  have z1 : (tx (wdN.getD x.w [] ++ [44, 32])).size = 5 := by have h := congrArg ByteArray.size e1; rw [ByteArray.size_append] at h; omega
  have u1 := sum_tx _ _ _ e1 (by omega)
  have z2 : (tx (wdN.getD x.w [] ++ [44, 32] ++ dg 2 x.d)).size = 7 := by have h := congrArg ByteArray.size e2; rw [ByteArray.size_append] at h; omega
  have u2 := sum_tx _ _ _ e2 (by omega)
  have z3 : (tx (wdN.getD x.w [] ++ [44, 32] ++ dg 2 x.d ++ [32])).size = 8 := by have h := congrArg ByteArray.size e3; rw [ByteArray.size_append] at h; omega
  have u3 := sum_tx _ _ _ e3 (by omega)
  have z4 : (tx (wdN.getD x.w [] ++ [44, 32] ++ dg 2 x.d ++ [32] ++ moN.getD (x.m - 1) [])).size = 11 := by have h := congrArg ByteArray.size e4; rw [ByteArray.size_append] at h; omega
  have u4 := sum_tx _ _ _ e4 (by omega)
  have z5 : (tx (wdN.getD x.w [] ++ [44, 32] ++ dg 2 x.d ++ [32] ++ moN.getD (x.m - 1) [] ++ [32])).size = 12 := by have h := congrArg ByteArray.size e5; rw [ByteArray.size_append] at h; omega
  have u5 := sum_tx _ _ _ e5 (by omega)
  have z6 : (tx (wdN.getD x.w [] ++ [44, 32] ++ dg 2 x.d ++ [32] ++ moN.getD (x.m - 1) [] ++ [32] ++ dg 4 x.y)).size = 16 := by have h := congrArg ByteArray.size e6; rw [ByteArray.size_append] at h; omega
  have u6 := sum_tx _ _ _ e6 (by omega)
  have z7 : (tx (wdN.getD x.w [] ++ [44, 32] ++ dg 2 x.d ++ [32] ++ moN.getD (x.m - 1) [] ++ [32] ++ dg 4 x.y ++ [32])).size = 17 := by have h := congrArg ByteArray.size e7; rw [ByteArray.size_append] at h; omega
  have u7 := sum_tx _ _ _ e7 (by omega)
  have z8 : (tx (wdN.getD x.w [] ++ [44, 32] ++ dg 2 x.d ++ [32] ++ moN.getD (x.m - 1) [] ++ [32] ++ dg 4 x.y ++ [32] ++ tmL x)).size = 25 := by have h := congrArg ByteArray.size e8; rw [ByteArray.size_append] at h; omega
  have u8 := sum_tx _ _ _ e8 (by omega)
  have u9 := sum_tx _ _ _ e9 (by omega)
  have HR : Hid (tx (imfL x) = tx (wdN.getD x.w [] ++ [44, 32] ++ dg 2 x.d ++ [32] ++ moN.getD (x.m - 1) [] ++ [32] ++ dg 4 x.y ++ [32] ++ tmL x ++ [32, 71, 77, 84])) := rfl
  clear e1 e2 e3 e4 e5 e6 e7 e8 e9 s0 s1 s2 s3 s4 s6 s8 s9 z1 z2 z3 z4 z5 z6 z7 z8
  generalize tx (wdN.getD x.w [] ++ [44, 32] ++ dg 2 x.d ++ [32] ++ moN.getD (x.m - 1) [] ++ [32] ++ dg 4 x.y ++ [32] ++ tmL x ++ [32, 71, 77, 84]) = Z9 at *
  generalize tx (wdN.getD x.w [] ++ [44, 32] ++ dg 2 x.d ++ [32] ++ moN.getD (x.m - 1) [] ++ [32] ++ dg 4 x.y ++ [32] ++ tmL x) = Z8 at *
  generalize tx (wdN.getD x.w [] ++ [44, 32] ++ dg 2 x.d ++ [32] ++ moN.getD (x.m - 1) [] ++ [32] ++ dg 4 x.y ++ [32]) = Z7 at *
  generalize tx (wdN.getD x.w [] ++ [44, 32] ++ dg 2 x.d ++ [32] ++ moN.getD (x.m - 1) [] ++ [32] ++ dg 4 x.y) = Z6 at *
  generalize tx (wdN.getD x.w [] ++ [44, 32] ++ dg 2 x.d ++ [32] ++ moN.getD (x.m - 1) [] ++ [32]) = Z5 at *
  generalize tx (wdN.getD x.w [] ++ [44, 32] ++ dg 2 x.d ++ [32] ++ moN.getD (x.m - 1) []) = Z4 at *
  generalize tx (wdN.getD x.w [] ++ [44, 32] ++ dg 2 x.d ++ [32]) = Z3 at *
  generalize tx (wdN.getD x.w [] ++ [44, 32] ++ dg 2 x.d) = Z2 at *
  generalize tx (wdN.getD x.w [] ++ [44, 32]) = Z1 at *
  generalize tx (wdN.getD x.w []) = A0 at *
  generalize tx (dg 2 x.d) = A2 at *
  generalize tx (moN.getD (x.m - 1) []) = A4 at *
  generalize tx (dg 4 x.y) = A6 at *
  generalize tx (tmL x) = A8 at *
  have hw7 := hf1.w
  have hm0 := hf1.m0
  have hm1 := hf1.m1
  generalize hk : x.m - 1 = k at *
  have em : (x.m : Int) - 1 = (k : Int) := by omega
  have k12 : k < 12 := by omega
  have ew : wrap64 ((x.m : Int) - 1) = (k : Int) := by rw [em]; exact wrp _ ⟨by omega, by omega⟩
  clear hW BA hf hg hsz o1 HDG hp hw ho hf1 hy hk hm0 hm1
  unfold dv at *
  go_enter Tryd.func14, Tryd.ntmps14
  go_wp2_with fail
  rw [← HW0.out]
  try simp only [List.append_eq, List.cons_append, List.nil_append]
  refine rc.wp_region_cls fc (by kernel_rfl) (by kernel_rfl) _ HD.out ?_
  repeat (go_big_quiet_step (first | with_reducible exact H2.out _ | with_reducible exact HDY.out _ | with_reducible exact HTM.out _))
  refine wpQuiet_nil ?_
  rintro _ ⟨nq, rfl⟩
  go_wp2_with fail
  go_ret
  exact ⟨by rw [HR.out]; rfl, HB0.out nq⟩
end Go.Proofs.YtlbhiefamnpphaaDoor.jc
