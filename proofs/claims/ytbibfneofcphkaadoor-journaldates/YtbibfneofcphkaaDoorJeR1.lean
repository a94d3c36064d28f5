import Derived.Test.YtbibfneofcphkaaDoorJdR6
import Derived.Test.YtbibfneofcphkaaDoorJeM2
namespace Go.Proofs.YtbibfneofcphkaaDoor.je
open Go.ChangeShapes Go.WideShapes Go.ChangeAt Go.RowKit Go.Proofs.YtbibfneofcphkaaDoor.common Go.Proofs.YtbibfneofcphkaaDoor.Jc Go.Proofs.YtbibfneofcphkaaDoor.jc
attribute [local go_sem ↓] Go.wp_at_zero Go.wp_at_succ

/-- the days' names in full, in the document's table -/
def LgT (w : World) : Prop := ∀ i, i < 7 → w.cell? ⟨8, i, none⟩ = some (.string (tx (wdF.getD i [])))
theorem LgT.fr {w w' : World} (h : LgT w) (hb : Below w.heap.size w w') : LgT w' := fun i hi => (hb.cell (World.block_lt_of_cell? _ _ (h i hi))).trans (h i hi)
theorem wdF_len (k : Nat) (h : k < 7) : (wdF.getD k []).length ≤ 9 := by
  match k, h with
  | 0, _ | 1, _ | 2, _ | 3, _ | 4, _ | 5, _ | 6, _ => decide

set_option maxRecDepth 100000 in
set_option maxHeartbeats 6400000 in
theorem rfc850_ref (x : Dt) (w : World) (hT : LgT w) (hf1 : Fm x) :
    Calls Tryd.prog 38 #[dv x] w fun e w' => e = .returned (.string (tx (rfcL x))) ∧ Below w.heap.size w w' := by
  obtain ⟨V, hW⟩ : ∃ V, V = w.alloc (ob x) := ⟨_, rfl⟩
  have BA : Below w.heap.size w V := by rw [hW]; exact (Below.refl _ _).alloc (Nat.le_refl _) _
  have hsz : w.heap.size < V.heap.size := by rw [hW, World.size_alloc]; omega
  have o1 : V.heap[w.heap.size]? = some (ob x) := by rw [hW]; exact heap_new w _
  obtain ⟨fc, hf, hg⟩ := rc.class_of V
  have r0 := fun n => (obc (ob_fr o1 (hf n))).1
  have r1 := fun n => (obc (ob_fr o1 (hf n))).2.1
  have r2 := fun n => (obc (ob_fr o1 (hf n))).2.2.1
  have r3 := fun n => (obc (ob_fr o1 (hf n))).2.2.2.1
  have r4 := fun n => (obc (ob_fr o1 (hf n))).2.2.2.2.1
  have r5 := fun n => (obc (ob_fr o1 (hf n))).2.2.2.2.2.1
  have r6 := fun n => (obc (ob_fr o1 (hf n))).2.2.2.2.2.2
  have HB0 := hide (fun n => keepW BA (hf n) (Nat.le_of_lt hsz))
  have HW0 := hide hW
  have HD : Hid (V.drew = fc V.drew) := (hg _ (Below.refl _ _).drew).symm
  haveI : Nonempty World := ⟨w⟩
  have HDG : Hid (∀ k : Nat, k < 100 → ∀ n, Calls Tryd.prog 53 #[.int .i64 (k : Int), .int .i64 2] (fc n) fun e w' => e = .returned (.string (tx (dg 2 k))) ∧ ∃ m, w' = fc m) := fun k hk n => (refDigits_any 2 k (fc n) (by omega) (by omega) (by omega)).mono (fun _ w1 hh => ⟨hh.1, w1, (hg _ (keepW (hf n) hh.2 (hf n).size)).symm⟩)
  have HTM : Hid (∀ n, Calls Tryd.prog 55 #[dv x] (fc n) fun e w' => e = .returned (.string (tx (tmL x))) ∧ ∃ m, w' = fc m) := fun n => (clock_any x (fc n) hf1.h hf1.i hf1.s).mono (fun _ w1 hh => ⟨hh.1, w1, (hg _ (keepW (hf n) hh.2 (hf n).size)).symm⟩)
  have H2 := hide (HDG.out x.d hf1.d)
  have H3 : Hid (∀ n, Calls Tryd.prog 53 #[.int .i64 ((x.y % 100 : Nat) : Int), .int .i64 2] (fc n) fun e w' => e = .returned (.string (tx (dg 2 (x.y % 100)))) ∧ ∃ m, w' = fc m) := HDG.out (x.y % 100) (Nat.mod_lt _ (by decide))
  have HMO : Hid (∀ n, Calls Tryd.prog 54 #[.int .i64 (x.m : Int)] (fc n) fun e w' => e = .returned (.string (tx (moN.getD (x.m - 1) []))) ∧ ∃ m, w' = fc m) := fun n => (month_any x.m (fc n) hf1.m0 hf1.m1).mono (fun _ _ hh => ⟨hh.1, n, hh.2⟩)
  have hym : (x.y : Int).tmod 100 = ((x.y % 100 : Nat) : Int) := tmodN x.y 100
  have hlg : ∀ n, (fc n).cell? ⟨8, x.w, none⟩ = some (.string (tx (wdF.getD x.w []))) := fun n => (hT.fr (keepW BA (hf n) (Nat.le_of_lt hsz))) x.w hf1.w
  have e1 : tx (wdF.getD x.w []) ++ ⟨#[44, 32]⟩ = tx (wdF.getD x.w [] ++ [44, 32]) := tx_app _ _
  have e2 : tx (wdF.getD x.w [] ++ [44, 32]) ++ tx (dg 2 x.d) = tx (wdF.getD x.w [] ++ [44, 32] ++ dg 2 x.d) := tx_app _ _
  have e3 : tx (wdF.getD x.w [] ++ [44, 32] ++ dg 2 x.d) ++ ⟨#[45]⟩ = tx (wdF.getD x.w [] ++ [44, 32] ++ dg 2 x.d ++ [45]) := tx_app _ _
  have e4 : tx (wdF.getD x.w [] ++ [44, 32] ++ dg 2 x.d ++ [45]) ++ tx (moN.getD (x.m - 1) []) = tx (wdF.getD x.w [] ++ [44, 32] ++ dg 2 x.d ++ [45] ++ moN.getD (x.m - 1) []) := tx_app _ _
  have e5 : tx (wdF.getD x.w [] ++ [44, 32] ++ dg 2 x.d ++ [45] ++ moN.getD (x.m - 1) []) ++ ⟨#[45]⟩ = tx (wdF.getD x.w [] ++ [44, 32] ++ dg 2 x.d ++ [45] ++ moN.getD (x.m - 1) [] ++ [45]) := tx_app _ _
  have e6 : tx (wdF.getD x.w [] ++ [44, 32] ++ dg 2 x.d ++ [45] ++ moN.getD (x.m - 1) [] ++ [45]) ++ tx (dg 2 (x.y % 100)) = tx (wdF.getD x.w [] ++ [44, 32] ++ dg 2 x.d ++ [45] ++ moN.getD (x.m - 1) [] ++ [45] ++ dg 2 (x.y % 100)) := tx_app _ _
  have e7 : tx (wdF.getD x.w [] ++ [44, 32] ++ dg 2 x.d ++ [45] ++ moN.getD (x.m - 1) [] ++ [45] ++ dg 2 (x.y % 100)) ++ ⟨#[32]⟩ = tx (wdF.getD x.w [] ++ [44, 32] ++ dg 2 x.d ++ [45] ++ moN.getD (x.m - 1) [] ++ [45] ++ dg 2 (x.y % 100) ++ [32]) := tx_app _ _
  have e8 : tx (wdF.getD x.w [] ++ [44, 32] ++ dg 2 x.d ++ [45] ++ moN.getD (x.m - 1) [] ++ [45] ++ dg 2 (x.y % 100) ++ [32]) ++ tx (tmL x) = tx (wdF.getD x.w [] ++ [44, 32] ++ dg 2 x.d ++ [45] ++ moN.getD (x.m - 1) [] ++ [45] ++ dg 2 (x.y % 100) ++ [32] ++ tmL x) := tx_app _ _
  have e9 : tx (wdF.getD x.w [] ++ [44, 32] ++ dg 2 x.d ++ [45] ++ moN.getD (x.m - 1) [] ++ [45] ++ dg 2 (x.y % 100) ++ [32] ++ tmL x) ++ ⟨#[32, 71, 77, 84]⟩ = tx (wdF.getD x.w [] ++ [44, 32] ++ dg 2 x.d ++ [45] ++ moN.getD (x.m - 1) [] ++ [45] ++ dg 2 (x.y % 100) ++ [32] ++ tmL x ++ [32, 71, 77, 84]) := tx_app _ _
  have s0 : (tx (wdF.getD x.w [])).size ≤ 9 := by rw [tx_size]; exact wdF_len _ hf1.w
  have s1 : (⟨#[44, 32]⟩ : ByteArray).size ≤ 9 := by decide
  have s2 : (tx (dg 2 x.d)).size ≤ 9 := by rw [tx_size]; rw [dg_len]; decide
  have s3 : (⟨#[45]⟩ : ByteArray).size ≤ 9 := by decide
  have s4 : (tx (moN.getD (x.m - 1) [])).size ≤ 9 := by rw [tx_size]; rw [moN_len _ (by have := hf1.m0; have := hf1.m1; omega)]; decide
  have s5 : (⟨#[45]⟩ : ByteArray).size ≤ 9 := by decide
  have s6 : (tx (dg 2 (x.y % 100))).size ≤ 9 := by rw [tx_size]; rw [dg_len]; decide
  have s7 : (⟨#[32]⟩ : ByteArray).size ≤ 9 := by decide
  have s8 : (tx (tmL x)).size ≤ 9 := by rw [tx_size]; simp [tmL, dg_len]
  have s9 : (⟨#[32, 71, 77, 84]⟩ : ByteArray).size ≤ 9 := by decide
  have u1 := sum_tx _ _ _ e1 (by omega)
  have z1 : (tx (wdF.getD x.w [] ++ [44, 32])).size ≤ 18 := by have h := congrArg ByteArray.size e1; rw [ByteArray.size_append] at h; omega
  have u2 := sum_tx _ _ _ e2 (by omega)
  have z2 : (tx (wdF.getD x.w [] ++ [44, 32] ++ dg 2 x.d)).size ≤ 27 := by have h := congrArg ByteArray.size e2; rw [ByteArray.size_append] at h; omega
  have u3 := sum_tx _ _ _ e3 (by omega)
  have z3 : (tx (wdF.getD x.w [] ++ [44, 32] ++ dg 2 x.d ++ [45])).size ≤ 36 := by have h := congrArg ByteArray.size e3; rw [ByteArray.size_append] at h; omega
  have u4 := sum_tx _ _ _ e4 (by omega)
  have z4 : (tx (wdF.getD x.w [] ++ [44, 32] ++ dg 2 x.d ++ [45] ++ moN.getD (x.m - 1) [])).size ≤ 45 := by have h := congrArg ByteArray.size e4; rw [ByteArray.size_append] at h; omega
  have u5 := sum_tx _ _ _ e5 (by omega)
  have z5 : (tx (wdF.getD x.w [] ++ [44, 32] ++ dg 2 x.d ++ [45] ++ moN.getD (x.m - 1) [] ++ [45])).size ≤ 54 := by have h := congrArg ByteArray.size e5; rw [ByteArray.size_append] at h; omega
  have u6 := sum_tx _ _ _ e6 (by omega)
  have z6 : (tx (wdF.getD x.w [] ++ [44, 32] ++ dg 2 x.d ++ [45] ++ moN.getD (x.m - 1) [] ++ [45] ++ dg 2 (x.y % 100))).size ≤ 63 := by have h := congrArg ByteArray.size e6; rw [ByteArray.size_append] at h; omega
  have u7 := sum_tx _ _ _ e7 (by omega)
  have z7 : (tx (wdF.getD x.w [] ++ [44, 32] ++ dg 2 x.d ++ [45] ++ moN.getD (x.m - 1) [] ++ [45] ++ dg 2 (x.y % 100) ++ [32])).size ≤ 72 := by have h := congrArg ByteArray.size e7; rw [ByteArray.size_append] at h; omega
  have u8 := sum_tx _ _ _ e8 (by omega)
  have z8 : (tx (wdF.getD x.w [] ++ [44, 32] ++ dg 2 x.d ++ [45] ++ moN.getD (x.m - 1) [] ++ [45] ++ dg 2 (x.y % 100) ++ [32] ++ tmL x)).size ≤ 81 := by have h := congrArg ByteArray.size e8; rw [ByteArray.size_append] at h; omega
  have u9 := sum_tx _ _ _ e9 (by omega)
  have HR : Hid (tx (rfcL x) = tx (wdF.getD x.w [] ++ [44, 32] ++ dg 2 x.d ++ [45] ++ moN.getD (x.m - 1) [] ++ [45] ++ dg 2 (x.y % 100) ++ [32] ++ tmL x ++ [32, 71, 77, 84])) := rfl
  clear e1 e2 e3 e4 e5 e6 e7 e8 e9 s0 s1 s2 s3 s4 s5 s6 s7 s8 s9 z1 z2 z3 z4 z5 z6 z7 z8
  generalize tx (wdF.getD x.w [] ++ [44, 32] ++ dg 2 x.d ++ [45] ++ moN.getD (x.m - 1) [] ++ [45] ++ dg 2 (x.y % 100) ++ [32] ++ tmL x ++ [32, 71, 77, 84]) = Z9 at *
  generalize tx (wdF.getD x.w [] ++ [44, 32] ++ dg 2 x.d ++ [45] ++ moN.getD (x.m - 1) [] ++ [45] ++ dg 2 (x.y % 100) ++ [32] ++ tmL x) = Z8 at *
  generalize tx (wdF.getD x.w [] ++ [44, 32] ++ dg 2 x.d ++ [45] ++ moN.getD (x.m - 1) [] ++ [45] ++ dg 2 (x.y % 100) ++ [32]) = Z7 at *
  generalize tx (wdF.getD x.w [] ++ [44, 32] ++ dg 2 x.d ++ [45] ++ moN.getD (x.m - 1) [] ++ [45] ++ dg 2 (x.y % 100)) = Z6 at *
  generalize tx (wdF.getD x.w [] ++ [44, 32] ++ dg 2 x.d ++ [45] ++ moN.getD (x.m - 1) [] ++ [45]) = Z5 at *
  generalize tx (wdF.getD x.w [] ++ [44, 32] ++ dg 2 x.d ++ [45] ++ moN.getD (x.m - 1) []) = Z4 at *
  generalize tx (wdF.getD x.w [] ++ [44, 32] ++ dg 2 x.d ++ [45]) = Z3 at *
  generalize tx (wdF.getD x.w [] ++ [44, 32] ++ dg 2 x.d) = Z2 at *
  generalize tx (wdF.getD x.w [] ++ [44, 32]) = Z1 at *
  generalize tx (wdF.getD x.w []) = A0 at *
  generalize tx (dg 2 x.d) = A2 at *
  generalize tx (moN.getD (x.m - 1) []) = A4 at *
  generalize tx (dg 2 (x.y % 100)) = A6 at *
  generalize tx (tmL x) = A8 at *
  have hw7 := hf1.w
  have hw7i : (x.w : Int) < 7 := by omega
  generalize x.y % 100 = yy at *
  clear hW BA hf hg hsz o1 HDG hf1 hT
  unfold dv at *
  go_enter Tryd.func38, Tryd.ntmps38
  go_wp2_with fail
  rw [← HW0.out]
  try simp only [List.append_eq, List.cons_append, List.nil_append]
  refine rc.wp_region_cls fc (by kernel_rfl) (by kernel_rfl) _ HD.out ?_
  repeat (go_big_quiet_step (first | with_reducible exact H2.out _ | with_reducible exact H3.out _ | with_reducible exact HTM.out _ | with_reducible exact HMO.out _))
  refine wpQuiet_nil ?_
  rintro _ ⟨nq, rfl⟩
  go_wp2_with fail
  go_ret
  exact ⟨by rw [HR.out]; rfl, HB0.out nq⟩

set_option maxRecDepth 100000 in
set_option maxHeartbeats 6400000 in
theorem asctime_ref (x : Dt) (w : World) (bl : Bool) (hf1 : Fm x) :
    Calls Tryd.prog 39 #[dv x, .bool bl] w fun e w' => e = .returned (.string (tx (ascL bl x))) ∧ Below w.heap.size w w' := by
  obtain ⟨V, hW⟩ : ∃ V, V = w.alloc (ob x) := ⟨_, rfl⟩
  have BA : Below w.heap.size w V := by rw [hW]; exact (Below.refl _ _).alloc (Nat.le_refl _) _
  have hsz : w.heap.size < V.heap.size := by rw [hW, World.size_alloc]; omega
  have o1 : V.heap[w.heap.size]? = some (ob x) := by rw [hW]; exact heap_new w _
  obtain ⟨fc, hf, hg⟩ := rc.class_of V
  have r0 := fun n => (obc (ob_fr o1 (hf n))).1
  have r1 := fun n => (obc (ob_fr o1 (hf n))).2.1
  have r2 := fun n => (obc (ob_fr o1 (hf n))).2.2.1
  have r3 := fun n => (obc (ob_fr o1 (hf n))).2.2.2.1
  have r4 := fun n => (obc (ob_fr o1 (hf n))).2.2.2.2.1
  have r5 := fun n => (obc (ob_fr o1 (hf n))).2.2.2.2.2.1
  have r6 := fun n => (obc (ob_fr o1 (hf n))).2.2.2.2.2.2
  have HB0 := hide (fun n => keepW BA (hf n) (Nat.le_of_lt hsz))
  have HW0 := hide hW
  have HD : Hid (V.drew = fc V.drew) := (hg _ (Below.refl _ _).drew).symm
  haveI : Nonempty World := ⟨w⟩
  have HDG : Hid (∀ k : Nat, k < 100 → ∀ n, Calls Tryd.prog 53 #[.int .i64 (k : Int), .int .i64 2] (fc n) fun e w' => e = .returned (.string (tx (dg 2 k))) ∧ ∃ m, w' = fc m) := fun k hk n => (refDigits_any 2 k (fc n) (by omega) (by omega) (by omega)).mono (fun _ w1 hh => ⟨hh.1, w1, (hg _ (keepW (hf n) hh.2 (hf n).size)).symm⟩)
  have HTM : Hid (∀ n, Calls Tryd.prog 55 #[dv x] (fc n) fun e w' => e = .returned (.string (tx (tmL x))) ∧ ∃ m, w' = fc m) := fun n => (clock_any x (fc n) hf1.h hf1.i hf1.s).mono (fun _ w1 hh => ⟨hh.1, w1, (hg _ (keepW (hf n) hh.2 (hf n).size)).symm⟩)
  have H2 := hide (refDigits_any 2 x.d V (by omega) (by omega) (by have := hf1.d; omega))
  have HDY : Hid (∀ n, Calls Tryd.prog 53 #[.int .i64 (x.y : Int), .int .i64 4] (fc n) fun e w' => e = .returned (.string (tx (dg 4 x.y))) ∧ ∃ m, w' = fc m) := fun n => (refDigits_any 4 x.y (fc n) (by omega) (by omega) (by have := hf1.y; omega)).mono (fun _ w1 hh => ⟨hh.1, w1, (hg _ (keepW (hf n) hh.2 (hf n).size)).symm⟩)
  have HMO : Hid (∀ n, Calls Tryd.prog 54 #[.int .i64 (x.m : Int)] (fc n) fun e w' => e = .returned (.string (tx (moN.getD (x.m - 1) []))) ∧ ∃ m, w' = fc m) := fun n => (month_any x.m (fc n) hf1.m0 hf1.m1).mono (fun _ _ hh => ⟨hh.1, n, hh.2⟩)
  have hsl := days_cut x.w hf1.w
  obtain ⟨D, hD⟩ : ∃ D, D = dyL bl x.d := ⟨_, rfl⟩
  have HDL : Hid (D.length = 2) := by rw [hD]; exact dyL_len bl x.d
  have HDY1 : Hid (∀ W, Below V.heap.size V W → W.drew = fc W.drew) := fun W hW => (hg _ (hW.trans ((Below.refl _ _).drew))).symm
  have HO1 : Hid (∀ W, Below V.heap.size V W → W.cell? ⟨w.heap.size, 2, none⟩ = some (.int .i64 (x.d : Int))) := fun W hW => (obc (ob_fr o1 hW)).2.2.1
  have HCase : Hid ((bl = true ∧ x.d < 10 ∧ ⟨#[32]⟩ ++ tx (dg 1 x.d) = tx D ∧ (tx (dg 2 x.d)).extract 1 2 = tx (dg 1 x.d) ∧ (tx (dg 1 x.d)).size = 1 ∧ (tx (dg 2 x.d)).size = 2) ∨ (bl = false ∧ tx (dg 2 x.d) = tx D) ∨ (bl = true ∧ ¬ x.d < 10 ∧ tx (dg 2 x.d) = tx D)) := by
    cases bl with
    | false => exact Or.inr (Or.inl ⟨rfl, by rw [hD]; rfl⟩)
    | true =>
      by_cases h : x.d < 10
      · refine Or.inl ⟨rfl, h, ?_, ?_, by rw [tx_size, dg_len], by rw [tx_size, dg_len]⟩
        · rw [hD]; unfold dyL; rw [decide_eq_true h]; exact tx_app [32] (dg 1 x.d)
        · apply ByteArray.ext; apply Array.toList_inj.1
          rw [ext_list]
          simp [tx, dg]
      · exact Or.inr (Or.inr ⟨rfl, h, by rw [hD]; unfold dyL; rw [decide_eq_false h]; rfl⟩)
  have e1 : tx (wdN.getD x.w []) ++ ⟨#[32]⟩ = tx (wdN.getD x.w [] ++ [32]) := tx_app _ _
  have e2 : tx (wdN.getD x.w [] ++ [32]) ++ tx (moN.getD (x.m - 1) []) = tx (wdN.getD x.w [] ++ [32] ++ moN.getD (x.m - 1) []) := tx_app _ _
  have e3 : tx (wdN.getD x.w [] ++ [32] ++ moN.getD (x.m - 1) []) ++ ⟨#[32]⟩ = tx (wdN.getD x.w [] ++ [32] ++ moN.getD (x.m - 1) [] ++ [32]) := tx_app _ _
  have e4 : tx (wdN.getD x.w [] ++ [32] ++ moN.getD (x.m - 1) [] ++ [32]) ++ tx (D) = tx (wdN.getD x.w [] ++ [32] ++ moN.getD (x.m - 1) [] ++ [32] ++ D) := tx_app _ _
  have e5 : tx (wdN.getD x.w [] ++ [32] ++ moN.getD (x.m - 1) [] ++ [32] ++ D) ++ ⟨#[32]⟩ = tx (wdN.getD x.w [] ++ [32] ++ moN.getD (x.m - 1) [] ++ [32] ++ D ++ [32]) := tx_app _ _
  have e6 : tx (wdN.getD x.w [] ++ [32] ++ moN.getD (x.m - 1) [] ++ [32] ++ D ++ [32]) ++ tx (tmL x) = tx (wdN.getD x.w [] ++ [32] ++ moN.getD (x.m - 1) [] ++ [32] ++ D ++ [32] ++ tmL x) := tx_app _ _
  have e7 : tx (wdN.getD x.w [] ++ [32] ++ moN.getD (x.m - 1) [] ++ [32] ++ D ++ [32] ++ tmL x) ++ ⟨#[32]⟩ = tx (wdN.getD x.w [] ++ [32] ++ moN.getD (x.m - 1) [] ++ [32] ++ D ++ [32] ++ tmL x ++ [32]) := tx_app _ _
  have e8 : tx (wdN.getD x.w [] ++ [32] ++ moN.getD (x.m - 1) [] ++ [32] ++ D ++ [32] ++ tmL x ++ [32]) ++ tx (dg 4 x.y) = tx (wdN.getD x.w [] ++ [32] ++ moN.getD (x.m - 1) [] ++ [32] ++ D ++ [32] ++ tmL x ++ [32] ++ dg 4 x.y) := tx_app _ _
  have s0 : (tx (wdN.getD x.w [])).size ≤ 9 := by rw [tx_size]; rw [wdN_len _ hf1.w]; decide
  have s1 : (⟨#[32]⟩ : ByteArray).size ≤ 9 := by decide
  have s2 : (tx (moN.getD (x.m - 1) [])).size ≤ 9 := by rw [tx_size]; rw [moN_len _ (by have := hf1.m0; have := hf1.m1; omega)]; decide
  have s3 : (⟨#[32]⟩ : ByteArray).size ≤ 9 := by decide
  have s4 : (tx (D)).size ≤ 9 := by rw [tx_size]; rw [HDL.out]; decide
  have s5 : (⟨#[32]⟩ : ByteArray).size ≤ 9 := by decide
  have s6 : (tx (tmL x)).size ≤ 9 := by rw [tx_size]; simp [tmL, dg_len]
  have s7 : (⟨#[32]⟩ : ByteArray).size ≤ 9 := by decide
  have s8 : (tx (dg 4 x.y)).size ≤ 9 := by rw [tx_size]; rw [dg_len]; decide
  have u1 := sum_tx _ _ _ e1 (by omega)
  have z1 : (tx (wdN.getD x.w [] ++ [32])).size ≤ 18 := by have h := congrArg ByteArray.size e1; rw [ByteArray.size_append] at h; omega
  have u2 := sum_tx _ _ _ e2 (by omega)
  have z2 : (tx (wdN.getD x.w [] ++ [32] ++ moN.getD (x.m - 1) [])).size ≤ 27 := by have h := congrArg ByteArray.size e2; rw [ByteArray.size_append] at h; omega
  have u3 := sum_tx _ _ _ e3 (by omega)
  have z3 : (tx (wdN.getD x.w [] ++ [32] ++ moN.getD (x.m - 1) [] ++ [32])).size ≤ 36 := by have h := congrArg ByteArray.size e3; rw [ByteArray.size_append] at h; omega
  have u4 := sum_tx _ _ _ e4 (by omega)
  have z4 : (tx (wdN.getD x.w [] ++ [32] ++ moN.getD (x.m - 1) [] ++ [32] ++ D)).size ≤ 45 := by have h := congrArg ByteArray.size e4; rw [ByteArray.size_append] at h; omega
  have u5 := sum_tx _ _ _ e5 (by omega)
  have z5 : (tx (wdN.getD x.w [] ++ [32] ++ moN.getD (x.m - 1) [] ++ [32] ++ D ++ [32])).size ≤ 54 := by have h := congrArg ByteArray.size e5; rw [ByteArray.size_append] at h; omega
  have u6 := sum_tx _ _ _ e6 (by omega)
  have z6 : (tx (wdN.getD x.w [] ++ [32] ++ moN.getD (x.m - 1) [] ++ [32] ++ D ++ [32] ++ tmL x)).size ≤ 63 := by have h := congrArg ByteArray.size e6; rw [ByteArray.size_append] at h; omega
  have u7 := sum_tx _ _ _ e7 (by omega)
  have z7 : (tx (wdN.getD x.w [] ++ [32] ++ moN.getD (x.m - 1) [] ++ [32] ++ D ++ [32] ++ tmL x ++ [32])).size ≤ 72 := by have h := congrArg ByteArray.size e7; rw [ByteArray.size_append] at h; omega
  have u8 := sum_tx _ _ _ e8 (by omega)
  have HR : Hid (tx (ascL bl x) = tx (wdN.getD x.w [] ++ [32] ++ moN.getD (x.m - 1) [] ++ [32] ++ D ++ [32] ++ tmL x ++ [32] ++ dg 4 x.y)) := by rw [hD]; rfl
  clear e1 e2 e3 e4 e5 e6 e7 e8 s0 s1 s2 s3 s4 s5 s6 s7 s8 z1 z2 z3 z4 z5 z6 z7
  generalize tx (wdN.getD x.w [] ++ [32] ++ moN.getD (x.m - 1) [] ++ [32] ++ D ++ [32] ++ tmL x ++ [32] ++ dg 4 x.y) = Z8 at *
  generalize tx (wdN.getD x.w [] ++ [32] ++ moN.getD (x.m - 1) [] ++ [32] ++ D ++ [32] ++ tmL x ++ [32]) = Z7 at *
  generalize tx (wdN.getD x.w [] ++ [32] ++ moN.getD (x.m - 1) [] ++ [32] ++ D ++ [32] ++ tmL x) = Z6 at *
  generalize tx (wdN.getD x.w [] ++ [32] ++ moN.getD (x.m - 1) [] ++ [32] ++ D ++ [32]) = Z5 at *
  generalize tx (wdN.getD x.w [] ++ [32] ++ moN.getD (x.m - 1) [] ++ [32] ++ D) = Z4 at *
  generalize tx (wdN.getD x.w [] ++ [32] ++ moN.getD (x.m - 1) [] ++ [32]) = Z3 at *
  generalize tx (wdN.getD x.w [] ++ [32] ++ moN.getD (x.m - 1) []) = Z2 at *
  generalize tx (wdN.getD x.w [] ++ [32]) = Z1 at *
  generalize tx (wdN.getD x.w []) = A0 at *
  generalize tx (moN.getD (x.m - 1) []) = A2 at *
  generalize tx (D) = A4 at *
  generalize tx (tmL x) = A6 at *
  generalize tx (dg 4 x.y) = A8 at *
  have hw7 := hf1.w
  have hw7i : (x.w : Int) < 7 := by omega
  have wa : wrap64 (3 * (x.w : Int)) = 3 * (x.w : Int) := wrp _ ⟨by omega, by omega⟩
  have wb : wrap64 (3 * (x.w : Int) + 3) = 3 * (x.w : Int) + 3 := wrp _ ⟨by omega, by omega⟩
  clear hW BA hf hg hsz o1 HDG hf1 hD HDL HD
  unfold dv at *
  go_enter Tryd.func39, Tryd.ntmps39
  go_wp2_with fail
  rw [← HW0.out]
  refine H2.out.mono ?_
  rintro e w1 ⟨rfl, hB1⟩
  have HB1 := hide hB1
  have q2 := HO1.out _ hB1
  clear hB1
  rcases HCase.out with ⟨hbl, h10, hs1, hs2, hs3, hs4⟩ | ⟨hbl, hs1⟩ | ⟨hbl, h10, hs1⟩
  · subst hbl
    have h10d : decide ((x.d : Int) < 10) = true := decide_eq_true (by omega)
    have h10i : (x.d : Int) < 10 := by omega
    have sum1 := sum_tx _ _ _ hs1 (by rw [hs3]; show 1 + 1 ≤ _; omega)
    generalize tx (dg 1 x.d) = B1 at *
    generalize tx (dg 2 x.d) = B2 at *
    clear hs1 HO1 H2 HCase
    go_wp2_with fail
    try simp only [List.append_eq, List.cons_append, List.nil_append]
    refine rc.wp_region_cls fc (by kernel_rfl) (by kernel_rfl) _ (HDY1.out _ HB1.out) ?_
    repeat (go_big_quiet_step (first | with_reducible exact HDY.out _ | with_reducible exact HTM.out _ | with_reducible exact HMO.out _))
    refine wpQuiet_nil ?_
    rintro _ ⟨nq, rfl⟩
    go_wp2_with fail
    go_ret
    exact ⟨by rw [HR.out]; rfl, HB0.out nq⟩
  · subst hbl
    rw [hs1]
    clear hs1 HO1 H2 HCase
    go_wp2_with fail
    try simp only [List.append_eq, List.cons_append, List.nil_append]
    refine rc.wp_region_cls fc (by kernel_rfl) (by kernel_rfl) _ (HDY1.out _ HB1.out) ?_
    repeat (go_big_quiet_step (first | with_reducible exact HDY.out _ | with_reducible exact HTM.out _ | with_reducible exact HMO.out _))
    refine wpQuiet_nil ?_
    rintro _ ⟨nq, rfl⟩
    go_wp2_with fail
    go_ret
    exact ⟨by rw [HR.out]; rfl, HB0.out nq⟩
  · subst hbl
    have h10d : decide ((x.d : Int) < 10) = false := decide_eq_false (by omega)
    have h10i : ¬ (x.d : Int) < 10 := by omega
    rw [hs1]
    clear hs1 HO1 H2 HCase
    go_wp2_with fail
    try simp only [List.append_eq, List.cons_append, List.nil_append]
    refine rc.wp_region_cls fc (by kernel_rfl) (by kernel_rfl) _ (HDY1.out _ HB1.out) ?_
    repeat (go_big_quiet_step (first | with_reducible exact HDY.out _ | with_reducible exact HTM.out _ | with_reducible exact HMO.out _))
    refine wpQuiet_nil ?_
    rintro _ ⟨nq, rfl⟩
    go_wp2_with fail
    go_ret
    exact ⟨by rw [HR.out]; rfl, HB0.out nq⟩
end Go.Proofs.YtbibfneofcphkaaDoor.je
