import Derived.Test.YtlbhiefamnpphaaDoorJfW2
import Derived.Test.YtlbhiefamnpphaaDoorHeadQ
namespace Go.Proofs.YtlbhiefamnpphaaDoor.jf
open Go.ChangeShapes Go.WideShapes Go.ChangeAt Go.RowKit Go.Proofs.YtlbhiefamnpphaaDoor.common Go.Proofs.YtlbhiefamnpphaaDoor.Jc Go.Proofs.YtlbhiefamnpphaaDoor.jc Go.Proofs.YtlbhiefamnpphaaDoor.je
attribute [local go_sem ↓] Go.wp_at_zero Go.wp_at_succ

/-- the days' names in full, in the law's table -/
def LfT (w : World) : Prop := ∀ i, i < 7 → w.cell? ⟨1, i, none⟩ = some (.string (tx (wdF.getD i [])))
theorem LfT.fr {w w' : World} (h : LfT w) (hb : Below w.heap.size w w') : LfT w' := fun i hi => (hb.cell (World.block_lt_of_cell? _ _ (h i hi))).trans (h i hi)
theorem wdF_len (k : Nat) (h : k < 7) : (wdF.getD k []).length ≤ 9 := by
  match k, h with
  | 0, _ | 1, _ | 2, _ | 3, _ | 4, _ | 5, _ | 6, _ => decide
theorem dyL_len2 (bl : Bool) (d : Nat) : (dyL bl d).length = 2 := by unfold dyL; split <;> simp [dg_len]
abbrev monB : ByteArray := ⟨#[74, 97, 110, 70, 101, 98, 77, 97, 114, 65, 112, 114, 77, 97, 121, 74, 117, 110, 74, 117, 108, 65, 117, 103, 83, 101, 112, 79, 99, 116, 78, 111, 118, 68, 101, 99]⟩
abbrev sunB : ByteArray := ⟨#[83, 117, 110, 77, 111, 110, 84, 117, 101, 87, 101, 100, 84, 104, 117, 70, 114, 105, 83, 97, 116]⟩
theorem mon_cut (m : Nat) (h0 : 1 ≤ m) (h : m ≤ 12) : monB.extract (3 * m - 3) (3 * m) = tx (moN.getD (m - 1) []) := by
  match m, h0, h with
  | 1, _, _ | 2, _, _ | 3, _, _ | 4, _, _ | 5, _, _ | 6, _, _ | 7, _, _ | 8, _, _ | 9, _, _ | 10, _, _ | 11, _, _ | 12, _, _ => exact ByteArray.ext rfl
theorem sun_cut (k : Nat) (h : k < 7) : sunB.extract (3 * k) (3 * k + 3) = tx (wdN.getD k []) := by
  match k, h with
  | 0, _ | 1, _ | 2, _ | 3, _ | 4, _ | 5, _ | 6, _ => exact ByteArray.ext rfl
theorem dg4 (y : Nat) : dg 2 (y / 100) ++ dg 2 (y % 100) = dg 4 y := by
  have e1 : y / 10 / 10 = y / 100 := by rw [Nat.div_div_eq_div_mul]
  have e2 : y % 100 / 10 % 10 = y / 10 % 10 := by omega
  have e3 : y % 100 % 10 = y % 10 := by omega
  simp [dg, e1, e2, e3]
theorem m_facts (m : Nat) (h0 : 1 ≤ m) (h : m ≤ 12) : wrap64 (3 * (m : Int)) = 3 * (m : Int) ∧ wrap64 (3 * (m : Int) - 3) = 3 * (m : Int) - 3 ∧ (3 * (m : Int) - 3).toNat = 3 * m - 3 ∧ (3 * (m : Int)).toNat = 3 * m ∧ (0 : Int) ≤ 3 * (m : Int) - 3 ∧ 3 * (m : Int) - 3 ≤ 3 * (m : Int) ∧ 3 * (m : Int) ≤ 36 := ⟨wrp _ ⟨by omega, by omega⟩, wrp _ ⟨by omega, by omega⟩, by omega, by omega, by omega, by omega, by omega⟩
theorem w_facts (k : Nat) (h : k < 7) : wrap64 (3 * (k : Int)) = 3 * (k : Int) ∧ wrap64 (3 * (k : Int) + 3) = 3 * (k : Int) + 3 ∧ (3 * (k : Int) + 3).toNat = 3 * k + 3 ∧ (3 * (k : Int)).toNat = 3 * k ∧ (0 : Int) ≤ 3 * (k : Int) ∧ 3 * (k : Int) ≤ 3 * (k : Int) + 3 ∧ 3 * (k : Int) + 3 ≤ 21 := ⟨wrp _ ⟨by omega, by omega⟩, wrp _ ⟨by omega, by omega⟩, by omega, by omega, by omega, by omega, by omega⟩
theorem y_wrap (y : Nat) (h : y ≤ 9999) : wrap64 ((y / 100 : Nat) : Int) = ((y / 100 : Nat) : Int) := wrp _ ⟨by omega, by omega⟩
theorem size4 : (Tryd.prog.info? 32).map (·.size) = some 4 := by kernel_rfl
theorem one4 (a b c d : ByteArray) : (#[.string a, .string b, .string c, .string d] : Array Value).all (·.oneCell') = true := all_oneCell_toArray (cs := [.string a, .string b, .string c, .string d]) (fun v hv => by simp at hv; rcases hv with rfl | rfl | rfl | rfl <;> rfl)
theorem four_new (w : World) (a b c d : Value) : (w.alloc (.cells #[a, b, c, d] 32)).heap[w.heap.size]? = some (.cells #[a, b, c, d] 32) := heap_new w _

set_option maxRecDepth 100000 in
set_option maxHeartbeats 6400000 in
theorem forms_any (x : Dt) (hf1 : Fm x) (hd : x.d < 100) (w : World) (hT : LfT w) :
    Calls Tryd.prog 7 #[dv x] w fun e w' => e = .returned (.agg #[.string (tx (imfL x)), .string (tx (rfcL x)), .string (tx (ascL false x)), .string (tx (ascL true x))]) ∧ Below w.heap.size w w' := by
  obtain ⟨V0, hV0⟩ : ∃ V0, V0 = w.alloc (ob x) := ⟨_, rfl⟩
  obtain ⟨V, hV⟩ : ∃ V, V = V0.alloc (.cells #[.string ⟨#[]⟩, .string ⟨#[]⟩, .string ⟨#[]⟩, .string ⟨#[]⟩] 32) := ⟨_, rfl⟩
  have hs0 : V0.heap.size = w.heap.size + 1 := by rw [hV0, World.size_alloc]
  have hs1 : V.heap.size = w.heap.size + 2 := by rw [hV, World.size_alloc, hs0]
  have B0 : Below w.heap.size w V0 := by rw [hV0]; exact (Below.refl _ _).alloc (Nat.le_refl _) _
  have BA : Below w.heap.size w V := by rw [hV]; exact B0.alloc (by omega) _
  have o0 : V.heap[w.heap.size]? = some (ob x) := by rw [hV, hV0]; exact ob_al (heap_new w _) _
  have o1 : V.heap[w.heap.size + 1]? = some (.cells #[.string ⟨#[]⟩, .string ⟨#[]⟩, .string ⟨#[]⟩, .string ⟨#[]⟩] 32) := by rw [hV, ← hs0]; exact heap_new V0 _
  obtain ⟨fc, hf, hg⟩ := rc.class_of V
  have r0 := fun n => (obc (ob_fr o0 (hf n))).1
  have r1 := fun n => (obc (ob_fr o0 (hf n))).2.1
  have r2 := fun n => (obc (ob_fr o0 (hf n))).2.2.1
  have r3 := fun n => (obc (ob_fr o0 (hf n))).2.2.2.1
  have r4 := fun n => (obc (ob_fr o0 (hf n))).2.2.2.2.1
  have r5 := fun n => (obc (ob_fr o0 (hf n))).2.2.2.2.2.1
  have r6 := fun n => (obc (ob_fr o0 (hf n))).2.2.2.2.2.2
  obtain ⟨q0, q1, q2, q3, q4, q5, q6⟩ := obc o0
  have HB0 := hide (fun n => keepW BA (hf n) (by omega))
  have HDNE : Hid (∀ (n : World) (a b c d : Value), ((fc n).setCells (w.heap.size + 1) 0 [a, b, c, d]).rangeAt (w.heap.size + 1) 0 [a, b, c, d] ∧ Below w.heap.size w ((fc n).setCells (w.heap.size + 1) 0 [a, b, c, d]) ∧ (fc n).there (w.heap.size + 1) 0 4) := fun n a b c d => by
    have t : (fc n).there (w.heap.size + 1) 0 4 := there_of (((hf n).block _ (by omega)).trans o1)
    exact ⟨World.rangeAt_setCells_same _ _ _ _ t, below_setCells (keepW BA (hf n) (by omega)) (by omega) _ _, t⟩
  have HV0 := hide hV0
  have HV := hide hV
  have HD : Hid (V.drew = fc V.drew) := (hg _ (Below.refl _ _).drew).symm
  have HDN : Hid (∀ n, (fc n).drew = fc (fc n).drew) := fun n => (hg _ ((hf n).drew)).symm
  haveI : Nonempty World := ⟨w⟩
  have HDG : Hid (∀ k : Nat, k < 100 → ∀ n, Calls Tryd.prog 13 #[.int .i64 (k : Int)] (fc n) fun e w' => e = .returned (.string (tx (dg 2 k))) ∧ ∃ m, w' = fc m) := fun k hk n => (two_any k hk (fc n)).mono (fun _ w1 hh => ⟨hh.1, w1, (hg _ (keepW (hf n) hh.2 (hf n).size)).symm⟩)
  have hlg : ∀ n, (fc n).cell? ⟨1, x.w, none⟩ = some (.string (tx (wdF.getD x.w []))) := fun n => (hT.fr (keepW BA (hf n) (by omega))) x.w hf1.w
  have hx1 := sun_cut x.w hf1.w
  have hx2 := mon_cut x.m hf1.m0 hf1.m1
  obtain ⟨w1, w2, w3, w4, w5, w6, w7⟩ := w_facts x.w hf1.w
  obtain ⟨m1, m2, m3, m4, m5, m6, m7⟩ := m_facts x.m hf1.m0 hf1.m1
  have hy9 : x.y ≤ 9999 := by have := hf1.y; omega
  have yw := y_wrap x.y hy9
  have yd : (x.y : Int).tdiv 100 = ((x.y / 100 : Nat) : Int) := tdivN x.y 100
  have ym : (x.y : Int).tmod 100 = ((x.y % 100 : Nat) : Int) := tmodN x.y 100
  have H2 := hide (HDG.out x.d hd)
  have HYA := hide (HDG.out (x.y / 100) (by omega))
  have HYB := hide (HDG.out (x.y % 100) (Nat.mod_lt _ (by decide)))
  have HH := hide (HDG.out x.h hf1.h)
  have HI := hide (HDG.out x.i hf1.i)
  have HS := hide (HDG.out x.s hf1.s)
  have HDay : Hid ((x.d < 10 ∧ ⟨#[32]⟩ ++ tx (dg 1 x.d) = tx (dyL true x.d) ∧ (tx (dg 2 x.d)).extract 1 2 = tx (dg 1 x.d) ∧ (tx (dg 1 x.d)).size = 1 ∧ (tx (dg 2 x.d)).size = 2) ∨ (¬ x.d < 10 ∧ tx (dg 2 x.d) = tx (dyL true x.d))) := by
    by_cases h : x.d < 10
    · refine Or.inl ⟨h, ?_, ?_, by rw [tx_size, dg_len], by rw [tx_size, dg_len]⟩
      · unfold dyL; rw [decide_eq_true h]; exact tx_app [32] (dg 1 x.d)
      · apply ByteArray.ext; apply Array.toList_inj.1
        rw [ext_list]
        simp [tx, dg]
    · exact Or.inr ⟨h, by unfold dyL; rw [decide_eq_false h]; rfl⟩
  have s0 : (tx (dg 2 x.h)).size ≤ 9 := by rw [tx_size]; rw [dg_len]; decide
  have s1 : (⟨#[58]⟩ : ByteArray).size ≤ 9 := by decide
  have s2 : (tx (dg 2 x.i)).size ≤ 9 := by rw [tx_size]; rw [dg_len]; decide
  have s3 : (tx (dg 2 x.s)).size ≤ 9 := by rw [tx_size]; rw [dg_len]; decide
  have s4 : (tx (wdN.getD x.w [])).size ≤ 9 := by rw [tx_size]; rw [wdN_len _ hf1.w]; decide
  have s5 : (⟨#[44, 32]⟩ : ByteArray).size ≤ 9 := by decide
  have s6 : (tx (dg 2 x.d)).size ≤ 9 := by rw [tx_size]; rw [dg_len]; decide
  have s7 : (⟨#[32]⟩ : ByteArray).size ≤ 9 := by decide
  have s8 : (tx (moN.getD (x.m - 1) [])).size ≤ 9 := by rw [tx_size]; rw [moN_len _ (by have := hf1.m0; have := hf1.m1; omega)]; decide
  have s9 : (tx (dg 4 x.y)).size ≤ 9 := by rw [tx_size]; rw [dg_len]; decide
  have s10 : (tx (tmL x)).size ≤ 9 := by rw [tx_size]; simp [tmL, dg_len]
  have s11 : (⟨#[32, 71, 77, 84]⟩ : ByteArray).size ≤ 9 := by decide
  have s12 : (tx (wdF.getD x.w [])).size ≤ 9 := by rw [tx_size]; exact wdF_len _ hf1.w
  have s13 : (⟨#[45]⟩ : ByteArray).size ≤ 9 := by decide
  have s14 : (tx (dg 2 (x.y % 100))).size ≤ 9 := by rw [tx_size]; rw [dg_len]; decide
  have s15 : (tx (dyL true x.d)).size ≤ 9 := by rw [tx_size]; rw [dyL_len2]; decide
  have e1 : tx (dg 2 x.h) ++ ⟨#[58]⟩ = tx (dg 2 x.h ++ [58]) := tx_app _ _
  have u1 := sum_tx _ _ _ e1 (by omega)
  have z1 : (tx (dg 2 x.h ++ [58])).size ≤ 18 := by have h := congrArg ByteArray.size e1; rw [ByteArray.size_append] at h; omega
  have e2 : tx (dg 2 x.h ++ [58]) ++ tx (dg 2 x.i) = tx (dg 2 x.h ++ [58] ++ dg 2 x.i) := tx_app _ _
  have u2 := sum_tx _ _ _ e2 (by omega)
  have z2 : (tx (dg 2 x.h ++ [58] ++ dg 2 x.i)).size ≤ 27 := by have h := congrArg ByteArray.size e2; rw [ByteArray.size_append] at h; omega
  have e3 : tx (dg 2 x.h ++ [58] ++ dg 2 x.i) ++ ⟨#[58]⟩ = tx (dg 2 x.h ++ [58] ++ dg 2 x.i ++ [58]) := tx_app _ _
  have u3 := sum_tx _ _ _ e3 (by omega)
  have z3 : (tx (dg 2 x.h ++ [58] ++ dg 2 x.i ++ [58])).size ≤ 36 := by have h := congrArg ByteArray.size e3; rw [ByteArray.size_append] at h; omega
  have e4 : tx (dg 2 x.h ++ [58] ++ dg 2 x.i ++ [58]) ++ tx (dg 2 x.s) = tx (tmL x) := tx_app _ _
  have u4 := sum_tx _ _ _ e4 (by omega)
  have z4 : (tx (tmL x)).size ≤ 45 := by have h := congrArg ByteArray.size e4; rw [ByteArray.size_append] at h; omega
  have e5 : tx (wdN.getD x.w []) ++ ⟨#[44, 32]⟩ = tx (wdN.getD x.w [] ++ [44, 32]) := tx_app _ _
  have u5 := sum_tx _ _ _ e5 (by omega)
  have z5 : (tx (wdN.getD x.w [] ++ [44, 32])).size ≤ 18 := by have h := congrArg ByteArray.size e5; rw [ByteArray.size_append] at h; omega
  have e6 : tx (wdN.getD x.w [] ++ [44, 32]) ++ tx (dg 2 x.d) = tx (wdN.getD x.w [] ++ [44, 32] ++ dg 2 x.d) := tx_app _ _
  have u6 := sum_tx _ _ _ e6 (by omega)
  have z6 : (tx (wdN.getD x.w [] ++ [44, 32] ++ dg 2 x.d)).size ≤ 27 := by have h := congrArg ByteArray.size e6; rw [ByteArray.size_append] at h; omega
  have e7 : tx (wdN.getD x.w [] ++ [44, 32] ++ dg 2 x.d) ++ ⟨#[32]⟩ = tx (wdN.getD x.w [] ++ [44, 32] ++ dg 2 x.d ++ [32]) := tx_app _ _
  have u7 := sum_tx _ _ _ e7 (by omega)
  have z7 : (tx (wdN.getD x.w [] ++ [44, 32] ++ dg 2 x.d ++ [32])).size ≤ 36 := by have h := congrArg ByteArray.size e7; rw [ByteArray.size_append] at h; omega
  have e8 : tx (wdN.getD x.w [] ++ [44, 32] ++ dg 2 x.d ++ [32]) ++ tx (moN.getD (x.m - 1) []) = tx (wdN.getD x.w [] ++ [44, 32] ++ dg 2 x.d ++ [32] ++ moN.getD (x.m - 1) []) := tx_app _ _
  have u8 := sum_tx _ _ _ e8 (by omega)
  have z8 : (tx (wdN.getD x.w [] ++ [44, 32] ++ dg 2 x.d ++ [32] ++ moN.getD (x.m - 1) [])).size ≤ 45 := by have h := congrArg ByteArray.size e8; rw [ByteArray.size_append] at h; omega
  have e9 : tx (wdN.getD x.w [] ++ [44, 32] ++ dg 2 x.d ++ [32] ++ moN.getD (x.m - 1) []) ++ ⟨#[32]⟩ = tx (wdN.getD x.w [] ++ [44, 32] ++ dg 2 x.d ++ [32] ++ moN.getD (x.m - 1) [] ++ [32]) := tx_app _ _
  have u9 := sum_tx _ _ _ e9 (by omega)
  have z9 : (tx (wdN.getD x.w [] ++ [44, 32] ++ dg 2 x.d ++ [32] ++ moN.getD (x.m - 1) [] ++ [32])).size ≤ 54 := by have h := congrArg ByteArray.size e9; rw [ByteArray.size_append] at h; omega
  have e10 : tx (wdN.getD x.w [] ++ [44, 32] ++ dg 2 x.d ++ [32] ++ moN.getD (x.m - 1) [] ++ [32]) ++ tx (dg 4 x.y) = tx (wdN.getD x.w [] ++ [44, 32] ++ dg 2 x.d ++ [32] ++ moN.getD (x.m - 1) [] ++ [32] ++ dg 4 x.y) := tx_app _ _
  have u10 := sum_tx _ _ _ e10 (by omega)
  have z10 : (tx (wdN.getD x.w [] ++ [44, 32] ++ dg 2 x.d ++ [32] ++ moN.getD (x.m - 1) [] ++ [32] ++ dg 4 x.y)).size ≤ 63 := by have h := congrArg ByteArray.size e10; rw [ByteArray.size_append] at h; omega
  have e11 : tx (wdN.getD x.w [] ++ [44, 32] ++ dg 2 x.d ++ [32] ++ moN.getD (x.m - 1) [] ++ [32] ++ dg 4 x.y) ++ ⟨#[32]⟩ = tx (wdN.getD x.w [] ++ [44, 32] ++ dg 2 x.d ++ [32] ++ moN.getD (x.m - 1) [] ++ [32] ++ dg 4 x.y ++ [32]) := tx_app _ _
  have u11 := sum_tx _ _ _ e11 (by omega)
  have z11 : (tx (wdN.getD x.w [] ++ [44, 32] ++ dg 2 x.d ++ [32] ++ moN.getD (x.m - 1) [] ++ [32] ++ dg 4 x.y ++ [32])).size ≤ 72 := by have h := congrArg ByteArray.size e11; rw [ByteArray.size_append] at h; omega
  have e12 : tx (wdN.getD x.w [] ++ [44, 32] ++ dg 2 x.d ++ [32] ++ moN.getD (x.m - 1) [] ++ [32] ++ dg 4 x.y ++ [32]) ++ tx (tmL x) = tx (wdN.getD x.w [] ++ [44, 32] ++ dg 2 x.d ++ [32] ++ moN.getD (x.m - 1) [] ++ [32] ++ dg 4 x.y ++ [32] ++ tmL x) := tx_app _ _
  have u12 := sum_tx _ _ _ e12 (by omega)
  have z12 : (tx (wdN.getD x.w [] ++ [44, 32] ++ dg 2 x.d ++ [32] ++ moN.getD (x.m - 1) [] ++ [32] ++ dg 4 x.y ++ [32] ++ tmL x)).size ≤ 81 := by have h := congrArg ByteArray.size e12; rw [ByteArray.size_append] at h; omega
  have e13 : tx (wdN.getD x.w [] ++ [44, 32] ++ dg 2 x.d ++ [32] ++ moN.getD (x.m - 1) [] ++ [32] ++ dg 4 x.y ++ [32] ++ tmL x) ++ ⟨#[32, 71, 77, 84]⟩ = tx (imfL x) := tx_app _ _
  have u13 := sum_tx _ _ _ e13 (by omega)
  have z13 : (tx (imfL x)).size ≤ 90 := by have h := congrArg ByteArray.size e13; rw [ByteArray.size_append] at h; omega
  have e14 : tx (wdF.getD x.w []) ++ ⟨#[44, 32]⟩ = tx (wdF.getD x.w [] ++ [44, 32]) := tx_app _ _
  have u14 := sum_tx _ _ _ e14 (by omega)
  have z14 : (tx (wdF.getD x.w [] ++ [44, 32])).size ≤ 18 := by have h := congrArg ByteArray.size e14; rw [ByteArray.size_append] at h; omega
  have e15 : tx (wdF.getD x.w [] ++ [44, 32]) ++ tx (dg 2 x.d) = tx (wdF.getD x.w [] ++ [44, 32] ++ dg 2 x.d) := tx_app _ _
  have u15 := sum_tx _ _ _ e15 (by omega)
  have z15 : (tx (wdF.getD x.w [] ++ [44, 32] ++ dg 2 x.d)).size ≤ 27 := by have h := congrArg ByteArray.size e15; rw [ByteArray.size_append] at h; omega
  have e16 : tx (wdF.getD x.w [] ++ [44, 32] ++ dg 2 x.d) ++ ⟨#[45]⟩ = tx (wdF.getD x.w [] ++ [44, 32] ++ dg 2 x.d ++ [45]) := tx_app _ _
  have u16 := sum_tx _ _ _ e16 (by omega)
  have z16 : (tx (wdF.getD x.w [] ++ [44, 32] ++ dg 2 x.d ++ [45])).size ≤ 36 := by have h := congrArg ByteArray.size e16; rw [ByteArray.size_append] at h; omega
  have e17 : tx (wdF.getD x.w [] ++ [44, 32] ++ dg 2 x.d ++ [45]) ++ tx (moN.getD (x.m - 1) []) = tx (wdF.getD x.w [] ++ [44, 32] ++ dg 2 x.d ++ [45] ++ moN.getD (x.m - 1) []) := tx_app _ _
  have u17 := sum_tx _ _ _ e17 (by omega)
  have z17 : (tx (wdF.getD x.w [] ++ [44, 32] ++ dg 2 x.d ++ [45] ++ moN.getD (x.m - 1) [])).size ≤ 45 := by have h := congrArg ByteArray.size e17; rw [ByteArray.size_append] at h; omega
  have e18 : tx (wdF.getD x.w [] ++ [44, 32] ++ dg 2 x.d ++ [45] ++ moN.getD (x.m - 1) []) ++ ⟨#[45]⟩ = tx (wdF.getD x.w [] ++ [44, 32] ++ dg 2 x.d ++ [45] ++ moN.getD (x.m - 1) [] ++ [45]) := tx_app _ _
  have u18 := sum_tx _ _ _ e18 (by omega)
  have z18 : (tx (wdF.getD x.w [] ++ [44, 32] ++ dg 2 x.d ++ [45] ++ moN.getD (x.m - 1) [] ++ [45])).size ≤ 54 := by have h := congrArg ByteArray.size e18; rw [ByteArray.size_append] at h; omega
  have e19 : tx (wdF.getD x.w [] ++ [44, 32] ++ dg 2 x.d ++ [45] ++ moN.getD (x.m - 1) [] ++ [45]) ++ tx (dg 2 (x.y % 100)) = tx (wdF.getD x.w [] ++ [44, 32] ++ dg 2 x.d ++ [45] ++ moN.getD (x.m - 1) [] ++ [45] ++ dg 2 (x.y % 100)) := tx_app _ _
  have u19 := sum_tx _ _ _ e19 (by omega)
  have z19 : (tx (wdF.getD x.w [] ++ [44, 32] ++ dg 2 x.d ++ [45] ++ moN.getD (x.m - 1) [] ++ [45] ++ dg 2 (x.y % 100))).size ≤ 63 := by have h := congrArg ByteArray.size e19; rw [ByteArray.size_append] at h; omega
  have e20 : tx (wdF.getD x.w [] ++ [44, 32] ++ dg 2 x.d ++ [45] ++ moN.getD (x.m - 1) [] ++ [45] ++ dg 2 (x.y % 100)) ++ ⟨#[32]⟩ = tx (wdF.getD x.w [] ++ [44, 32] ++ dg 2 x.d ++ [45] ++ moN.getD (x.m - 1) [] ++ [45] ++ dg 2 (x.y % 100) ++ [32]) := tx_app _ _
  have u20 := sum_tx _ _ _ e20 (by omega)
  have z20 : (tx (wdF.getD x.w [] ++ [44, 32] ++ dg 2 x.d ++ [45] ++ moN.getD (x.m - 1) [] ++ [45] ++ dg 2 (x.y % 100) ++ [32])).size ≤ 72 := by have h := congrArg ByteArray.size e20; rw [ByteArray.size_append] at h; omega
  have e21 : tx (wdF.getD x.w [] ++ [44, 32] ++ dg 2 x.d ++ [45] ++ moN.getD (x.m - 1) [] ++ [45] ++ dg 2 (x.y % 100) ++ [32]) ++ tx (tmL x) = tx (wdF.getD x.w [] ++ [44, 32] ++ dg 2 x.d ++ [45] ++ moN.getD (x.m - 1) [] ++ [45] ++ dg 2 (x.y % 100) ++ [32] ++ tmL x) := tx_app _ _
  have u21 := sum_tx _ _ _ e21 (by omega)
  have z21 : (tx (wdF.getD x.w [] ++ [44, 32] ++ dg 2 x.d ++ [45] ++ moN.getD (x.m - 1) [] ++ [45] ++ dg 2 (x.y % 100) ++ [32] ++ tmL x)).size ≤ 81 := by have h := congrArg ByteArray.size e21; rw [ByteArray.size_append] at h; omega
  have e22 : tx (wdF.getD x.w [] ++ [44, 32] ++ dg 2 x.d ++ [45] ++ moN.getD (x.m - 1) [] ++ [45] ++ dg 2 (x.y % 100) ++ [32] ++ tmL x) ++ ⟨#[32, 71, 77, 84]⟩ = tx (rfcL x) := tx_app _ _
  have u22 := sum_tx _ _ _ e22 (by omega)
  have z22 : (tx (rfcL x)).size ≤ 90 := by have h := congrArg ByteArray.size e22; rw [ByteArray.size_append] at h; omega
  have e23 : tx (wdN.getD x.w []) ++ ⟨#[32]⟩ = tx (wdN.getD x.w [] ++ [32]) := tx_app _ _
  have u23 := sum_tx _ _ _ e23 (by omega)
  have z23 : (tx (wdN.getD x.w [] ++ [32])).size ≤ 18 := by have h := congrArg ByteArray.size e23; rw [ByteArray.size_append] at h; omega
  have e24 : tx (wdN.getD x.w [] ++ [32]) ++ tx (moN.getD (x.m - 1) []) = tx (wdN.getD x.w [] ++ [32] ++ moN.getD (x.m - 1) []) := tx_app _ _
  have u24 := sum_tx _ _ _ e24 (by omega)
  have z24 : (tx (wdN.getD x.w [] ++ [32] ++ moN.getD (x.m - 1) [])).size ≤ 27 := by have h := congrArg ByteArray.size e24; rw [ByteArray.size_append] at h; omega
  have e25 : tx (wdN.getD x.w [] ++ [32] ++ moN.getD (x.m - 1) []) ++ ⟨#[32]⟩ = tx (wdN.getD x.w [] ++ [32] ++ moN.getD (x.m - 1) [] ++ [32]) := tx_app _ _
  have u25 := sum_tx _ _ _ e25 (by omega)
  have z25 : (tx (wdN.getD x.w [] ++ [32] ++ moN.getD (x.m - 1) [] ++ [32])).size ≤ 36 := by have h := congrArg ByteArray.size e25; rw [ByteArray.size_append] at h; omega
  have e26 : tx (wdN.getD x.w [] ++ [32] ++ moN.getD (x.m - 1) [] ++ [32]) ++ tx (dg 2 x.d) = tx (wdN.getD x.w [] ++ [32] ++ moN.getD (x.m - 1) [] ++ [32] ++ dg 2 x.d) := tx_app _ _
  have u26 := sum_tx _ _ _ e26 (by omega)
  have z26 : (tx (wdN.getD x.w [] ++ [32] ++ moN.getD (x.m - 1) [] ++ [32] ++ dg 2 x.d)).size ≤ 45 := by have h := congrArg ByteArray.size e26; rw [ByteArray.size_append] at h; omega
  have e27 : tx (wdN.getD x.w [] ++ [32] ++ moN.getD (x.m - 1) [] ++ [32] ++ dg 2 x.d) ++ ⟨#[32]⟩ = tx (wdN.getD x.w [] ++ [32] ++ moN.getD (x.m - 1) [] ++ [32] ++ dg 2 x.d ++ [32]) := tx_app _ _
  have u27 := sum_tx _ _ _ e27 (by omega)
  have z27 : (tx (wdN.getD x.w [] ++ [32] ++ moN.getD (x.m - 1) [] ++ [32] ++ dg 2 x.d ++ [32])).size ≤ 54 := by have h := congrArg ByteArray.size e27; rw [ByteArray.size_append] at h; omega
  have e28 : tx (wdN.getD x.w [] ++ [32] ++ moN.getD (x.m - 1) [] ++ [32] ++ dg 2 x.d ++ [32]) ++ tx (tmL x) = tx (wdN.getD x.w [] ++ [32] ++ moN.getD (x.m - 1) [] ++ [32] ++ dg 2 x.d ++ [32] ++ tmL x) := tx_app _ _
  have u28 := sum_tx _ _ _ e28 (by omega)
  have z28 : (tx (wdN.getD x.w [] ++ [32] ++ moN.getD (x.m - 1) [] ++ [32] ++ dg 2 x.d ++ [32] ++ tmL x)).size ≤ 63 := by have h := congrArg ByteArray.size e28; rw [ByteArray.size_append] at h; omega
  have e29 : tx (wdN.getD x.w [] ++ [32] ++ moN.getD (x.m - 1) [] ++ [32] ++ dg 2 x.d ++ [32] ++ tmL x) ++ ⟨#[32]⟩ = tx (wdN.getD x.w [] ++ [32] ++ moN.getD (x.m - 1) [] ++ [32] ++ dg 2 x.d ++ [32] ++ tmL x ++ [32]) := tx_app _ _
  have u29 := sum_tx _ _ _ e29 (by omega)
  have z29 : (tx (wdN.getD x.w [] ++ [32] ++ moN.getD (x.m - 1) [] ++ [32] ++ dg 2 x.d ++ [32] ++ tmL x ++ [32])).size ≤ 72 := by have h := congrArg ByteArray.size e29; rw [ByteArray.size_append] at h; omega
  have e30 : tx (wdN.getD x.w [] ++ [32] ++ moN.getD (x.m - 1) [] ++ [32] ++ dg 2 x.d ++ [32] ++ tmL x ++ [32]) ++ tx (dg 4 x.y) = tx (ascL false x) := tx_app _ _
  have u30 := sum_tx _ _ _ e30 (by omega)
  have z30 : (tx (ascL false x)).size ≤ 81 := by have h := congrArg ByteArray.size e30; rw [ByteArray.size_append] at h; omega
  have e31 : tx (wdN.getD x.w [] ++ [32] ++ moN.getD (x.m - 1) [] ++ [32]) ++ tx (dyL true x.d) = tx (wdN.getD x.w [] ++ [32] ++ moN.getD (x.m - 1) [] ++ [32] ++ dyL true x.d) := tx_app _ _
  have u31 := sum_tx _ _ _ e31 (by omega)
  have z31 : (tx (wdN.getD x.w [] ++ [32] ++ moN.getD (x.m - 1) [] ++ [32] ++ dyL true x.d)).size ≤ 45 := by have h := congrArg ByteArray.size e31; rw [ByteArray.size_append] at h; omega
  have e32 : tx (wdN.getD x.w [] ++ [32] ++ moN.getD (x.m - 1) [] ++ [32] ++ dyL true x.d) ++ ⟨#[32]⟩ = tx (wdN.getD x.w [] ++ [32] ++ moN.getD (x.m - 1) [] ++ [32] ++ dyL true x.d ++ [32]) := tx_app _ _
  have u32 := sum_tx _ _ _ e32 (by omega)
  have z32 : (tx (wdN.getD x.w [] ++ [32] ++ moN.getD (x.m - 1) [] ++ [32] ++ dyL true x.d ++ [32])).size ≤ 54 := by have h := congrArg ByteArray.size e32; rw [ByteArray.size_append] at h; omega
  have e33 : tx (wdN.getD x.w [] ++ [32] ++ moN.getD (x.m - 1) [] ++ [32] ++ dyL true x.d ++ [32]) ++ tx (tmL x) = tx (wdN.getD x.w [] ++ [32] ++ moN.getD (x.m - 1) [] ++ [32] ++ dyL true x.d ++ [32] ++ tmL x) := tx_app _ _
  have u33 := sum_tx _ _ _ e33 (by omega)
  have z33 : (tx (wdN.getD x.w [] ++ [32] ++ moN.getD (x.m - 1) [] ++ [32] ++ dyL true x.d ++ [32] ++ tmL x)).size ≤ 63 := by have h := congrArg ByteArray.size e33; rw [ByteArray.size_append] at h; omega
  have e34 : tx (wdN.getD x.w [] ++ [32] ++ moN.getD (x.m - 1) [] ++ [32] ++ dyL true x.d ++ [32] ++ tmL x) ++ ⟨#[32]⟩ = tx (wdN.getD x.w [] ++ [32] ++ moN.getD (x.m - 1) [] ++ [32] ++ dyL true x.d ++ [32] ++ tmL x ++ [32]) := tx_app _ _
  have u34 := sum_tx _ _ _ e34 (by omega)
  have z34 : (tx (wdN.getD x.w [] ++ [32] ++ moN.getD (x.m - 1) [] ++ [32] ++ dyL true x.d ++ [32] ++ tmL x ++ [32])).size ≤ 72 := by have h := congrArg ByteArray.size e34; rw [ByteArray.size_append] at h; omega
  have e35 : tx (wdN.getD x.w [] ++ [32] ++ moN.getD (x.m - 1) [] ++ [32] ++ dyL true x.d ++ [32] ++ tmL x ++ [32]) ++ tx (dg 4 x.y) = tx (ascL true x) := tx_app _ _
  have u35 := sum_tx _ _ _ e35 (by omega)
  have z35 : (tx (ascL true x)).size ≤ 81 := by have h := congrArg ByteArray.size e35; rw [ByteArray.size_append] at h; omega
  have eY : tx (dg 2 (x.y / 100)) ++ tx (dg 2 (x.y % 100)) = tx (dg 4 x.y) := (tx_app _ _).trans (congrArg tx (dg4 x.y))
  have uY := sum_tx _ _ _ eY (by rw [tx_size, tx_size, dg_len, dg_len]; decide)
  clear e1 z1 e2 z2 e3 z3 e4 z4 e5 z5 e6 z6 e7 z7 e8 z8 e9 z9 e10 z10 e11 z11 e12 z12 e13 z13 e14 z14 e15 z15 e16 z16 e17 z17 e18 z18 e19 z19 e20 z20 e21 z21 e22 z22 e23 z23 e24 z24 e25 z25 e26 z26 e27 z27 e28 z28 e29 z29 e30 z30 e31 z31 e32 z32 e33 z33 e34 z34 e35 z35 s0 s1 s2 s3 s4 s5 s6 s7 s8 s9 s10 s11 s12 s13 s14 s15 eY
  generalize tx (rfcL x) = Z22 at *
  generalize tx (imfL x) = Z13 at *
  generalize tx (wdF.getD x.w [] ++ [44, 32] ++ dg 2 x.d ++ [45] ++ moN.getD (x.m - 1) [] ++ [45] ++ dg 2 (x.y % 100) ++ [32] ++ tmL x) = Z21 at *
  generalize tx (wdN.getD x.w [] ++ [44, 32] ++ dg 2 x.d ++ [32] ++ moN.getD (x.m - 1) [] ++ [32] ++ dg 4 x.y ++ [32] ++ tmL x) = Z12 at *
  generalize tx (ascL true x) = Z35 at *
  generalize tx (wdF.getD x.w [] ++ [44, 32] ++ dg 2 x.d ++ [45] ++ moN.getD (x.m - 1) [] ++ [45] ++ dg 2 (x.y % 100) ++ [32]) = Z20 at *
  generalize tx (ascL false x) = Z30 at *
  generalize tx (wdN.getD x.w [] ++ [44, 32] ++ dg 2 x.d ++ [32] ++ moN.getD (x.m - 1) [] ++ [32] ++ dg 4 x.y ++ [32]) = Z11 at *
  generalize tx (wdF.getD x.w [] ++ [44, 32] ++ dg 2 x.d ++ [45] ++ moN.getD (x.m - 1) [] ++ [45] ++ dg 2 (x.y % 100)) = Z19 at *
  generalize tx (wdN.getD x.w [] ++ [32] ++ moN.getD (x.m - 1) [] ++ [32] ++ dyL true x.d ++ [32] ++ tmL x ++ [32]) = Z34 at *
  generalize tx (wdN.getD x.w [] ++ [32] ++ moN.getD (x.m - 1) [] ++ [32] ++ dg 2 x.d ++ [32] ++ tmL x ++ [32]) = Z29 at *
  generalize tx (wdN.getD x.w [] ++ [44, 32] ++ dg 2 x.d ++ [32] ++ moN.getD (x.m - 1) [] ++ [32] ++ dg 4 x.y) = Z10 at *
  generalize tx (wdN.getD x.w [] ++ [32] ++ moN.getD (x.m - 1) [] ++ [32] ++ dyL true x.d ++ [32] ++ tmL x) = Z33 at *
  generalize tx (wdN.getD x.w [] ++ [32] ++ moN.getD (x.m - 1) [] ++ [32] ++ dg 2 x.d ++ [32] ++ tmL x) = Z28 at *
  generalize tx (wdN.getD x.w [] ++ [44, 32] ++ dg 2 x.d ++ [32] ++ moN.getD (x.m - 1) [] ++ [32]) = Z9 at *
  generalize tx (wdF.getD x.w [] ++ [44, 32] ++ dg 2 x.d ++ [45] ++ moN.getD (x.m - 1) [] ++ [45]) = Z18 at *
  generalize tx (wdN.getD x.w [] ++ [32] ++ moN.getD (x.m - 1) [] ++ [32] ++ dyL true x.d ++ [32]) = Z32 at *
  generalize tx (wdN.getD x.w [] ++ [32] ++ moN.getD (x.m - 1) [] ++ [32] ++ dg 2 x.d ++ [32]) = Z27 at *
  generalize tx (wdN.getD x.w [] ++ [44, 32] ++ dg 2 x.d ++ [32] ++ moN.getD (x.m - 1) []) = Z8 at *
  generalize tx (wdF.getD x.w [] ++ [44, 32] ++ dg 2 x.d ++ [45] ++ moN.getD (x.m - 1) []) = Z17 at *
  generalize tx (wdN.getD x.w [] ++ [32] ++ moN.getD (x.m - 1) [] ++ [32] ++ dyL true x.d) = Z31 at *
  generalize tx (wdN.getD x.w [] ++ [32] ++ moN.getD (x.m - 1) [] ++ [32] ++ dg 2 x.d) = Z26 at *
  generalize tx (wdN.getD x.w [] ++ [32] ++ moN.getD (x.m - 1) [] ++ [32]) = Z25 at *
  generalize tx (wdN.getD x.w [] ++ [32] ++ moN.getD (x.m - 1) []) = Z24 at *
  generalize tx (wdN.getD x.w [] ++ [44, 32] ++ dg 2 x.d ++ [32]) = Z7 at *
  generalize tx (wdF.getD x.w [] ++ [44, 32] ++ dg 2 x.d ++ [45]) = Z16 at *
  generalize tx (wdN.getD x.w [] ++ [44, 32] ++ dg 2 x.d) = Z6 at *
  generalize tx (wdF.getD x.w [] ++ [44, 32] ++ dg 2 x.d) = Z15 at *
  generalize tx (dg 2 x.h ++ [58] ++ dg 2 x.i ++ [58]) = Z3 at *
  generalize tx (dg 2 x.h ++ [58] ++ dg 2 x.i) = Z2 at *
  generalize tx (wdN.getD x.w [] ++ [44, 32]) = Z5 at *
  generalize tx (wdF.getD x.w [] ++ [44, 32]) = Z14 at *
  generalize tx (wdN.getD x.w [] ++ [32]) = Z23 at *
  generalize tx (dg 2 x.h ++ [58]) = Z1 at *
  generalize tx (dg 2 x.h) = A0 at *
  generalize tx (dg 2 x.i) = A2 at *
  generalize tx (dg 2 x.s) = A3 at *
  generalize tx (wdN.getD x.w []) = A4 at *
  generalize tx (dg 2 x.d) = A6 at *
  generalize tx (moN.getD (x.m - 1) []) = A8 at *
  generalize tx (dg 4 x.y) = A9 at *
  generalize tx (wdF.getD x.w []) = A12 at *
  generalize tx (dg 2 (x.y % 100)) = A14 at *
  generalize tx (dyL true x.d) = A15 at *
  generalize tx (tmL x) = AT at *
  generalize tx (dg 2 (x.y / 100)) = AY at *
  generalize x.y / 100 = yq at *
  generalize x.y % 100 = yr at *
  have hw7 : (x.w : Int) < 7 := by have := hf1.w; omega
  clear B0 BA o0 o1 hf hg hV0 hV HDG hT hy9 hf1 hs0 hs1 hd
  unfold dv
  go_enter Tryd.func7, Tryd.ntmps7
  go_wp2_with fail
  rw [← HV0.out, ← HV.out]
  try simp only [List.append_eq, List.cons_append, List.nil_append]
  refine rc.wp_region_cls fc (by kernel_rfl) (by kernel_rfl) _ HD.out ?_
  repeat (go_big_quiet_step (first | with_reducible exact HYA.out _ | with_reducible exact HYB.out _))
  refine wpQuiet_nil ?_
  rintro _ ⟨n1, rfl⟩
  go_wp2_with fail
  try simp only [List.append_eq, List.cons_append, List.nil_append]
  refine rc.wp_region_cls fc (by kernel_rfl) (by kernel_rfl) _ (HDN.out n1) ?_
  repeat (go_big_quiet_step (first | with_reducible exact HH.out _ | with_reducible exact HI.out _ | with_reducible exact HS.out _))
  refine wpQuiet_nil ?_
  rintro _ ⟨n2, rfl⟩
  go_wp2_with fail
  refine (H2.out n2).mono ?_
  rintro e w1 ⟨rfl, n3, rfl⟩
  rcases HDay.out with ⟨h10, hs1, hs2, hs3, hs4⟩ | ⟨h10, hs1⟩
  · have h10d : decide ((x.d : Int) < 10) = true := decide_eq_true (by omega)
    have h10i : (x.d : Int) < 10 := by omega
    have sum1 := sum_tx _ _ _ hs1 (by rw [hs3]; show 1 + 1 ≤ _; omega)
    generalize tx (dg 1 x.d) = B1 at *
    clear HDay h10
    go_wp2_with fail
    try simp only [List.append_eq, List.cons_append, List.nil_append]
    refine hq.wp_region_headn 67 fc (by kernel_rfl) (by kernel_rfl) (by kernel_rfl) (by kernel_rfl) (by kernel_rfl) _ (HDN.out n3) ?_
    simp only [List.take_succ_cons, List.take_zero, List.drop_succ_cons, List.drop_zero]
    repeat (go_big_quiet_step (first | with_reducible exact H2.out _ | with_reducible exact HYB.out _))
    refine wpQuiet_nil ?_
    rintro _ ⟨n4, rfl⟩
    obtain ⟨k1, k2, k3⟩ := HDNE.out n4 (.string Z13) (.string Z22) (.string Z30) (.string Z35)
    have K1 := hide k1
    have K2 := hide k2
    clear k1 k2
    refine wpAny_ready (rs := [67]) (by kernel_rfl) (by simp) ?_
    refine AllReady.cons (o := { dst := none, op := Op.store 32 (.tmp 2) (.tmp 121), type := _, pos := _, after := _, guard := none }) rfl (fun K hK => ?_) AllReady.nil
    rw [if_pos (by rfl)]
    refine wp_store_mid 32 (.tmp 2) (.tmp 121) rfl (w.heap.size + 1) 0 #[.string Z13, .string Z22, .string Z30, .string Z35] rfl rfl k3 size4 (one4 _ _ _ _) ?_
    refine hK _ _ ?_
    refine wpAny_done (by kernel_rfl) ?_ _
    simp only [Act.put]
    go_wp2_with fail
    refine bodyPost_ret (v := .agg #[.string Z13, .string Z22, .string Z30, .string Z35]) (results_cell1 (b := w.heap.size + 1) (o := 0) (cs := [.string Z13, .string Z22, .string Z30, .string Z35]) Tryd.results7 _ rfl K1.out Tryd.underlying32 rfl size4) rfl ⟨rfl, K2.out⟩
  · have h10d : decide ((x.d : Int) < 10) = false := decide_eq_false (by omega)
    have h10i : ¬ (x.d : Int) < 10 := by omega
    rw [hs1]
    clear HDay h10 hs1
    go_wp2_with fail
    try simp only [List.append_eq, List.cons_append, List.nil_append]
    refine hq.wp_region_headn 67 fc (by kernel_rfl) (by kernel_rfl) (by kernel_rfl) (by kernel_rfl) (by kernel_rfl) _ (HDN.out n3) ?_
    simp only [List.take_succ_cons, List.take_zero, List.drop_succ_cons, List.drop_zero]
    repeat (go_big_quiet_step (first | with_reducible exact H2.out _ | with_reducible exact HYB.out _))
    refine wpQuiet_nil ?_
    rintro _ ⟨n4, rfl⟩
    obtain ⟨k1, k2, k3⟩ := HDNE.out n4 (.string Z13) (.string Z22) (.string Z30) (.string Z35)
    have K1 := hide k1
    have K2 := hide k2
    clear k1 k2
    refine wpAny_ready (rs := [67]) (by kernel_rfl) (by simp) ?_
    refine AllReady.cons (o := { dst := none, op := Op.store 32 (.tmp 2) (.tmp 121), type := _, pos := _, after := _, guard := none }) rfl (fun K hK => ?_) AllReady.nil
    rw [if_pos (by rfl)]
    refine wp_store_mid 32 (.tmp 2) (.tmp 121) rfl (w.heap.size + 1) 0 #[.string Z13, .string Z22, .string Z30, .string Z35] rfl rfl k3 size4 (one4 _ _ _ _) ?_
    refine hK _ _ ?_
    refine wpAny_done (by kernel_rfl) ?_ _
    simp only [Act.put]
    go_wp2_with fail
    refine bodyPost_ret (v := .agg #[.string Z13, .string Z22, .string Z30, .string Z35]) (results_cell1 (b := w.heap.size + 1) (o := 0) (cs := [.string Z13, .string Z22, .string Z30, .string Z35]) Tryd.results7 _ rfl K1.out Tryd.underlying32 rfl size4) rfl ⟨rfl, K2.out⟩
end Go.Proofs.YtlbhiefamnpphaaDoor.jf
