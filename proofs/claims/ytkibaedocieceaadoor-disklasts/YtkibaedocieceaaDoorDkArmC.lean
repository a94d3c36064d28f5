import Derived.Test.YtkibaedocieceaaDoorDkArmK
namespace Go.Proofs.YtkibaedocieceaaDoor.dk
open Go.ChangeShapes Go.WideShapes Go.ChangeAt Go.RowKit Go.Proofs.YtkibaedocieceaaDoor.common

theorem Run.crash {base : Nat} {w : World} {e : Nat → Addr} {p : Nat} {F : List Nat} {x : St} {j : Nat} (h : Run base w e p F x j) (k : Int) :
    Calls Tryd.prog 18 #[ptr p, .int .i64 k] w fun r' w' => r' = .returned (.tuple #[]) ∧ ∃ F', Run base w' e p F' (x.crash k) j ∧ Fr F w w' ∧ ∀ k ∈ F', k ∈ F ∨ w.heap.size ≤ k := by
  refine (crash_any w p F x k h.disk h.fine).mono ?_
  rintro r' w' ⟨rfl, m⟩
  exact ⟨rfl, h.mv m (h.fine.crash k) (by rw [(crash_arms x k).1]; exact h.arms)⟩
theorem Run.up {base : Nat} {w : World} {e : Nat → Addr} {p : Nat} {F : List Nat} {x : St} {j : Nat} (h : Run base w e p F x j) : Run base w e p F x (j + 1) := ⟨h.disk, h.low, h.err, h.fine, Nat.le_succ_of_le h.arms⟩
/-- how cut ends -/
def CutE (base : Nat) (w : World) (e : Nat → Addr) (p : Nat) (F : List Nat) (y : St) (j : Nat) (r' : Ending) (w' : World) : Prop := r' = .returned (.bool true) ∧ ∃ F', Run base w' e p F' y j ∧ Fr F w w' ∧ ∀ k ∈ F', k ∈ F ∨ w.heap.size ≤ k
theorem CutE.of {base : Nat} {w V w1 w2 : World} {e : Nat → Addr} {p : Nat} {F F1 F2 : List Nat} {y : St} {j : Nat} (hb : Below w.heap.size w V) (f1 : Fr F V w1) (s1 : ∀ k ∈ F1, k ∈ F ∨ V.heap.size ≤ k) (h : Run base w2 e p F2 y j) (f2 : Fr F1 w1 w2) (s2 : ∀ k ∈ F2, k ∈ F1 ∨ w1.heap.size ≤ k) : CutE base w e p F y j (.returned (.bool true)) w2 := by
  have e1 : Fr F w w1 := (Fr.of hb).trans f1 (fun i hi => Or.inl hi)
  refine ⟨rfl, F2, h, e1.trans f2 (fun i hi => (s1 i hi).elim Or.inl (fun h => Or.inr (Nat.le_trans hb.size h))), fun k hk => ?_⟩
  rcases s2 k hk with h | h
  · exact (s1 k h).elim Or.inl (fun h => Or.inr (Nat.le_trans hb.size h))
  · exact Or.inr (Nat.le_trans e1.size h)

set_option maxRecDepth 100000 in
set_option maxHeartbeats 3200000 in
theorem cutL_any (w : World) (base : Nat) (e : Nat → Addr) (p : Nat) (F : List Nat) (y : St) (j : Nat) (h : Run base w e p F y j) (hj : (j + 1) * 16 ≤ 140737488355328) (s : Sp) (keep : Int) (hd : y.d = false) (ha : y.a = []) (ht : s.t.size ≤ reachBytes) (h1 : s.n ≤ 9223372036854775807) (h2 : -9223372036854775808 ≤ s.m) (h3 : s.m ≤ 9223372036854775807) :
    Calls Tryd.prog 23 #[ptr p, spv s, .int .i64 (y.r : Int), .int .i64 keep] w fun r' w' => CutE base w e p F (y.cutAs s keep) (j + 1) r' w' := by
  obtain ⟨V, hV⟩ : ∃ V, V = w.alloc (stc s) := ⟨_, rfl⟩
  have BV : Below w.heap.size w V := by rw [hV]; exact (Below.refl _ _).alloc (Nat.le_refl _) _
  have hX : V.heap[w.heap.size]? = some (stc s) := by rw [hV]; exact heap_alloc_new _ _
  have HV := hide hV
  have HBV := hide BV
  have HX := hide hX
  have HR := hide (h.keep BV)
  have HLT : Hid (w.heap.size ∉ F) := fun hm => by have := h.disk.lt _ hm; omega
  have hgz : w.heap.size < V.heap.size := (Array.getElem?_eq_some_iff.1 hX).1
  have hbm := h.fine.ok.most
  have hrm := h.fine.ok.room
  have HCA := hide (cut_as y s keep hd ha)
  have HT := hide ht
  have hts : s.t.size ≤ 140737488355328 := by unfold reachBytes at ht; omega
  have hwr : IntKind.i64.wrap ((y.b.length : Int) + (s.t.size : Int)) = (y.b.length : Int) + (s.t.size : Int) := by rw [IntKind.wrap_i64]; omega
  clear h hV BV hX ht hd ha
  have c0 : V.cell? ⟨w.heap.size, 0, none⟩ = some (.int .i64 s.k) := cell_of HX.out 0
  by_cases hk : s.k = 1
  · have e1 : (s.k == 1) = true := by rw [hk]; rfl
    have c4 : V.cell? ⟨w.heap.size, 4, none⟩ = some (.string s.t) := cell_of HX.out 4
    have HLK : Hid (Calls Tryd.prog 13 #[] V.drew fun r' w' => r' = .returned (spv lk) ∧ (w'.heap[w.heap.size]? = some (stc s)) ∧ Calls Tryd.prog 12 #[ptr p, spv lk] w' fun r' w'' => ∃ ov cv F', r' = .returned (sdv (.slice ov y.b.length cv) y.s 0) ∧ w''.heap[w.heap.size]? = some (stc s) ∧ Run base w'' e p F' y j ∧ Fr F V w'' ∧ ∀ k ∈ F', k ∈ F ∨ V.heap.size ≤ k) := by
      refine (lookS_any V.drew).mono ?_
      rintro r' w' ⟨rfl, b⟩
      have bV : Below V.heap.size V w' := keepD (Below.refl V.heap.size V).drew b
      refine ⟨rfl, (bV.block _ hgz).trans HX.out, ?_⟩
      refine ((HR.out.keep bV).look hj).mono ?_
      rintro r' w'' ⟨v, F', rfl, hA, hR, hf, hs⟩
      obtain ⟨ov, cv, rfl⟩ := hA.form
      exact ⟨ov, cv, F', rfl, (hf.block _ (Nat.lt_of_lt_of_le hgz bV.size) HLT.out).trans ((bV.block _ hgz).trans HX.out), hR, (Fr.of bV).trans hf (fun i hi => Or.inl hi), fun k hk => (hs k hk).elim Or.inl (fun h => Or.inr (Nat.le_trans bV.size h))⟩
    by_cases hf : y.fits s.t.data.toList = true
    · have hfi : (y.b.length : Int) + (s.t.size : Int) ≤ (y.r : Int) := by
        have := of_decide_eq_true hf
        rw [Array.length_toList] at this
        have e2 : s.t.data.size = s.t.size := rfl
        omega
      have hfd : decide ((y.b.length : Int) + (s.t.size : Int) ≤ (y.r : Int)) = true := decide_eq_true hfi
      obtain ⟨q1, q2⟩ := HCA.out.1 hk hf
      have HQ1 := hide q1
      have HQ2 := hide q2
      clear hf q1 q2 HCA hk
      go_enter Tryd.func23, Tryd.ntmps23
      go_wp2_with fail
      rw [← HV.out]
      go_region_with (first
        | (go_at_call 13; refine HLK.out.mono ?_; rintro r' Y1 ⟨rfl, hg1, hna⟩; have t4 : Y1.cell? ⟨w.heap.size, 4, none⟩ = some (.string s.t) := cell_of hg1 4)
        | (go_at_call 12; refine hna.mono ?_; rintro r' Y2 ⟨ov, cv, F2, rfl, hg2, hr2, hf2, hs2⟩; have u4 : Y2.cell? ⟨w.heap.size, 4, none⟩ = some (.string s.t) := cell_of hg2 4; have hfl := fun n m => fld0 ov y.b.length cv n m Y2; unfold sdv))
      all_goals
        have HR2 := hide hr2
        have HF2 := hide hf2
        have HS2 := hide hs2
        have v0 : Y2.cell? ⟨w.heap.size, 0, none⟩ = some (.int .i64 s.k) := cell_of hg2 0
        have v1 : Y2.cell? ⟨w.heap.size, 0 + 1, none⟩ = some (.int .i64 s.o) := cell_of hg2 1
        have v2 : Y2.cell? ⟨w.heap.size, 0 + 2, none⟩ = some (.int .i64 s.n) := cell_of hg2 2
        have v3 : Y2.cell? ⟨w.heap.size, 0 + 3, none⟩ = some (.int .i64 s.m) := cell_of hg2 3
        have v4 : Y2.cell? ⟨w.heap.size, 0 + 4, none⟩ = some (.string s.t) := cell_of hg2 4
        clear hr2 hf2 hs2 hg2 hg1 hna t4 u4 hfl c0 c4 HLK
        go_wp2_with fail
        refine (HR2.out.act s HT.out hj h1 h2 h3).mono ?_
        rintro r' Y3 ⟨v, F3, rfl, hA3, hR3, hf3, hs3⟩
        obtain ⟨o3, c3, rfl⟩ := hA3.form
        have HR3 := hide hR3
        have HF3 := hide (HF2.out.trans hf3 HS2.out)
        have HS3 : Hid (∀ k ∈ F3, k ∈ F ∨ V.heap.size ≤ k) := fun k hk => (hs3 k hk).elim (fun h => HS2.out k h) (fun h => Or.inr (Nat.le_trans HF2.out.size h))
        rw [HQ2.out]
        have hfl2 := fun n m => fld2 o3 (y.step s).2.l.length c3 n m Y3
        clear hA3 hR3 hf3 hs3 HR2 HF2 HS2 v0 v1 v2 v3 v4
        unfold sdv
        go_wp2_with fail
        refine (HR3.out.crash keep).mono ?_
        rintro r' Y4 ⟨rfl, F4, hr4, hf4, hs4⟩
        rw [HQ1.out] at hr4
        have HZ := hide (CutE.of HBV.out HF3.out HS3.out hr4 hf4 hs4)
        clear hr4 hf4 hs4 HR3 HF3 HS3
        go_wp2
        go_ret
        exact HZ.out
    · have hfi : ¬ (y.b.length : Int) + (s.t.size : Int) ≤ (y.r : Int) := by
        intro hle
        apply hf
        unfold St.fits
        rw [decide_eq_true_iff, Array.length_toList]
        have e2 : s.t.data.size = s.t.size := rfl
        omega
      have hfd : decide ((y.b.length : Int) + (s.t.size : Int) ≤ (y.r : Int)) = false := decide_eq_false hfi
      have q1 := HCA.out.2 (Or.inr (by simpa using hf))
      have HQ1 := hide q1
      clear hf q1 HCA hk
      go_enter Tryd.func23, Tryd.ntmps23
      go_wp2_with fail
      rw [← HV.out]
      go_region_with (first
        | (go_at_call 13; refine HLK.out.mono ?_; rintro r' Y1 ⟨rfl, hg1, hna⟩; have t4 : Y1.cell? ⟨w.heap.size, 4, none⟩ = some (.string s.t) := cell_of hg1 4)
        | (go_at_call 12; refine hna.mono ?_; rintro r' Y2 ⟨ov, cv, F2, rfl, hg2, hr2, hf2, hs2⟩; have u4 : Y2.cell? ⟨w.heap.size, 4, none⟩ = some (.string s.t) := cell_of hg2 4; have hfl := fun n m => fld0 ov y.b.length cv n m Y2; unfold sdv))
      all_goals
        have HR2 := hide hr2
        have HF2 := hide hf2
        have HS2 := hide hs2
        clear hr2 hf2 hs2 hg2 hg1 hna t4 u4 hfl c0 c4 HLK
        go_wp2_with fail
        refine (HR2.out.crash keep).mono ?_
        rintro r' Y4 ⟨rfl, F4, hr4, hf4, hs4⟩
        rw [HQ1.out] at hr4
        have HZ := hide (CutE.of HBV.out HF2.out HS2.out hr4.up hf4 hs4)
        clear hr4 hf4 hs4 HR2 HF2 HS2
        go_wp2
        go_ret
        exact HZ.out
  · have e1 : (s.k == 1) = false := beq_false_of_ne hk
    have q1 := HCA.out.2 (Or.inl hk)
    have HQ1 := hide q1
    clear q1 HCA hk
    have c0' : w.heap.size < V.heap.size := hgz
    go_enter Tryd.func23, Tryd.ntmps23
    go_wp2_with fail
    rw [← HV.out]
    go_quiet (fail)
    go_wp2_with fail
    refine ((HR.out.keep (bdN (Below.refl _ _) nq)).crash keep).mono ?_
    rintro r' Y4 ⟨rfl, F4, hr4, hf4, hs4⟩
    rw [HQ1.out] at hr4
    have HZ := hide (CutE.of HBV.out (Fr.of (bdN (Below.refl _ _) nq)) (fun k hk => Or.inl hk) hr4.up hf4 hs4)
    clear hr4 hf4 hs4
    go_wp2
    go_ret
    exact HZ.out
end Go.Proofs.YtkibaedocieceaaDoor.dk
