import Derived.Test.YtkibaedocieceaaDoorDkLast
import Derived.Deep.RegionLaw
namespace Go.Proofs.YtkibaedocieceaaDoor.dk
open Go.ChangeShapes Go.WideShapes Go.ChangeAt Go.RowKit Go.Proofs.YtkibaedocieceaaDoor.common

set_option maxRecDepth 100000 in
set_option maxHeartbeats 3200000 in
theorem lasts_app (base : Nat) (W0 w : World) (e : Nat → Addr) (p h : Nat) (F H : List Nat) (x : St) (j : Nat) (t : Jt base W0 w e p h F H x (x.b.take x.s) x.b (x.a.length : Int) j) (hs : base ≤ w.heap.size) (hj : (j + 1) * 16 ≤ 140737488355328) (hj2 : (j + 1 + 1) * 16 ≤ 140737488355328) (s : Sp) (ht : s.t.size ≤ reachBytes) (h1 : s.n ≤ 9223372036854775807) (h2 : -9223372036854775808 ≤ s.m) (h3 : s.m ≤ 9223372036854775807) (hk : s.k = 1) (hfit : x.b.length + s.t.size ≤ 140738562097152) (z : St) (hz1 : z.b = x.b ++ s.t.data.toList) (hz2 : z.s = x.s) (hz3 : z.a.length = x.a.length) (hst : x.step s = (z, ⟨[], 0, 0⟩)) :
    Calls Tryd.prog 25 #[ptr h, ptr p, spv s, .bool false, .bool false] w fun r' w' => LastE base W0 e p h (x.step s).1 j r' w' := by
  obtain ⟨V, hV⟩ : ∃ V, V = w.alloc (stc s) := ⟨_, rfl⟩
  have BV : Below w.heap.size w V := by rw [hV]; exact (Below.refl _ _).alloc (Nat.le_refl _) _
  have hXV : V.heap[w.heap.size]? = some (stc s) := by rw [hV]; exact heap_alloc_new _ _
  have hzV : V.heap.size = w.heap.size + 1 := by rw [hV]; simp
  have HTV := hide (t.keep BV hs)
  have HV := hide hV
  have HXV := hide hXV
  have HNF : Hid (w.heap.size ∉ F) := fun hm => by have := t.run.disk.lt _ hm; omega
  have hbm := t.run.fine.ok.most
  have hsm := t.run.fine.ok.syn
  have HACT := hide ((HTV.out.run).act s ht hj h1 h2 h3)
  rw [hst] at HACT ⊢
  dsimp only at HACT ⊢
  have e1 : (s.k == 1) = true := by rw [hk]; rfl
  have e2 : (s.k == 2) = false := by rw [hk]; rfl
  have e3 : (s.k == 3) = false := by rw [hk]; rfl
  have e5 : (s.k == 5) = false := by rw [hk]; rfl
  have e6 : (s.k == 6) = false := by rw [hk]; rfl
  have e9 : (s.k == 9) = false := by rw [hk]; rfl
  have HZ1 := hide hz1
  have HZ2 := hide hz2
  have HZ3 := hide hz3
  clear hk hz1 hz2 hz3
  clear t hV BV hXV hst
  go_enter Tryd.func25, Tryd.ntmps25
  go_wp2_with fail
  rw [← HV.out]
  refine HACT.out.mono ?_
  rintro r' w1 ⟨v1, F1, rfl, hA1, hR1, hf1, hs1⟩
  have hT1 := HTV.out.disk (by omega) hR1 hf1 hs1
  have hS1 := (hf1.block _ (by omega) HNF.out).trans HXV.out
  have hz1 : V.heap.size ≤ w1.heap.size := hf1.size
  obtain ⟨ov, cv, hvv⟩ := hA1.form
  subst hvv
  have HRV := hide hA1.rd
  obtain ⟨X, hX⟩ : ∃ X, X = w1.alloc (.cells #[.slice ov 0 cv, .int .i64 0, .int .i64 0] 31) := ⟨_, rfl⟩
  have BX : Below w1.heap.size w1 X := by rw [hX]; exact (Below.refl _ _).alloc (Nat.le_refl _) _
  have hGX : X.heap[w1.heap.size]? = some (.cells #[.slice ov 0 cv, .int .i64 0, .int .i64 0] 31) := by rw [hX]; exact heap_alloc_new _ _
  have hbs : base ≤ w1.heap.size := by omega
  have HTX := hide (hT1.keep BX hbs)
  have HRX := hide (HRV.out.below BX)
  have hSX := (BX.block _ (by omega)).trans hS1
  have hbX : base ≤ X.heap.size := by have := BX.size; omega
  have hzX : w1.heap.size < X.heap.size := (Array.getElem?_eq_some_iff.1 hGX).1
  have c0 : X.cell? ⟨w.heap.size, 0, none⟩ = some (.int .i64 s.k) := cell_of hSX 0
  have c1 : X.cell? ⟨w.heap.size, 0 + 1, none⟩ = some (.int .i64 s.o) := cell_of hSX 1
  have c2 : X.cell? ⟨w.heap.size, 0 + 2, none⟩ = some (.int .i64 s.n) := cell_of hSX 2
  have c3 : X.cell? ⟨w.heap.size, 0 + 3, none⟩ = some (.int .i64 s.m) := cell_of hSX 3
  have c4 : X.cell? ⟨w.heap.size, 4, none⟩ = some (.string s.t) := cell_of hSX 4
  have c4' : X.cell? ⟨w.heap.size, 0 + 4, none⟩ = some (.string s.t) := cell_of hSX 4
  have d0 : X.cell? ⟨w1.heap.size, 0, none⟩ = some (.slice ov 0 cv) := cell_of hGX 0
  have d1 : X.cell? ⟨w1.heap.size, 1, none⟩ = some (.int .i64 0) := cell_of hGX 1
  have d2 : X.cell? ⟨w1.heap.size, 2, none⟩ = some (.int .i64 0) := cell_of hGX 2
  have HX := hide hX
  have HSX := hide hSX
  have HGX := hide hGX
  obtain ⟨uG, uA, u1, u2, u3, u4, hH⟩ := HTX.out.held.ex
  obtain ⟨oG, cG, hvG, hcG⟩ := own_form u2
  subst hvG
  obtain ⟨oA, cA, hvA, hcA⟩ := own_form u3
  subst hvA
  have hhX := (Array.getElem?_eq_some_iff.1 u1).1
  have HU1 := hide u1
  have HU3 := hide u3
  have g0 : X.cell? ⟨h, 0, none⟩ = some (.slice oG (x.b.take x.s).length cG) := cell_of u1 0
  have g1 : X.cell? ⟨h, 1, none⟩ = some (.slice oA x.b.length cA) := cell_of u1 1
  have g2 : X.cell? ⟨h, 2, none⟩ = some (.int .i64 (x.a.length : Int)) := cell_of u1 2
  have f1 : X.frozen? ⟨h, 1, none⟩ = false := free_of u1 1
  have f0 : X.frozen? ⟨h, 0, none⟩ = false := free_of u1 0
  have f2 : X.frozen? ⟨h, 2, none⟩ = false := free_of u1 2
  have HRA := hide (rd_own u3)
  have har : x.a.length ≤ 8796093022207 := by have := HTV.out.run.arms; omega
  rw [hX] at c0 c1 c2 c3 c4 c4' d0 d1 d2 g0 g1 g2 f0 f1 f2
  clear hT1 hS1 hA1 hR1 hf1 hs1 BX hX hGX hSX u1 u2 u3 u4 hH HRV
  obtain ⟨v', W', hrun, o', f', hv'⟩ := append_text X.drew base (.slice oA x.b.length cA) x.b (own_keep HU3.out (fun _ _ => rfl)) s.t hfit hbX
  have hnA : h ∉ (Value.slice oA x.b.length cA).ownBlock.toList := fun hm => by
    obtain ⟨_, _, cur, hc⟩ := own_lt HU3.out h (by simpa using hm)
    rw [HU1.out] at hc
    simp at hc
  have hw1 := (f'.block h hhX hnA).trans HU1.out
  have q1 : W'.cell? ⟨h, 1, none⟩ = some (.slice oA x.b.length cA) := cell_of hw1 1
  have qf : W'.frozen? ⟨h, 1, none⟩ = false := free_of hw1 1
  have gq : X.cell? ⟨h, 1, none⟩ = some (.slice oA x.b.length cA) := cell_of HU1.out 1
  have cq : X.cell? ⟨w.heap.size, 4, none⟩ = some (.string s.t) := cell_of HSX.out 4
  obtain ⟨H9, hT9⟩ := (HTX.out.keep ((Below.refl X.heap.size X).drew) hbX).app hbX gq v' o' f' hv'
  obtain ⟨oq, cq', hvq, _⟩ := own_form o'
  have hlq : (x.b ++ s.t.data.toList).length = x.b.length + s.t.size := by rw [List.length_append]; rfl
  rw [hlq] at hvq
  subst hvq
  have HT9 := hide hT9
  clear o' f' hv' hw1 hT9 hnA HTX
  go_wp2_with fail
  rw [← HX.out]
  go_region_law ((refine step_append_run rfl _ _ 28 9 rfl _ _ rfl rfl _ _ hrun ?_))
  all_goals
    go_wp2
    go_ret
    exact lastE HT9.out (by rw [HZ1.out, HZ2.out, List.take_append_of_le_length hsm]) HZ1.out.symm (by rw [HZ3.out])

set_option maxRecDepth 100000 in
set_option maxHeartbeats 3200000 in
theorem lasts_sync (base : Nat) (W0 w : World) (e : Nat → Addr) (p h : Nat) (F H : List Nat) (x : St) (j : Nat) (t : Jt base W0 w e p h F H x (x.b.take x.s) x.b (x.a.length : Int) j) (hs : base ≤ w.heap.size) (hj : (j + 1) * 16 ≤ 140737488355328) (hj2 : (j + 1 + 1) * 16 ≤ 140737488355328) (s : Sp) (ht : s.t.size ≤ reachBytes) (h1 : s.n ≤ 9223372036854775807) (h2 : -9223372036854775808 ≤ s.m) (h3 : s.m ≤ 9223372036854775807) (hk : s.k = 2) (z : St) (hz1 : z.b = x.b) (hz2 : z.s = x.b.length) (hz3 : z.a.length = x.a.length) (hst : x.step s = (z, ⟨[], 0, 0⟩)) :
    Calls Tryd.prog 25 #[ptr h, ptr p, spv s, .bool false, .bool false] w fun r' w' => LastE base W0 e p h (x.step s).1 j r' w' := by
  obtain ⟨V, hV⟩ : ∃ V, V = w.alloc (stc s) := ⟨_, rfl⟩
  have BV : Below w.heap.size w V := by rw [hV]; exact (Below.refl _ _).alloc (Nat.le_refl _) _
  have hXV : V.heap[w.heap.size]? = some (stc s) := by rw [hV]; exact heap_alloc_new _ _
  have hzV : V.heap.size = w.heap.size + 1 := by rw [hV]; simp
  have HTV := hide (t.keep BV hs)
  have HV := hide hV
  have HXV := hide hXV
  have HNF : Hid (w.heap.size ∉ F) := fun hm => by have := t.run.disk.lt _ hm; omega
  have hbm := t.run.fine.ok.most
  have hsm := t.run.fine.ok.syn
  have HACT := hide ((HTV.out.run).act s ht hj h1 h2 h3)
  rw [hst] at HACT ⊢
  dsimp only at HACT ⊢
  have e1 : (s.k == 1) = false := by rw [hk]; rfl
  have e2 : (s.k == 2) = true := by rw [hk]; rfl
  have e3 : (s.k == 3) = false := by rw [hk]; rfl
  have e5 : (s.k == 5) = false := by rw [hk]; rfl
  have e6 : (s.k == 6) = false := by rw [hk]; rfl
  have e9 : (s.k == 9) = false := by rw [hk]; rfl
  have HZ1 := hide hz1
  have HZ2 := hide hz2
  have HZ3 := hide hz3
  clear hk hz1 hz2 hz3
  clear t hV BV hXV hst
  go_enter Tryd.func25, Tryd.ntmps25
  go_wp2_with fail
  rw [← HV.out]
  refine HACT.out.mono ?_
  rintro r' w1 ⟨v1, F1, rfl, hA1, hR1, hf1, hs1⟩
  have hT1 := HTV.out.disk (by omega) hR1 hf1 hs1
  have hS1 := (hf1.block _ (by omega) HNF.out).trans HXV.out
  have hz1 : V.heap.size ≤ w1.heap.size := hf1.size
  obtain ⟨ov, cv, hvv⟩ := hA1.form
  subst hvv
  have HRV := hide hA1.rd
  obtain ⟨X, hX⟩ : ∃ X, X = w1.alloc (.cells #[.slice ov 0 cv, .int .i64 0, .int .i64 0] 31) := ⟨_, rfl⟩
  have BX : Below w1.heap.size w1 X := by rw [hX]; exact (Below.refl _ _).alloc (Nat.le_refl _) _
  have hGX : X.heap[w1.heap.size]? = some (.cells #[.slice ov 0 cv, .int .i64 0, .int .i64 0] 31) := by rw [hX]; exact heap_alloc_new _ _
  have hbs : base ≤ w1.heap.size := by omega
  have HTX := hide (hT1.keep BX hbs)
  have HRX := hide (HRV.out.below BX)
  have hSX := (BX.block _ (by omega)).trans hS1
  have hbX : base ≤ X.heap.size := by have := BX.size; omega
  have hzX : w1.heap.size < X.heap.size := (Array.getElem?_eq_some_iff.1 hGX).1
  have c0 : X.cell? ⟨w.heap.size, 0, none⟩ = some (.int .i64 s.k) := cell_of hSX 0
  have c1 : X.cell? ⟨w.heap.size, 0 + 1, none⟩ = some (.int .i64 s.o) := cell_of hSX 1
  have c2 : X.cell? ⟨w.heap.size, 0 + 2, none⟩ = some (.int .i64 s.n) := cell_of hSX 2
  have c3 : X.cell? ⟨w.heap.size, 0 + 3, none⟩ = some (.int .i64 s.m) := cell_of hSX 3
  have c4 : X.cell? ⟨w.heap.size, 4, none⟩ = some (.string s.t) := cell_of hSX 4
  have c4' : X.cell? ⟨w.heap.size, 0 + 4, none⟩ = some (.string s.t) := cell_of hSX 4
  have d0 : X.cell? ⟨w1.heap.size, 0, none⟩ = some (.slice ov 0 cv) := cell_of hGX 0
  have d1 : X.cell? ⟨w1.heap.size, 1, none⟩ = some (.int .i64 0) := cell_of hGX 1
  have d2 : X.cell? ⟨w1.heap.size, 2, none⟩ = some (.int .i64 0) := cell_of hGX 2
  have HX := hide hX
  have HSX := hide hSX
  have HGX := hide hGX
  obtain ⟨uG, uA, u1, u2, u3, u4, hH⟩ := HTX.out.held.ex
  obtain ⟨oG, cG, hvG, hcG⟩ := own_form u2
  subst hvG
  obtain ⟨oA, cA, hvA, hcA⟩ := own_form u3
  subst hvA
  have hhX := (Array.getElem?_eq_some_iff.1 u1).1
  have HU1 := hide u1
  have HU3 := hide u3
  have g0 : X.cell? ⟨h, 0, none⟩ = some (.slice oG (x.b.take x.s).length cG) := cell_of u1 0
  have g1 : X.cell? ⟨h, 1, none⟩ = some (.slice oA x.b.length cA) := cell_of u1 1
  have g2 : X.cell? ⟨h, 2, none⟩ = some (.int .i64 (x.a.length : Int)) := cell_of u1 2
  have f1 : X.frozen? ⟨h, 1, none⟩ = false := free_of u1 1
  have f0 : X.frozen? ⟨h, 0, none⟩ = false := free_of u1 0
  have f2 : X.frozen? ⟨h, 2, none⟩ = false := free_of u1 2
  have HRA := hide (rd_own u3)
  have har : x.a.length ≤ 8796093022207 := by have := HTV.out.run.arms; omega
  rw [hX] at c0 c1 c2 c3 c4 c4' d0 d1 d2 g0 g1 g2 f0 f1 f2
  clear hT1 hS1 hA1 hR1 hf1 hs1 BX hX hGX hSX u1 u2 u3 u4 hH HRV
  go_wp2_with fail
  rw [← HX.out]
  refine (copy_any X _ x.b HRA.out hbm).mono ?_
  rintro r' w7 ⟨v7, rfl, o7, b7⟩
  obtain ⟨H7, hT7⟩ := HTX.out.set0 hbX b7 v7 o7
  obtain ⟨oo7, cc7, hv7, _⟩ := own_form o7
  subst hv7
  have y1 := (b7.block _ hhX).trans HU1.out
  have n0 : w7.cell? ⟨h, 0, none⟩ = some (.slice oG (x.b.take x.s).length cG) := cell_of y1 0
  have nf : w7.frozen? ⟨h, 0, none⟩ = false := free_of y1 0
  have HT7 := hide hT7
  clear o7 b7 hT7 y1 HTX
  go_wp2
  go_ret
  exact lastE HT7.out (by rw [HZ1.out, HZ2.out, List.take_length]) HZ1.out.symm (by rw [HZ3.out])

set_option maxRecDepth 100000 in
set_option maxHeartbeats 3200000 in
theorem lasts_read (base : Nat) (W0 w : World) (e : Nat → Addr) (p h : Nat) (F H : List Nat) (x : St) (j : Nat) (t : Jt base W0 w e p h F H x (x.b.take x.s) x.b (x.a.length : Int) j) (hs : base ≤ w.heap.size) (hj : (j + 1) * 16 ≤ 140737488355328) (hj2 : (j + 1 + 1) * 16 ≤ 140737488355328) (s : Sp) (ht : s.t.size ≤ reachBytes) (h1 : s.n ≤ 9223372036854775807) (h2 : -9223372036854775808 ≤ s.m) (h3 : s.m ≤ 9223372036854775807) (hk : s.k = 3) (z : St) (hz1 : z.b = x.b) (hz2 : z.s = x.s) (hz3 : z.a.length = x.a.length) (hst : x.step s = (z, ⟨x.b, 0, 0⟩)) :
    Calls Tryd.prog 25 #[ptr h, ptr p, spv s, .bool false, .bool false] w fun r' w' => LastE base W0 e p h (x.step s).1 j r' w' := by
  obtain ⟨V, hV⟩ : ∃ V, V = w.alloc (stc s) := ⟨_, rfl⟩
  have BV : Below w.heap.size w V := by rw [hV]; exact (Below.refl _ _).alloc (Nat.le_refl _) _
  have hXV : V.heap[w.heap.size]? = some (stc s) := by rw [hV]; exact heap_alloc_new _ _
  have hzV : V.heap.size = w.heap.size + 1 := by rw [hV]; simp
  have HTV := hide (t.keep BV hs)
  have HV := hide hV
  have HXV := hide hXV
  have HNF : Hid (w.heap.size ∉ F) := fun hm => by have := t.run.disk.lt _ hm; omega
  have hbm := t.run.fine.ok.most
  have hsm := t.run.fine.ok.syn
  have HACT := hide ((HTV.out.run).act s ht hj h1 h2 h3)
  rw [hst] at HACT ⊢
  dsimp only at HACT ⊢
  have e1 : (s.k == 1) = false := by rw [hk]; rfl
  have e2 : (s.k == 2) = false := by rw [hk]; rfl
  have e3 : (s.k == 3) = true := by rw [hk]; rfl
  have e5 : (s.k == 5) = false := by rw [hk]; rfl
  have e6 : (s.k == 6) = false := by rw [hk]; rfl
  have e9 : (s.k == 9) = false := by rw [hk]; rfl
  have HZ1 := hide hz1
  have HZ2 := hide hz2
  have HZ3 := hide hz3
  clear hk hz1 hz2 hz3
  clear t hV BV hXV hst
  go_enter Tryd.func25, Tryd.ntmps25
  go_wp2_with fail
  rw [← HV.out]
  refine HACT.out.mono ?_
  rintro r' w1 ⟨v1, F1, rfl, hA1, hR1, hf1, hs1⟩
  have hT1 := HTV.out.disk (by omega) hR1 hf1 hs1
  have hS1 := (hf1.block _ (by omega) HNF.out).trans HXV.out
  have hz1 : V.heap.size ≤ w1.heap.size := hf1.size
  obtain ⟨ov, cv, hvv⟩ := hA1.form
  subst hvv
  have HRV := hide hA1.rd
  obtain ⟨X, hX⟩ : ∃ X, X = w1.alloc (.cells #[.slice ov x.b.length cv, .int .i64 0, .int .i64 0] 31) := ⟨_, rfl⟩
  have BX : Below w1.heap.size w1 X := by rw [hX]; exact (Below.refl _ _).alloc (Nat.le_refl _) _
  have hGX : X.heap[w1.heap.size]? = some (.cells #[.slice ov x.b.length cv, .int .i64 0, .int .i64 0] 31) := by rw [hX]; exact heap_alloc_new _ _
  have hbs : base ≤ w1.heap.size := by omega
  have HTX := hide (hT1.keep BX hbs)
  have HRX := hide (HRV.out.below BX)
  have hSX := (BX.block _ (by omega)).trans hS1
  have hbX : base ≤ X.heap.size := by have := BX.size; omega
  have hzX : w1.heap.size < X.heap.size := (Array.getElem?_eq_some_iff.1 hGX).1
  have c0 : X.cell? ⟨w.heap.size, 0, none⟩ = some (.int .i64 s.k) := cell_of hSX 0
  have c1 : X.cell? ⟨w.heap.size, 0 + 1, none⟩ = some (.int .i64 s.o) := cell_of hSX 1
  have c2 : X.cell? ⟨w.heap.size, 0 + 2, none⟩ = some (.int .i64 s.n) := cell_of hSX 2
  have c3 : X.cell? ⟨w.heap.size, 0 + 3, none⟩ = some (.int .i64 s.m) := cell_of hSX 3
  have c4 : X.cell? ⟨w.heap.size, 4, none⟩ = some (.string s.t) := cell_of hSX 4
  have c4' : X.cell? ⟨w.heap.size, 0 + 4, none⟩ = some (.string s.t) := cell_of hSX 4
  have d0 : X.cell? ⟨w1.heap.size, 0, none⟩ = some (.slice ov x.b.length cv) := cell_of hGX 0
  have d1 : X.cell? ⟨w1.heap.size, 1, none⟩ = some (.int .i64 0) := cell_of hGX 1
  have d2 : X.cell? ⟨w1.heap.size, 2, none⟩ = some (.int .i64 0) := cell_of hGX 2
  have HX := hide hX
  have HSX := hide hSX
  have HGX := hide hGX
  obtain ⟨uG, uA, u1, u2, u3, u4, hH⟩ := HTX.out.held.ex
  obtain ⟨oG, cG, hvG, hcG⟩ := own_form u2
  subst hvG
  obtain ⟨oA, cA, hvA, hcA⟩ := own_form u3
  subst hvA
  have hhX := (Array.getElem?_eq_some_iff.1 u1).1
  have HU1 := hide u1
  have HU3 := hide u3
  have g0 : X.cell? ⟨h, 0, none⟩ = some (.slice oG (x.b.take x.s).length cG) := cell_of u1 0
  have g1 : X.cell? ⟨h, 1, none⟩ = some (.slice oA x.b.length cA) := cell_of u1 1
  have g2 : X.cell? ⟨h, 2, none⟩ = some (.int .i64 (x.a.length : Int)) := cell_of u1 2
  have f1 : X.frozen? ⟨h, 1, none⟩ = false := free_of u1 1
  have f0 : X.frozen? ⟨h, 0, none⟩ = false := free_of u1 0
  have f2 : X.frozen? ⟨h, 2, none⟩ = false := free_of u1 2
  have HRA := hide (rd_own u3)
  have har : x.a.length ≤ 8796093022207 := by have := HTV.out.run.arms; omega
  rw [hX] at c0 c1 c2 c3 c4 c4' d0 d1 d2 g0 g1 g2 f0 f1 f2
  clear hT1 hS1 hA1 hR1 hf1 hs1 BX hX hGX hSX u1 u2 u3 u4 hH HRV
  have k0 : ∀ Y, Below X.heap.size X Y → Y.cell? ⟨w1.heap.size, 0, none⟩ = some (.slice ov x.b.length cv) := fun Y hY => cell_of ((hY.block _ hzX).trans HGX.out) 0
  have k1 : ∀ Y, Below X.heap.size X Y → Y.cell? ⟨h, 1, none⟩ = some (.slice oA x.b.length cA) := fun Y hY => cell_of ((hY.block _ hhX).trans HU1.out) 1
  have HSB : Hid (∀ Y, Below X.heap.size X Y → Calls Tryd.prog 14 #[.slice ov x.b.length cv, .slice oA x.b.length cA] Y fun r' w' => r' = .returned (.bool true) ∧ Below Y.heap.size Y w') := fun Y hY => sameBytes_eq Y _ _ x.b (HRX.out.below hY) (HRA.out.below hY) (by omega)
  go_wp2_with fail
  rw [← HX.out]
  go_region_held3 (fun Y => Below X.heap.size X Y)
      (first
        | exact Below.refl _ _
        | assumption
        | exact keepD (by assumption) (by assumption)
        | exact Below.drew (by assumption)
        | exact (Below.refl _ _).drew)
      ((go_at_call 14; refine (HSB.out _ (by assumption)).mono ?_; rintro x' w5 ⟨rfl, b5⟩))
  all_goals
    have HB5 : Hid (Below X.heap.size X w5) := by assumption
    have HT5 := hide (HTX.out.keep HB5.out hbX)
    clear b5 HTX k0 k1 HSB
    go_wp2
    go_ret
    exact lastE HT5.out (by rw [HZ1.out, HZ2.out]) HZ1.out.symm (by rw [HZ3.out])

set_option maxRecDepth 100000 in
set_option maxHeartbeats 3200000 in
theorem lasts_9false (base : Nat) (W0 w : World) (e : Nat → Addr) (p h : Nat) (F H : List Nat) (x : St) (j : Nat) (t : Jt base W0 w e p h F H x (x.b.take x.s) x.b (x.a.length : Int) j) (hs : base ≤ w.heap.size) (hj : (j + 1) * 16 ≤ 140737488355328) (hj2 : (j + 1 + 1) * 16 ≤ 140737488355328) (s : Sp) (ht : s.t.size ≤ reachBytes) (h1 : s.n ≤ 9223372036854775807) (h2 : -9223372036854775808 ≤ s.m) (h3 : s.m ≤ 9223372036854775807) (hk : s.k = 9) (hst : x.step s = (x, ⟨x.b, (x.s : Int), 0⟩)) :
    Calls Tryd.prog 25 #[ptr h, ptr p, spv s, .bool false, .bool false] w fun r' w' => LastE base W0 e p h (x.step s).1 j r' w' := by
  obtain ⟨V, hV⟩ : ∃ V, V = w.alloc (stc s) := ⟨_, rfl⟩
  have BV : Below w.heap.size w V := by rw [hV]; exact (Below.refl _ _).alloc (Nat.le_refl _) _
  have hXV : V.heap[w.heap.size]? = some (stc s) := by rw [hV]; exact heap_alloc_new _ _
  have hzV : V.heap.size = w.heap.size + 1 := by rw [hV]; simp
  have HTV := hide (t.keep BV hs)
  have HV := hide hV
  have HXV := hide hXV
  have HNF : Hid (w.heap.size ∉ F) := fun hm => by have := t.run.disk.lt _ hm; omega
  have hbm := t.run.fine.ok.most
  have hsm := t.run.fine.ok.syn
  have HACT := hide ((HTV.out.run).act s ht hj h1 h2 h3)
  rw [hst] at HACT ⊢
  dsimp only at HACT ⊢
  have e1 : (s.k == 1) = false := by rw [hk]; rfl
  have e2 : (s.k == 2) = false := by rw [hk]; rfl
  have e3 : (s.k == 3) = false := by rw [hk]; rfl
  have e5 : (s.k == 5) = false := by rw [hk]; rfl
  have e6 : (s.k == 6) = false := by rw [hk]; rfl
  have e9 : (s.k == 9) = true := by rw [hk]; rfl
  clear hk
  clear t hV BV hXV hst
  go_enter Tryd.func25, Tryd.ntmps25
  go_wp2_with fail
  rw [← HV.out]
  refine HACT.out.mono ?_
  rintro r' w1 ⟨v1, F1, rfl, hA1, hR1, hf1, hs1⟩
  have hT1 := HTV.out.disk (by omega) hR1 hf1 hs1
  have hS1 := (hf1.block _ (by omega) HNF.out).trans HXV.out
  have hz1 : V.heap.size ≤ w1.heap.size := hf1.size
  obtain ⟨ov, cv, hvv⟩ := hA1.form
  subst hvv
  have HRV := hide hA1.rd
  obtain ⟨X, hX⟩ : ∃ X, X = w1.alloc (.cells #[.slice ov x.b.length cv, .int .i64 (x.s : Int), .int .i64 0] 31) := ⟨_, rfl⟩
  have BX : Below w1.heap.size w1 X := by rw [hX]; exact (Below.refl _ _).alloc (Nat.le_refl _) _
  have hGX : X.heap[w1.heap.size]? = some (.cells #[.slice ov x.b.length cv, .int .i64 (x.s : Int), .int .i64 0] 31) := by rw [hX]; exact heap_alloc_new _ _
  have hbs : base ≤ w1.heap.size := by omega
  have HTX := hide (hT1.keep BX hbs)
  have HRX := hide (HRV.out.below BX)
  have hSX := (BX.block _ (by omega)).trans hS1
  have hbX : base ≤ X.heap.size := by have := BX.size; omega
  have hzX : w1.heap.size < X.heap.size := (Array.getElem?_eq_some_iff.1 hGX).1
  have c0 : X.cell? ⟨w.heap.size, 0, none⟩ = some (.int .i64 s.k) := cell_of hSX 0
  have c1 : X.cell? ⟨w.heap.size, 0 + 1, none⟩ = some (.int .i64 s.o) := cell_of hSX 1
  have c2 : X.cell? ⟨w.heap.size, 0 + 2, none⟩ = some (.int .i64 s.n) := cell_of hSX 2
  have c3 : X.cell? ⟨w.heap.size, 0 + 3, none⟩ = some (.int .i64 s.m) := cell_of hSX 3
  have c4 : X.cell? ⟨w.heap.size, 4, none⟩ = some (.string s.t) := cell_of hSX 4
  have c4' : X.cell? ⟨w.heap.size, 0 + 4, none⟩ = some (.string s.t) := cell_of hSX 4
  have d0 : X.cell? ⟨w1.heap.size, 0, none⟩ = some (.slice ov x.b.length cv) := cell_of hGX 0
  have d1 : X.cell? ⟨w1.heap.size, 1, none⟩ = some (.int .i64 (x.s : Int)) := cell_of hGX 1
  have d2 : X.cell? ⟨w1.heap.size, 2, none⟩ = some (.int .i64 0) := cell_of hGX 2
  have HX := hide hX
  have HSX := hide hSX
  have HGX := hide hGX
  obtain ⟨uG, uA, u1, u2, u3, u4, hH⟩ := HTX.out.held.ex
  obtain ⟨oG, cG, hvG, hcG⟩ := own_form u2
  subst hvG
  obtain ⟨oA, cA, hvA, hcA⟩ := own_form u3
  subst hvA
  have hhX := (Array.getElem?_eq_some_iff.1 u1).1
  have HU1 := hide u1
  have HU3 := hide u3
  have g0 : X.cell? ⟨h, 0, none⟩ = some (.slice oG (x.b.take x.s).length cG) := cell_of u1 0
  have g1 : X.cell? ⟨h, 1, none⟩ = some (.slice oA x.b.length cA) := cell_of u1 1
  have g2 : X.cell? ⟨h, 2, none⟩ = some (.int .i64 (x.a.length : Int)) := cell_of u1 2
  have f1 : X.frozen? ⟨h, 1, none⟩ = false := free_of u1 1
  have f0 : X.frozen? ⟨h, 0, none⟩ = false := free_of u1 0
  have f2 : X.frozen? ⟨h, 2, none⟩ = false := free_of u1 2
  have HRA := hide (rd_own u3)
  have har : x.a.length ≤ 8796093022207 := by have := HTV.out.run.arms; omega
  rw [hX] at c0 c1 c2 c3 c4 c4' d0 d1 d2 g0 g1 g2 f0 f1 f2
  clear hT1 hS1 hA1 hR1 hf1 hs1 BX hX hGX hSX u1 u2 u3 u4 hH HRV
  have k0 : ∀ Y, Below X.heap.size X Y → Y.cell? ⟨w1.heap.size, 0, none⟩ = some (.slice ov x.b.length cv) := fun Y hY => cell_of ((hY.block _ hzX).trans HGX.out) 0
  have k1 : ∀ Y, Below X.heap.size X Y → Y.cell? ⟨h, 1, none⟩ = some (.slice oA x.b.length cA) := fun Y hY => cell_of ((hY.block _ hhX).trans HU1.out) 1
  have HSB : Hid (∀ Y, Below X.heap.size X Y → Calls Tryd.prog 14 #[.slice ov x.b.length cv, .slice oA x.b.length cA] Y fun r' w' => r' = .returned (.bool true) ∧ Below Y.heap.size Y w') := fun Y hY => sameBytes_eq Y _ _ x.b (HRX.out.below hY) (HRA.out.below hY) (by omega)
  have k2 : ∀ Y, Below X.heap.size X Y → Y.cell? ⟨w1.heap.size, 1, none⟩ = some (.int .i64 (x.s : Int)) := fun Y hY => cell_of ((hY.block _ hzX).trans HGX.out) 1
  have k3 : ∀ Y, Below X.heap.size X Y → Y.cell? ⟨h, 0, none⟩ = some (.slice oG x.s cG) := fun Y hY => by
    have := cell_of ((hY.block _ hhX).trans HU1.out) 0
    have hgl : (x.b.take x.s).length = x.s := by rw [List.length_take]; omega
    rw [hgl] at this
    exact this
  go_wp2_with fail
  rw [← HX.out]
  go_region_held3 (fun Y => Below X.heap.size X Y)
      (first
        | exact Below.refl _ _
        | assumption
        | exact keepD (by assumption) (by assumption)
        | exact Below.drew (by assumption)
        | exact (Below.refl _ _).drew)
      ((go_at_call 14; refine (HSB.out _ (by assumption)).mono ?_; rintro x' w5 ⟨rfl, b5⟩))
  all_goals
    have HB5 : Hid (Below X.heap.size X w5) := by assumption
    have HT5 := hide (HTX.out.keep HB5.out hbX)
    clear b5 HTX k0 k1 k2 k3 HSB
    go_wp2
    go_ret
    exact lastE HT5.out rfl rfl rfl

set_option maxRecDepth 100000 in
set_option maxHeartbeats 3200000 in
theorem lasts_9true (base : Nat) (W0 w : World) (e : Nat → Addr) (p h : Nat) (F H : List Nat) (x : St) (j : Nat) (t : Jt base W0 w e p h F H x (x.b.take x.s) x.b (x.a.length : Int) j) (hs : base ≤ w.heap.size) (hj : (j + 1) * 16 ≤ 140737488355328) (hj2 : (j + 1 + 1) * 16 ≤ 140737488355328) (s : Sp) (ht : s.t.size ≤ reachBytes) (h1 : s.n ≤ 9223372036854775807) (h2 : -9223372036854775808 ≤ s.m) (h3 : s.m ≤ 9223372036854775807) (hk : s.k = 9) (hop : opB s = false) (hst : x.step s = (x, ⟨x.b, (x.s : Int), 0⟩)) :
    Calls Tryd.prog 25 #[ptr h, ptr p, spv s, .bool true, .bool false] w fun r' w' => LastE base W0 e p h (x.step s).1 j r' w' := by
  obtain ⟨V, hV⟩ : ∃ V, V = w.alloc (stc s) := ⟨_, rfl⟩
  have BV : Below w.heap.size w V := by rw [hV]; exact (Below.refl _ _).alloc (Nat.le_refl _) _
  have hXV : V.heap[w.heap.size]? = some (stc s) := by rw [hV]; exact heap_alloc_new _ _
  have hzV : V.heap.size = w.heap.size + 1 := by rw [hV]; simp
  have HTV := hide (t.keep BV hs)
  have HV := hide hV
  have HXV := hide hXV
  have HNF : Hid (w.heap.size ∉ F) := fun hm => by have := t.run.disk.lt _ hm; omega
  have hbm := t.run.fine.ok.most
  have hsm := t.run.fine.ok.syn
  have HACT := hide ((HTV.out.run).act s ht hj h1 h2 h3)
  rw [hst] at HACT ⊢
  dsimp only at HACT ⊢
  have e1 : (s.k == 1) = false := by rw [hk]; rfl
  have e2 : (s.k == 2) = false := by rw [hk]; rfl
  have e3 : (s.k == 3) = false := by rw [hk]; rfl
  have e5 : (s.k == 5) = false := by rw [hk]; rfl
  have e6 : (s.k == 6) = false := by rw [hk]; rfl
  have e9 : (s.k == 9) = true := by rw [hk]; rfl
  have HOP := hide (fun W => operation_any W s)
  rw [hop] at HOP
  clear hk hop
  clear t hV BV hXV hst
  go_enter Tryd.func25, Tryd.ntmps25
  go_wp2_with fail
  rw [← HV.out]
  refine HACT.out.mono ?_
  rintro r' w1 ⟨v1, F1, rfl, hA1, hR1, hf1, hs1⟩
  have hT1 := HTV.out.disk (by omega) hR1 hf1 hs1
  have hS1 := (hf1.block _ (by omega) HNF.out).trans HXV.out
  have hz1 : V.heap.size ≤ w1.heap.size := hf1.size
  obtain ⟨ov, cv, hvv⟩ := hA1.form
  subst hvv
  have HRV := hide hA1.rd
  obtain ⟨X, hX⟩ : ∃ X, X = w1.alloc (.cells #[.slice ov x.b.length cv, .int .i64 (x.s : Int), .int .i64 0] 31) := ⟨_, rfl⟩
  have BX : Below w1.heap.size w1 X := by rw [hX]; exact (Below.refl _ _).alloc (Nat.le_refl _) _
  have hGX : X.heap[w1.heap.size]? = some (.cells #[.slice ov x.b.length cv, .int .i64 (x.s : Int), .int .i64 0] 31) := by rw [hX]; exact heap_alloc_new _ _
  have hbs : base ≤ w1.heap.size := by omega
  have HTX := hide (hT1.keep BX hbs)
  have HRX := hide (HRV.out.below BX)
  have hSX := (BX.block _ (by omega)).trans hS1
  have hbX : base ≤ X.heap.size := by have := BX.size; omega
  have hzX : w1.heap.size < X.heap.size := (Array.getElem?_eq_some_iff.1 hGX).1
  have c0 : X.cell? ⟨w.heap.size, 0, none⟩ = some (.int .i64 s.k) := cell_of hSX 0
  have c1 : X.cell? ⟨w.heap.size, 0 + 1, none⟩ = some (.int .i64 s.o) := cell_of hSX 1
  have c2 : X.cell? ⟨w.heap.size, 0 + 2, none⟩ = some (.int .i64 s.n) := cell_of hSX 2
  have c3 : X.cell? ⟨w.heap.size, 0 + 3, none⟩ = some (.int .i64 s.m) := cell_of hSX 3
  have c4 : X.cell? ⟨w.heap.size, 4, none⟩ = some (.string s.t) := cell_of hSX 4
  have c4' : X.cell? ⟨w.heap.size, 0 + 4, none⟩ = some (.string s.t) := cell_of hSX 4
  have d0 : X.cell? ⟨w1.heap.size, 0, none⟩ = some (.slice ov x.b.length cv) := cell_of hGX 0
  have d1 : X.cell? ⟨w1.heap.size, 1, none⟩ = some (.int .i64 (x.s : Int)) := cell_of hGX 1
  have d2 : X.cell? ⟨w1.heap.size, 2, none⟩ = some (.int .i64 0) := cell_of hGX 2
  have HX := hide hX
  have HSX := hide hSX
  have HGX := hide hGX
  obtain ⟨uG, uA, u1, u2, u3, u4, hH⟩ := HTX.out.held.ex
  obtain ⟨oG, cG, hvG, hcG⟩ := own_form u2
  subst hvG
  obtain ⟨oA, cA, hvA, hcA⟩ := own_form u3
  subst hvA
  have hhX := (Array.getElem?_eq_some_iff.1 u1).1
  have HU1 := hide u1
  have HU3 := hide u3
  have g0 : X.cell? ⟨h, 0, none⟩ = some (.slice oG (x.b.take x.s).length cG) := cell_of u1 0
  have g1 : X.cell? ⟨h, 1, none⟩ = some (.slice oA x.b.length cA) := cell_of u1 1
  have g2 : X.cell? ⟨h, 2, none⟩ = some (.int .i64 (x.a.length : Int)) := cell_of u1 2
  have f1 : X.frozen? ⟨h, 1, none⟩ = false := free_of u1 1
  have f0 : X.frozen? ⟨h, 0, none⟩ = false := free_of u1 0
  have f2 : X.frozen? ⟨h, 2, none⟩ = false := free_of u1 2
  have HRA := hide (rd_own u3)
  have har : x.a.length ≤ 8796093022207 := by have := HTV.out.run.arms; omega
  rw [hX] at c0 c1 c2 c3 c4 c4' d0 d1 d2 g0 g1 g2 f0 f1 f2
  clear hT1 hS1 hA1 hR1 hf1 hs1 BX hX hGX hSX u1 u2 u3 u4 hH HRV
  go_wp2_with fail
  rw [← HX.out]
  refine (HOP.out X).mono ?_
  rintro r' w2 ⟨rfl, b2⟩
  have HT2 := hide (HTX.out.keep b2 hbX)
  have hb2 : base ≤ w2.heap.size := by have := b2.size; omega
  have hz2 := b2.size
  have hGq := (b2.block _ hzX).trans HGX.out
  have hUq := (b2.block _ hhX).trans HU1.out
  have d2q : w2.cell? ⟨w1.heap.size, 2, none⟩ = some (.int .i64 0) := cell_of hGq 2
  have c0q : w2.cell? ⟨w.heap.size, 0, none⟩ = some (.int .i64 s.k) := cell_of ((b2.block _ (by omega)).trans HSX.out) 0
  have k0 : ∀ Y, Below w2.heap.size w2 Y → Y.cell? ⟨w1.heap.size, 0, none⟩ = some (.slice ov x.b.length cv) := fun Y hY => cell_of ((hY.block _ (by omega)).trans hGq) 0
  have k1 : ∀ Y, Below w2.heap.size w2 Y → Y.cell? ⟨h, 1, none⟩ = some (.slice oA x.b.length cA) := fun Y hY => cell_of ((hY.block _ (by omega)).trans hUq) 1
  have HSB : Hid (∀ Y, Below w2.heap.size w2 Y → Calls Tryd.prog 14 #[.slice ov x.b.length cv, .slice oA x.b.length cA] Y fun r' w' => r' = .returned (.bool true) ∧ Below Y.heap.size Y w') := fun Y hY => sameBytes_eq Y _ _ x.b ((HRX.out.below b2).below hY) ((HRA.out.below b2).below hY) (by omega)
  have k2 : ∀ Y, Below w2.heap.size w2 Y → Y.cell? ⟨w1.heap.size, 1, none⟩ = some (.int .i64 (x.s : Int)) := fun Y hY => cell_of ((hY.block _ (by omega)).trans hGq) 1
  have k3 : ∀ Y, Below w2.heap.size w2 Y → Y.cell? ⟨h, 0, none⟩ = some (.slice oG x.s cG) := fun Y hY => by
    have := cell_of ((hY.block _ (by omega)).trans hUq) 0
    have hgl : (x.b.take x.s).length = x.s := by rw [List.length_take]; omega
    rw [hgl] at this
    exact this
  clear HTX
  go_wp2_with fail
  go_region_held3 (fun Y => Below w2.heap.size w2 Y)
      (first
        | exact Below.refl _ _
        | assumption
        | exact keepD (by assumption) (by assumption)
        | exact Below.drew (by assumption)
        | exact (Below.refl _ _).drew)
      ((go_at_call 14; refine (HSB.out _ (by assumption)).mono ?_; rintro x' w5 ⟨rfl, b5⟩))
  all_goals
    have HB5 : Hid (Below w2.heap.size w2 w5) := by assumption
    have HT5 := hide (HT2.out.keep HB5.out hb2)
    clear b5 HT2 k0 k1 k2 k3 HSB
    go_wp2
    go_ret
    exact lastE HT5.out rfl rfl rfl
end Go.Proofs.YtkibaedocieceaaDoor.dk
