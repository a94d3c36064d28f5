import Derived.Test.YtkibaedocieceaaDoorDkFell
namespace Go.Proofs.YtkibaedocieceaaDoor.dk
open Go.ChangeShapes Go.WideShapes Go.ChangeAt Go.RowKit Go.Proofs.YtkibaedocieceaaDoor.common

theorem Jt.set2 {base : Nat} {W0 w : World} {e : Nat → Addr} {p h : Nat} {F H : List Nat} {x : St} {good all : List UInt8} {ar : Int} {j : Nat} (t : Jt base W0 w e p h F H x good all ar j) (ar' : Int) : Jt base W0 (w.setCell ⟨h, 2, none⟩ (.int .i64 ar')) e p h F H x good all ar' j := by
  obtain ⟨vG, vA, h1, h2, h3, h4, rfl⟩ := t.held.ex
  have hne : ∀ v n xs, w.ownsRow base 5 1 v n xs → ∀ g, v.ownBlock = some g → g ≠ h := fun v n xs hv g hg e1 => by
    obtain ⟨_, _, cur, hc⟩ := own_lt hv g hg
    rw [e1, h1] at hc
    simp at hc
  have hhF : h ∉ F := fun hm => t.ap h hm (by simp)
  exact ⟨⟨t.run.disk.keep (fun k hk => set_other _ _ _ _ (fun e1 => hhF (by rw [show k = h from e1] at hk; exact hk))), t.run.low, t.run.err.fr (F := [h]) ((Fr.refl _ _).set _ _ (Or.inl (by simp))) (fun k hk => by rw [List.mem_singleton.1 hk]; exact t.hlow h (by simp)), t.run.fine, t.run.arms⟩, ⟨vG, vA, set_of h1 2 _, own_keep h2 (fun g hg => set_other _ _ _ _ (hne _ _ _ h2 g hg)), own_keep h3 (fun g hg => set_other _ _ _ _ (hne _ _ _ h3 g hg)), h4, rfl⟩, t.ap, t.hlow, t.low.trans (Below.setCell (Below.refl _ _) (p := ⟨h, 2, none⟩) (t.hlow h (by simp)) _)⟩
/-- bytes are put behind what is held -/
theorem Jt.app {base : Nat} {W0 w W' : World} {e : Nat → Addr} {p h : Nat} {F H : List Nat} {x : St} {good all g2 : List UInt8} {ar : Int} {j : Nat} (t : Jt base W0 w e p h F H x good all ar j) (hs : base ≤ w.heap.size) {vA : Value} (hvA : w.cell? ⟨h, 1, none⟩ = some vA) (v' : Value) (ho : W'.ownsRow base 5 1 v' g2.length (g2.map B)) (hf : Fr vA.ownBlock.toList w W') (hv : v'.ownBlock = vA.ownBlock ∨ ∃ g, v'.ownBlock = some g ∧ w.heap.size ≤ g) : ∃ H', Jt base W0 (W'.setCell ⟨h, 1, none⟩ v') e p h F H' x good g2 ar j := by
  obtain ⟨vG, vA', h1, h2, h3, h4, rfl⟩ := t.held.ex
  have e0 : vA' = vA := by
    have := cell_of h1 1
    rw [hvA] at this
    simpa using this.symm
  subst e0
  have hlt := t.held.lt
  have hhF : h ∉ F := fun hm => t.ap h hm (by simp)
  have hnA : h ∉ vA'.ownBlock.toList := fun hm => by
    obtain ⟨_, _, cur, hc⟩ := own_lt h3 h (by simpa using hm)
    rw [h1] at hc
    simp at hc
  have k1 := (hf.block h (hlt h (by simp)) hnA).trans h1
  have hFA : ∀ k ∈ F, k ∉ vA'.ownBlock.toList := fun k hk hm => t.ap k hk (by simp at hm; simp [hm])
  have hGA : ∀ g, vG.ownBlock = some g → g ∉ vA'.ownBlock.toList := fun g hg hm => h4 g (by simpa using hm) hg
  have hnh : ∀ g, v'.ownBlock = some g → g ≠ h := fun g hg e1 => by
    obtain ⟨_, _, cur, hc⟩ := own_lt ho g hg
    rw [e1, k1] at hc
    simp at hc
  have hnG : ∀ g, vG.ownBlock = some g → g ≠ h := fun g hg e1 => by
    obtain ⟨_, _, cur, hc⟩ := own_lt h2 g hg
    rw [e1, h1] at hc
    simp at hc
  have hlow : ∀ k ∈ vA'.ownBlock.toList, base ≤ k := fun k hk => (own_lt h3 k (by simpa using hk)).1
  refine ⟨h :: (vG.ownBlock.toList ++ v'.ownBlock.toList), ⟨⟨t.run.disk.keep (fun k hk => ?_), t.run.low, (t.run.err.fr hf hlow).fr (F := [h]) ((Fr.refl _ _).set _ _ (Or.inl (by simp))) (fun k hk => by rw [List.mem_singleton.1 hk]; exact t.hlow h (by simp)), t.run.fine, t.run.arms⟩, ⟨vG, v', set_of k1 1 v', own_keep h2 (fun g hg => ?_), own_keep ho (fun g hg => set_other _ _ _ _ (hnh g hg)), fun g hg hg2 => ?_, rfl⟩, fun q hq hm => ?_, fun q hq => ?_, (t.low.trans (hf.below hlow hs)).trans (Below.setCell (Below.refl _ _) (p := ⟨h, 1, none⟩) (t.hlow h (by simp)) v')⟩⟩
  · rw [set_other _ _ _ _ (fun e1 => hhF (by rw [show k = h from e1] at hk; exact hk))]
    exact hf.block k (t.run.disk.lt k hk) (hFA k hk)
  · rw [set_other _ _ _ _ (hnG g hg)]
    exact hf.block g (own_lt h2 g hg).2.1 (hGA g hg)
  · rcases hv with hv | ⟨g', hv, hg'⟩
    · rw [hv] at hg; exact h4 g hg hg2
    · rw [hv] at hg
      cases hg
      have := (own_lt h2 _ hg2).2.1
      omega
  · rcases List.mem_cons.1 hm with rfl | hm
    · exact hhF hq
    · rcases List.mem_append.1 hm with hm | hm
      · exact t.ap q hq (by simp at hm; simp [hm])
      · rcases hv with hv | ⟨g', hv, hg'⟩
        · rw [hv] at hm; exact hFA q hq hm
        · rw [hv] at hm
          have e1 : q = g' := by simpa using hm
          have := t.run.disk.lt q hq
          omega
  · rcases List.mem_cons.1 hq with rfl | hq
    · exact t.hlow _ (by simp)
    · rcases List.mem_append.1 hq with hq | hq
      · exact t.hlow q (by simp at hq; simp [hq])
      · exact (own_lt ho q (by simpa using hq)).1
/-- how a step of Lasts ends -/
def LastE (base : Nat) (W0 : World) (e : Nat → Addr) (p h : Nat) (x : St) (j : Nat) (r' : Ending) (w' : World) : Prop := r' = .returned (.bool true) ∧ ∃ F' H', Jt base W0 w' e p h F' H' x (x.b.take x.s) x.b (x.a.length : Int) (j + 1)
theorem lastE {base : Nat} {W0 : World} {e : Nat → Addr} {p h : Nat} {x : St} {j : Nat} {w' : World} {F H : List Nat} {good all : List UInt8} {ar : Int} (t : Jt base W0 w' e p h F H x good all ar (j + 1)) (h1 : good = x.b.take x.s) (h2 : all = x.b) (h3 : ar = (x.a.length : Int)) : LastE base W0 e p h x j (.returned (.bool true)) w' := ⟨rfl, F, H, by rw [← h1, ← h2, ← h3]; exact t⟩
/-- what Lasts begins with: the step and its answer lie beside -/
structure Bg (base : Nat) (W0 w X : World) (e : Nat → Addr) (p h : Nat) (s : Sp) (x' : St) (good all : List UInt8) (ar : Int) (j : Nat) (g : Nat) (v : Value) (n : Int) (m : Nat) : Prop where
  ex : ∃ F H, Jt base W0 X e p h F H x' good all ar (j + 1)
  step : X.heap[w.heap.size]? = some (stc s)
  got : X.heap[g]? = some (.cells #[v, .int .i64 n, .int .i64 (m : Int)] 31)

set_option maxRecDepth 100000 in
set_option maxHeartbeats 3200000 in
theorem lasts_dead1 (base : Nat) (W0 w : World) (e : Nat → Addr) (p h : Nat) (F H : List Nat) (x : St) (j : Nat) (t : Jt base W0 w e p h F H x (x.b.take x.s) x.b (x.a.length : Int) j) (hs : base ≤ w.heap.size) (hj : (j + 1) * 16 ≤ 140737488355328) (hj2 : (j + 1 + 1) * 16 ≤ 140737488355328) (s : Sp) (ht : s.t.size ≤ reachBytes) (h1 : s.n ≤ 9223372036854775807) (h2 : -9223372036854775808 ≤ s.m) (h3 : s.m ≤ 9223372036854775807) (hk : s.k = 1) (full : Bool) (hst : x.step s = (x, ⟨[], 0, 10⟩)) :
    Calls Tryd.prog 25 #[ptr h, ptr p, spv s, .bool true, .bool full] w fun r' w' => LastE base W0 e p h (x.step s).1 j r' w' := by
  obtain ⟨V, hV⟩ : ∃ V, V = w.alloc (stc s) := ⟨_, rfl⟩
  have BV : Below w.heap.size w V := by rw [hV]; exact (Below.refl _ _).alloc (Nat.le_refl _) _
  have hXV : V.heap[w.heap.size]? = some (stc s) := by rw [hV]; exact heap_alloc_new _ _
  have hzV : V.heap.size = w.heap.size + 1 := by rw [hV]; simp
  have HTV := hide (t.keep BV hs)
  have HV := hide hV
  have HXV := hide hXV
  have HNF : Hid (w.heap.size ∉ F) := fun hm => by have := t.run.disk.lt _ hm; omega
  have hbm := t.run.fine.ok.most
  have hsm := t.run.fine.ok.syn
  have HACT := hide ((HTV.out.run).act s ht hj h1 h2 h3)
  rw [hst] at HACT ⊢
  dsimp only at HACT ⊢
  have e1 : (s.k == 1) = true := by rw [hk]; rfl
  have e2 : (s.k == 2) = false := by rw [hk]; rfl
  have e3 : (s.k == 3) = false := by rw [hk]; rfl
  have e5 : (s.k == 5) = false := by rw [hk]; rfl
  have e6 : (s.k == 6) = false := by rw [hk]; rfl
  have e9 : (s.k == 9) = false := by rw [hk]; rfl
  have HOP := hide (fun W => operation_any W s)
  have hop : opB s = true := by unfold opB; rw [hk]; decide
  rw [hop] at HOP
  clear hk hop
  clear t hV BV hXV hst
  go_enter Tryd.func25, Tryd.ntmps25
  go_wp2_with fail
  rw [← HV.out]
  refine HACT.out.mono ?_
  rintro r' w1 ⟨v1, F1, rfl, hA1, hR1, hf1, hs1⟩
  have hT1 := HTV.out.disk (by omega) hR1 hf1 hs1
  have hS1 := (hf1.block _ (by omega) HNF.out).trans HXV.out
  have hz1 : V.heap.size ≤ w1.heap.size := hf1.size
  obtain ⟨ov, cv, hvv⟩ := hA1.form
  subst hvv
  have HRV := hide hA1.rd
  obtain ⟨X, hX⟩ : ∃ X, X = w1.alloc (.cells #[.slice ov 0 cv, .int .i64 0, .int .i64 10] 31) := ⟨_, rfl⟩
  have BX : Below w1.heap.size w1 X := by rw [hX]; exact (Below.refl _ _).alloc (Nat.le_refl _) _
  have hGX : X.heap[w1.heap.size]? = some (.cells #[.slice ov 0 cv, .int .i64 0, .int .i64 10] 31) := by rw [hX]; exact heap_alloc_new _ _
  have hbs : base ≤ w1.heap.size := by omega
  have HTX := hide (hT1.keep BX hbs)
  have HRX := hide (HRV.out.below BX)
  have hSX := (BX.block _ (by omega)).trans hS1
  have hbX : base ≤ X.heap.size := by have := BX.size; omega
  have hzX : w1.heap.size < X.heap.size := (Array.getElem?_eq_some_iff.1 hGX).1
  have c0 : X.cell? ⟨w.heap.size, 0, none⟩ = some (.int .i64 s.k) := cell_of hSX 0
  have c1 : X.cell? ⟨w.heap.size, 0 + 1, none⟩ = some (.int .i64 s.o) := cell_of hSX 1
  have c2 : X.cell? ⟨w.heap.size, 0 + 2, none⟩ = some (.int .i64 s.n) := cell_of hSX 2
  have c3 : X.cell? ⟨w.heap.size, 0 + 3, none⟩ = some (.int .i64 s.m) := cell_of hSX 3
  have c4 : X.cell? ⟨w.heap.size, 4, none⟩ = some (.string s.t) := cell_of hSX 4
  have c4' : X.cell? ⟨w.heap.size, 0 + 4, none⟩ = some (.string s.t) := cell_of hSX 4
  have d0 : X.cell? ⟨w1.heap.size, 0, none⟩ = some (.slice ov 0 cv) := cell_of hGX 0
  have d1 : X.cell? ⟨w1.heap.size, 1, none⟩ = some (.int .i64 0) := cell_of hGX 1
  have d2 : X.cell? ⟨w1.heap.size, 2, none⟩ = some (.int .i64 10) := cell_of hGX 2
  have HX := hide hX
  have HSX := hide hSX
  have HGX := hide hGX
  obtain ⟨uG, uA, u1, u2, u3, u4, hH⟩ := HTX.out.held.ex
  obtain ⟨oG, cG, hvG, hcG⟩ := own_form u2
  subst hvG
  obtain ⟨oA, cA, hvA, hcA⟩ := own_form u3
  subst hvA
  have hhX := (Array.getElem?_eq_some_iff.1 u1).1
  have HU1 := hide u1
  have HU3 := hide u3
  have g0 : X.cell? ⟨h, 0, none⟩ = some (.slice oG (x.b.take x.s).length cG) := cell_of u1 0
  have g1 : X.cell? ⟨h, 1, none⟩ = some (.slice oA x.b.length cA) := cell_of u1 1
  have g2 : X.cell? ⟨h, 2, none⟩ = some (.int .i64 (x.a.length : Int)) := cell_of u1 2
  have f1 : X.frozen? ⟨h, 1, none⟩ = false := free_of u1 1
  have f0 : X.frozen? ⟨h, 0, none⟩ = false := free_of u1 0
  have f2 : X.frozen? ⟨h, 2, none⟩ = false := free_of u1 2
  have HRA := hide (rd_own u3)
  have har : x.a.length ≤ 8796093022207 := by have := HTV.out.run.arms; omega
  rw [hX] at c0 c1 c2 c3 c4 c4' d0 d1 d2 g0 g1 g2 f0 f1 f2
  clear hT1 hS1 hA1 hR1 hf1 hs1 BX hX hGX hSX u1 u2 u3 u4 hH HRV
  go_wp2_with fail
  rw [← HX.out]
  refine (HOP.out X).mono ?_
  rintro r' w2 ⟨rfl, b2⟩
  have HT2 := hide (HTX.out.keep b2 hbX)
  have d2' : w2.cell? ⟨w1.heap.size, 2, none⟩ = some (.int .i64 10) := cell_of ((b2.block _ hzX).trans HGX.out) 2
  clear b2 HTX
  go_wp2
  go_ret
  exact lastE HT2.out rfl rfl rfl

set_option maxRecDepth 100000 in
set_option maxHeartbeats 3200000 in
theorem lasts_dead2 (base : Nat) (W0 w : World) (e : Nat → Addr) (p h : Nat) (F H : List Nat) (x : St) (j : Nat) (t : Jt base W0 w e p h F H x (x.b.take x.s) x.b (x.a.length : Int) j) (hs : base ≤ w.heap.size) (hj : (j + 1) * 16 ≤ 140737488355328) (hj2 : (j + 1 + 1) * 16 ≤ 140737488355328) (s : Sp) (ht : s.t.size ≤ reachBytes) (h1 : s.n ≤ 9223372036854775807) (h2 : -9223372036854775808 ≤ s.m) (h3 : s.m ≤ 9223372036854775807) (hk : s.k = 2) (full : Bool) (hst : x.step s = (x, ⟨[], 0, 10⟩)) :
    Calls Tryd.prog 25 #[ptr h, ptr p, spv s, .bool true, .bool full] w fun r' w' => LastE base W0 e p h (x.step s).1 j r' w' := by
  obtain ⟨V, hV⟩ : ∃ V, V = w.alloc (stc s) := ⟨_, rfl⟩
  have BV : Below w.heap.size w V := by rw [hV]; exact (Below.refl _ _).alloc (Nat.le_refl _) _
  have hXV : V.heap[w.heap.size]? = some (stc s) := by rw [hV]; exact heap_alloc_new _ _
  have hzV : V.heap.size = w.heap.size + 1 := by rw [hV]; simp
  have HTV := hide (t.keep BV hs)
  have HV := hide hV
  have HXV := hide hXV
  have HNF : Hid (w.heap.size ∉ F) := fun hm => by have := t.run.disk.lt _ hm; omega
  have hbm := t.run.fine.ok.most
  have hsm := t.run.fine.ok.syn
  have HACT := hide ((HTV.out.run).act s ht hj h1 h2 h3)
  rw [hst] at HACT ⊢
  dsimp only at HACT ⊢
  have e1 : (s.k == 1) = false := by rw [hk]; rfl
  have e2 : (s.k == 2) = true := by rw [hk]; rfl
  have e3 : (s.k == 3) = false := by rw [hk]; rfl
  have e5 : (s.k == 5) = false := by rw [hk]; rfl
  have e6 : (s.k == 6) = false := by rw [hk]; rfl
  have e9 : (s.k == 9) = false := by rw [hk]; rfl
  have HOP := hide (fun W => operation_any W s)
  have hop : opB s = true := by unfold opB; rw [hk]; decide
  rw [hop] at HOP
  clear hk hop
  clear t hV BV hXV hst
  go_enter Tryd.func25, Tryd.ntmps25
  go_wp2_with fail
  rw [← HV.out]
  refine HACT.out.mono ?_
  rintro r' w1 ⟨v1, F1, rfl, hA1, hR1, hf1, hs1⟩
  have hT1 := HTV.out.disk (by omega) hR1 hf1 hs1
  have hS1 := (hf1.block _ (by omega) HNF.out).trans HXV.out
  have hz1 : V.heap.size ≤ w1.heap.size := hf1.size
  obtain ⟨ov, cv, hvv⟩ := hA1.form
  subst hvv
  have HRV := hide hA1.rd
  obtain ⟨X, hX⟩ : ∃ X, X = w1.alloc (.cells #[.slice ov 0 cv, .int .i64 0, .int .i64 10] 31) := ⟨_, rfl⟩
  have BX : Below w1.heap.size w1 X := by rw [hX]; exact (Below.refl _ _).alloc (Nat.le_refl _) _
  have hGX : X.heap[w1.heap.size]? = some (.cells #[.slice ov 0 cv, .int .i64 0, .int .i64 10] 31) := by rw [hX]; exact heap_alloc_new _ _
  have hbs : base ≤ w1.heap.size := by omega
  have HTX := hide (hT1.keep BX hbs)
  have HRX := hide (HRV.out.below BX)
  have hSX := (BX.block _ (by omega)).trans hS1
  have hbX : base ≤ X.heap.size := by have := BX.size; omega
  have hzX : w1.heap.size < X.heap.size := (Array.getElem?_eq_some_iff.1 hGX).1
  have c0 : X.cell? ⟨w.heap.size, 0, none⟩ = some (.int .i64 s.k) := cell_of hSX 0
  have c1 : X.cell? ⟨w.heap.size, 0 + 1, none⟩ = some (.int .i64 s.o) := cell_of hSX 1
  have c2 : X.cell? ⟨w.heap.size, 0 + 2, none⟩ = some (.int .i64 s.n) := cell_of hSX 2
  have c3 : X.cell? ⟨w.heap.size, 0 + 3, none⟩ = some (.int .i64 s.m) := cell_of hSX 3
  have c4 : X.cell? ⟨w.heap.size, 4, none⟩ = some (.string s.t) := cell_of hSX 4
  have c4' : X.cell? ⟨w.heap.size, 0 + 4, none⟩ = some (.string s.t) := cell_of hSX 4
  have d0 : X.cell? ⟨w1.heap.size, 0, none⟩ = some (.slice ov 0 cv) := cell_of hGX 0
  have d1 : X.cell? ⟨w1.heap.size, 1, none⟩ = some (.int .i64 0) := cell_of hGX 1
  have d2 : X.cell? ⟨w1.heap.size, 2, none⟩ = some (.int .i64 10) := cell_of hGX 2
  have HX := hide hX
  have HSX := hide hSX
  have HGX := hide hGX
  obtain ⟨uG, uA, u1, u2, u3, u4, hH⟩ := HTX.out.held.ex
  obtain ⟨oG, cG, hvG, hcG⟩ := own_form u2
  subst hvG
  obtain ⟨oA, cA, hvA, hcA⟩ := own_form u3
  subst hvA
  have hhX := (Array.getElem?_eq_some_iff.1 u1).1
  have HU1 := hide u1
  have HU3 := hide u3
  have g0 : X.cell? ⟨h, 0, none⟩ = some (.slice oG (x.b.take x.s).length cG) := cell_of u1 0
  have g1 : X.cell? ⟨h, 1, none⟩ = some (.slice oA x.b.length cA) := cell_of u1 1
  have g2 : X.cell? ⟨h, 2, none⟩ = some (.int .i64 (x.a.length : Int)) := cell_of u1 2
  have f1 : X.frozen? ⟨h, 1, none⟩ = false := free_of u1 1
  have f0 : X.frozen? ⟨h, 0, none⟩ = false := free_of u1 0
  have f2 : X.frozen? ⟨h, 2, none⟩ = false := free_of u1 2
  have HRA := hide (rd_own u3)
  have har : x.a.length ≤ 8796093022207 := by have := HTV.out.run.arms; omega
  rw [hX] at c0 c1 c2 c3 c4 c4' d0 d1 d2 g0 g1 g2 f0 f1 f2
  clear hT1 hS1 hA1 hR1 hf1 hs1 BX hX hGX hSX u1 u2 u3 u4 hH HRV
  go_wp2_with fail
  rw [← HX.out]
  refine (HOP.out X).mono ?_
  rintro r' w2 ⟨rfl, b2⟩
  have HT2 := hide (HTX.out.keep b2 hbX)
  have d2' : w2.cell? ⟨w1.heap.size, 2, none⟩ = some (.int .i64 10) := cell_of ((b2.block _ hzX).trans HGX.out) 2
  clear b2 HTX
  go_wp2
  go_ret
  exact lastE HT2.out rfl rfl rfl

set_option maxRecDepth 100000 in
set_option maxHeartbeats 3200000 in
theorem lasts_dead3 (base : Nat) (W0 w : World) (e : Nat → Addr) (p h : Nat) (F H : List Nat) (x : St) (j : Nat) (t : Jt base W0 w e p h F H x (x.b.take x.s) x.b (x.a.length : Int) j) (hs : base ≤ w.heap.size) (hj : (j + 1) * 16 ≤ 140737488355328) (hj2 : (j + 1 + 1) * 16 ≤ 140737488355328) (s : Sp) (ht : s.t.size ≤ reachBytes) (h1 : s.n ≤ 9223372036854775807) (h2 : -9223372036854775808 ≤ s.m) (h3 : s.m ≤ 9223372036854775807) (hk : s.k = 3) (full : Bool) (hst : x.step s = (x, ⟨[], 0, 10⟩)) :
    Calls Tryd.prog 25 #[ptr h, ptr p, spv s, .bool true, .bool full] w fun r' w' => LastE base W0 e p h (x.step s).1 j r' w' := by
  obtain ⟨V, hV⟩ : ∃ V, V = w.alloc (stc s) := ⟨_, rfl⟩
  have BV : Below w.heap.size w V := by rw [hV]; exact (Below.refl _ _).alloc (Nat.le_refl _) _
  have hXV : V.heap[w.heap.size]? = some (stc s) := by rw [hV]; exact heap_alloc_new _ _
  have hzV : V.heap.size = w.heap.size + 1 := by rw [hV]; simp
  have HTV := hide (t.keep BV hs)
  have HV := hide hV
  have HXV := hide hXV
  have HNF : Hid (w.heap.size ∉ F) := fun hm => by have := t.run.disk.lt _ hm; omega
  have hbm := t.run.fine.ok.most
  have hsm := t.run.fine.ok.syn
  have HACT := hide ((HTV.out.run).act s ht hj h1 h2 h3)
  rw [hst] at HACT ⊢
  dsimp only at HACT ⊢
  have e1 : (s.k == 1) = false := by rw [hk]; rfl
  have e2 : (s.k == 2) = false := by rw [hk]; rfl
  have e3 : (s.k == 3) = true := by rw [hk]; rfl
  have e5 : (s.k == 5) = false := by rw [hk]; rfl
  have e6 : (s.k == 6) = false := by rw [hk]; rfl
  have e9 : (s.k == 9) = false := by rw [hk]; rfl
  have HOP := hide (fun W => operation_any W s)
  have hop : opB s = true := by unfold opB; rw [hk]; decide
  rw [hop] at HOP
  clear hk hop
  clear t hV BV hXV hst
  go_enter Tryd.func25, Tryd.ntmps25
  go_wp2_with fail
  rw [← HV.out]
  refine HACT.out.mono ?_
  rintro r' w1 ⟨v1, F1, rfl, hA1, hR1, hf1, hs1⟩
  have hT1 := HTV.out.disk (by omega) hR1 hf1 hs1
  have hS1 := (hf1.block _ (by omega) HNF.out).trans HXV.out
  have hz1 : V.heap.size ≤ w1.heap.size := hf1.size
  obtain ⟨ov, cv, hvv⟩ := hA1.form
  subst hvv
  have HRV := hide hA1.rd
  obtain ⟨X, hX⟩ : ∃ X, X = w1.alloc (.cells #[.slice ov 0 cv, .int .i64 0, .int .i64 10] 31) := ⟨_, rfl⟩
  have BX : Below w1.heap.size w1 X := by rw [hX]; exact (Below.refl _ _).alloc (Nat.le_refl _) _
  have hGX : X.heap[w1.heap.size]? = some (.cells #[.slice ov 0 cv, .int .i64 0, .int .i64 10] 31) := by rw [hX]; exact heap_alloc_new _ _
  have hbs : base ≤ w1.heap.size := by omega
  have HTX := hide (hT1.keep BX hbs)
  have HRX := hide (HRV.out.below BX)
  have hSX := (BX.block _ (by omega)).trans hS1
  have hbX : base ≤ X.heap.size := by have := BX.size; omega
  have hzX : w1.heap.size < X.heap.size := (Array.getElem?_eq_some_iff.1 hGX).1
  have c0 : X.cell? ⟨w.heap.size, 0, none⟩ = some (.int .i64 s.k) := cell_of hSX 0
  have c1 : X.cell? ⟨w.heap.size, 0 + 1, none⟩ = some (.int .i64 s.o) := cell_of hSX 1
  have c2 : X.cell? ⟨w.heap.size, 0 + 2, none⟩ = some (.int .i64 s.n) := cell_of hSX 2
  have c3 : X.cell? ⟨w.heap.size, 0 + 3, none⟩ = some (.int .i64 s.m) := cell_of hSX 3
  have c4 : X.cell? ⟨w.heap.size, 4, none⟩ = some (.string s.t) := cell_of hSX 4
  have c4' : X.cell? ⟨w.heap.size, 0 + 4, none⟩ = some (.string s.t) := cell_of hSX 4
  have d0 : X.cell? ⟨w1.heap.size, 0, none⟩ = some (.slice ov 0 cv) := cell_of hGX 0
  have d1 : X.cell? ⟨w1.heap.size, 1, none⟩ = some (.int .i64 0) := cell_of hGX 1
  have d2 : X.cell? ⟨w1.heap.size, 2, none⟩ = some (.int .i64 10) := cell_of hGX 2
  have HX := hide hX
  have HSX := hide hSX
  have HGX := hide hGX
  obtain ⟨uG, uA, u1, u2, u3, u4, hH⟩ := HTX.out.held.ex
  obtain ⟨oG, cG, hvG, hcG⟩ := own_form u2
  subst hvG
  obtain ⟨oA, cA, hvA, hcA⟩ := own_form u3
  subst hvA
  have hhX := (Array.getElem?_eq_some_iff.1 u1).1
  have HU1 := hide u1
  have HU3 := hide u3
  have g0 : X.cell? ⟨h, 0, none⟩ = some (.slice oG (x.b.take x.s).length cG) := cell_of u1 0
  have g1 : X.cell? ⟨h, 1, none⟩ = some (.slice oA x.b.length cA) := cell_of u1 1
  have g2 : X.cell? ⟨h, 2, none⟩ = some (.int .i64 (x.a.length : Int)) := cell_of u1 2
  have f1 : X.frozen? ⟨h, 1, none⟩ = false := free_of u1 1
  have f0 : X.frozen? ⟨h, 0, none⟩ = false := free_of u1 0
  have f2 : X.frozen? ⟨h, 2, none⟩ = false := free_of u1 2
  have HRA := hide (rd_own u3)
  have har : x.a.length ≤ 8796093022207 := by have := HTV.out.run.arms; omega
  rw [hX] at c0 c1 c2 c3 c4 c4' d0 d1 d2 g0 g1 g2 f0 f1 f2
  clear hT1 hS1 hA1 hR1 hf1 hs1 BX hX hGX hSX u1 u2 u3 u4 hH HRV
  go_wp2_with fail
  rw [← HX.out]
  refine (HOP.out X).mono ?_
  rintro r' w2 ⟨rfl, b2⟩
  have HT2 := hide (HTX.out.keep b2 hbX)
  have d2' : w2.cell? ⟨w1.heap.size, 2, none⟩ = some (.int .i64 10) := cell_of ((b2.block _ hzX).trans HGX.out) 2
  clear b2 HTX
  go_wp2
  go_ret
  exact lastE HT2.out rfl rfl rfl

set_option maxRecDepth 100000 in
set_option maxHeartbeats 3200000 in
theorem lasts_7true (base : Nat) (W0 w : World) (e : Nat → Addr) (p h : Nat) (F H : List Nat) (x : St) (j : Nat) (t : Jt base W0 w e p h F H x (x.b.take x.s) x.b (x.a.length : Int) j) (hs : base ≤ w.heap.size) (hj : (j + 1) * 16 ≤ 140737488355328) (hj2 : (j + 1 + 1) * 16 ≤ 140737488355328) (s : Sp) (ht : s.t.size ≤ reachBytes) (h1 : s.n ≤ 9223372036854775807) (h2 : -9223372036854775808 ≤ s.m) (h3 : s.m ≤ 9223372036854775807) (hk : s.k = 7) (hop : opB s = false) (hst : x.step s = (x, ⟨[], x.deadN, 0⟩)) :
    Calls Tryd.prog 25 #[ptr h, ptr p, spv s, .bool true, .bool false] w fun r' w' => LastE base W0 e p h (x.step s).1 j r' w' := by
  obtain ⟨V, hV⟩ : ∃ V, V = w.alloc (stc s) := ⟨_, rfl⟩
  have BV : Below w.heap.size w V := by rw [hV]; exact (Below.refl _ _).alloc (Nat.le_refl _) _
  have hXV : V.heap[w.heap.size]? = some (stc s) := by rw [hV]; exact heap_alloc_new _ _
  have hzV : V.heap.size = w.heap.size + 1 := by rw [hV]; simp
  have HTV := hide (t.keep BV hs)
  have HV := hide hV
  have HXV := hide hXV
  have HNF : Hid (w.heap.size ∉ F) := fun hm => by have := t.run.disk.lt _ hm; omega
  have hbm := t.run.fine.ok.most
  have hsm := t.run.fine.ok.syn
  have HACT := hide ((HTV.out.run).act s ht hj h1 h2 h3)
  rw [hst] at HACT ⊢
  dsimp only at HACT ⊢
  have e1 : (s.k == 1) = false := by rw [hk]; rfl
  have e2 : (s.k == 2) = false := by rw [hk]; rfl
  have e3 : (s.k == 3) = false := by rw [hk]; rfl
  have e5 : (s.k == 5) = false := by rw [hk]; rfl
  have e6 : (s.k == 6) = false := by rw [hk]; rfl
  have e9 : (s.k == 9) = false := by rw [hk]; rfl
  clear hk
  have HOP := hide (fun W => operation_any W s)
  rw [hop] at HOP
  clear hop
  clear t hV BV hXV hst
  go_enter Tryd.func25, Tryd.ntmps25
  go_wp2_with fail
  rw [← HV.out]
  refine HACT.out.mono ?_
  rintro r' w1 ⟨v1, F1, rfl, hA1, hR1, hf1, hs1⟩
  have hT1 := HTV.out.disk (by omega) hR1 hf1 hs1
  have hS1 := (hf1.block _ (by omega) HNF.out).trans HXV.out
  have hz1 : V.heap.size ≤ w1.heap.size := hf1.size
  obtain ⟨ov, cv, hvv⟩ := hA1.form
  subst hvv
  have HRV := hide hA1.rd
  obtain ⟨X, hX⟩ : ∃ X, X = w1.alloc (.cells #[.slice ov 0 cv, .int .i64 x.deadN, .int .i64 0] 31) := ⟨_, rfl⟩
  have BX : Below w1.heap.size w1 X := by rw [hX]; exact (Below.refl _ _).alloc (Nat.le_refl _) _
  have hGX : X.heap[w1.heap.size]? = some (.cells #[.slice ov 0 cv, .int .i64 x.deadN, .int .i64 0] 31) := by rw [hX]; exact heap_alloc_new _ _
  have hbs : base ≤ w1.heap.size := by omega
  have HTX := hide (hT1.keep BX hbs)
  have HRX := hide (HRV.out.below BX)
  have hSX := (BX.block _ (by omega)).trans hS1
  have hbX : base ≤ X.heap.size := by have := BX.size; omega
  have hzX : w1.heap.size < X.heap.size := (Array.getElem?_eq_some_iff.1 hGX).1
  have c0 : X.cell? ⟨w.heap.size, 0, none⟩ = some (.int .i64 s.k) := cell_of hSX 0
  have c1 : X.cell? ⟨w.heap.size, 0 + 1, none⟩ = some (.int .i64 s.o) := cell_of hSX 1
  have c2 : X.cell? ⟨w.heap.size, 0 + 2, none⟩ = some (.int .i64 s.n) := cell_of hSX 2
  have c3 : X.cell? ⟨w.heap.size, 0 + 3, none⟩ = some (.int .i64 s.m) := cell_of hSX 3
  have c4 : X.cell? ⟨w.heap.size, 4, none⟩ = some (.string s.t) := cell_of hSX 4
  have c4' : X.cell? ⟨w.heap.size, 0 + 4, none⟩ = some (.string s.t) := cell_of hSX 4
  have d0 : X.cell? ⟨w1.heap.size, 0, none⟩ = some (.slice ov 0 cv) := cell_of hGX 0
  have d1 : X.cell? ⟨w1.heap.size, 1, none⟩ = some (.int .i64 x.deadN) := cell_of hGX 1
  have d2 : X.cell? ⟨w1.heap.size, 2, none⟩ = some (.int .i64 0) := cell_of hGX 2
  have HX := hide hX
  have HSX := hide hSX
  have HGX := hide hGX
  obtain ⟨uG, uA, u1, u2, u3, u4, hH⟩ := HTX.out.held.ex
  obtain ⟨oG, cG, hvG, hcG⟩ := own_form u2
  subst hvG
  obtain ⟨oA, cA, hvA, hcA⟩ := own_form u3
  subst hvA
  have hhX := (Array.getElem?_eq_some_iff.1 u1).1
  have HU1 := hide u1
  have HU3 := hide u3
  have g0 : X.cell? ⟨h, 0, none⟩ = some (.slice oG (x.b.take x.s).length cG) := cell_of u1 0
  have g1 : X.cell? ⟨h, 1, none⟩ = some (.slice oA x.b.length cA) := cell_of u1 1
  have g2 : X.cell? ⟨h, 2, none⟩ = some (.int .i64 (x.a.length : Int)) := cell_of u1 2
  have f1 : X.frozen? ⟨h, 1, none⟩ = false := free_of u1 1
  have f0 : X.frozen? ⟨h, 0, none⟩ = false := free_of u1 0
  have f2 : X.frozen? ⟨h, 2, none⟩ = false := free_of u1 2
  have HRA := hide (rd_own u3)
  have har : x.a.length ≤ 8796093022207 := by have := HTV.out.run.arms; omega
  rw [hX] at c0 c1 c2 c3 c4 c4' d0 d1 d2 g0 g1 g2 f0 f1 f2
  clear hT1 hS1 hA1 hR1 hf1 hs1 BX hX hGX hSX u1 u2 u3 u4 hH HRV
  go_wp2_with fail
  rw [← HX.out]
  refine (HOP.out X).mono ?_
  rintro r' w2 ⟨rfl, b2⟩
  have HT2 := hide (HTX.out.keep b2 hbX)
  have d2q : w2.cell? ⟨w1.heap.size, 2, none⟩ = some (.int .i64 0) := cell_of ((b2.block _ hzX).trans HGX.out) 2
  have c0q : w2.cell? ⟨w.heap.size, 0, none⟩ = some (.int .i64 s.k) := cell_of ((b2.block _ (by omega)).trans HSX.out) 0
  clear b2 HTX
  go_wp2
  go_ret
  exact lastE HT2.out rfl rfl rfl

set_option maxRecDepth 100000 in
set_option maxHeartbeats 3200000 in
theorem lasts_8true (base : Nat) (W0 w : World) (e : Nat → Addr) (p h : Nat) (F H : List Nat) (x : St) (j : Nat) (t : Jt base W0 w e p h F H x (x.b.take x.s) x.b (x.a.length : Int) j) (hs : base ≤ w.heap.size) (hj : (j + 1) * 16 ≤ 140737488355328) (hj2 : (j + 1 + 1) * 16 ≤ 140737488355328) (s : Sp) (ht : s.t.size ≤ reachBytes) (h1 : s.n ≤ 9223372036854775807) (h2 : -9223372036854775808 ≤ s.m) (h3 : s.m ≤ 9223372036854775807) (hk : s.k = 8) (hop : opB s = false) (hst : x.step s = (x.revive, ⟨[], 0, 0⟩)) :
    Calls Tryd.prog 25 #[ptr h, ptr p, spv s, .bool true, .bool false] w fun r' w' => LastE base W0 e p h (x.step s).1 j r' w' := by
  obtain ⟨V, hV⟩ : ∃ V, V = w.alloc (stc s) := ⟨_, rfl⟩
  have BV : Below w.heap.size w V := by rw [hV]; exact (Below.refl _ _).alloc (Nat.le_refl _) _
  have hXV : V.heap[w.heap.size]? = some (stc s) := by rw [hV]; exact heap_alloc_new _ _
  have hzV : V.heap.size = w.heap.size + 1 := by rw [hV]; simp
  have HTV := hide (t.keep BV hs)
  have HV := hide hV
  have HXV := hide hXV
  have HNF : Hid (w.heap.size ∉ F) := fun hm => by have := t.run.disk.lt _ hm; omega
  have hbm := t.run.fine.ok.most
  have hsm := t.run.fine.ok.syn
  have HACT := hide ((HTV.out.run).act s ht hj h1 h2 h3)
  rw [hst] at HACT ⊢
  dsimp only at HACT ⊢
  have e1 : (s.k == 1) = false := by rw [hk]; rfl
  have e2 : (s.k == 2) = false := by rw [hk]; rfl
  have e3 : (s.k == 3) = false := by rw [hk]; rfl
  have e5 : (s.k == 5) = false := by rw [hk]; rfl
  have e6 : (s.k == 6) = false := by rw [hk]; rfl
  have e9 : (s.k == 9) = false := by rw [hk]; rfl
  clear hk
  have HOP := hide (fun W => operation_any W s)
  rw [hop] at HOP
  clear hop
  clear t hV BV hXV hst
  go_enter Tryd.func25, Tryd.ntmps25
  go_wp2_with fail
  rw [← HV.out]
  refine HACT.out.mono ?_
  rintro r' w1 ⟨v1, F1, rfl, hA1, hR1, hf1, hs1⟩
  have hT1 := HTV.out.disk (by omega) hR1 hf1 hs1
  have hS1 := (hf1.block _ (by omega) HNF.out).trans HXV.out
  have hz1 : V.heap.size ≤ w1.heap.size := hf1.size
  obtain ⟨ov, cv, hvv⟩ := hA1.form
  subst hvv
  have HRV := hide hA1.rd
  obtain ⟨X, hX⟩ : ∃ X, X = w1.alloc (.cells #[.slice ov 0 cv, .int .i64 0, .int .i64 0] 31) := ⟨_, rfl⟩
  have BX : Below w1.heap.size w1 X := by rw [hX]; exact (Below.refl _ _).alloc (Nat.le_refl _) _
  have hGX : X.heap[w1.heap.size]? = some (.cells #[.slice ov 0 cv, .int .i64 0, .int .i64 0] 31) := by rw [hX]; exact heap_alloc_new _ _
  have hbs : base ≤ w1.heap.size := by omega
  have HTX := hide (hT1.keep BX hbs)
  have HRX := hide (HRV.out.below BX)
  have hSX := (BX.block _ (by omega)).trans hS1
  have hbX : base ≤ X.heap.size := by have := BX.size; omega
  have hzX : w1.heap.size < X.heap.size := (Array.getElem?_eq_some_iff.1 hGX).1
  have c0 : X.cell? ⟨w.heap.size, 0, none⟩ = some (.int .i64 s.k) := cell_of hSX 0
  have c1 : X.cell? ⟨w.heap.size, 0 + 1, none⟩ = some (.int .i64 s.o) := cell_of hSX 1
  have c2 : X.cell? ⟨w.heap.size, 0 + 2, none⟩ = some (.int .i64 s.n) := cell_of hSX 2
  have c3 : X.cell? ⟨w.heap.size, 0 + 3, none⟩ = some (.int .i64 s.m) := cell_of hSX 3
  have c4 : X.cell? ⟨w.heap.size, 4, none⟩ = some (.string s.t) := cell_of hSX 4
  have c4' : X.cell? ⟨w.heap.size, 0 + 4, none⟩ = some (.string s.t) := cell_of hSX 4
  have d0 : X.cell? ⟨w1.heap.size, 0, none⟩ = some (.slice ov 0 cv) := cell_of hGX 0
  have d1 : X.cell? ⟨w1.heap.size, 1, none⟩ = some (.int .i64 0) := cell_of hGX 1
  have d2 : X.cell? ⟨w1.heap.size, 2, none⟩ = some (.int .i64 0) := cell_of hGX 2
  have HX := hide hX
  have HSX := hide hSX
  have HGX := hide hGX
  obtain ⟨uG, uA, u1, u2, u3, u4, hH⟩ := HTX.out.held.ex
  obtain ⟨oG, cG, hvG, hcG⟩ := own_form u2
  subst hvG
  obtain ⟨oA, cA, hvA, hcA⟩ := own_form u3
  subst hvA
  have hhX := (Array.getElem?_eq_some_iff.1 u1).1
  have HU1 := hide u1
  have HU3 := hide u3
  have g0 : X.cell? ⟨h, 0, none⟩ = some (.slice oG (x.b.take x.s).length cG) := cell_of u1 0
  have g1 : X.cell? ⟨h, 1, none⟩ = some (.slice oA x.b.length cA) := cell_of u1 1
  have g2 : X.cell? ⟨h, 2, none⟩ = some (.int .i64 (x.a.length : Int)) := cell_of u1 2
  have f1 : X.frozen? ⟨h, 1, none⟩ = false := free_of u1 1
  have f0 : X.frozen? ⟨h, 0, none⟩ = false := free_of u1 0
  have f2 : X.frozen? ⟨h, 2, none⟩ = false := free_of u1 2
  have HRA := hide (rd_own u3)
  have har : x.a.length ≤ 8796093022207 := by have := HTV.out.run.arms; omega
  rw [hX] at c0 c1 c2 c3 c4 c4' d0 d1 d2 g0 g1 g2 f0 f1 f2
  clear hT1 hS1 hA1 hR1 hf1 hs1 BX hX hGX hSX u1 u2 u3 u4 hH HRV
  go_wp2_with fail
  rw [← HX.out]
  refine (HOP.out X).mono ?_
  rintro r' w2 ⟨rfl, b2⟩
  have HT2 := hide (HTX.out.keep b2 hbX)
  have d2q : w2.cell? ⟨w1.heap.size, 2, none⟩ = some (.int .i64 0) := cell_of ((b2.block _ hzX).trans HGX.out) 2
  have c0q : w2.cell? ⟨w.heap.size, 0, none⟩ = some (.int .i64 s.k) := cell_of ((b2.block _ (by omega)).trans HSX.out) 0
  clear b2 HTX
  go_wp2
  go_ret
  exact lastE HT2.out rfl rfl rfl

set_option maxRecDepth 100000 in
set_option maxHeartbeats 3200000 in
theorem lasts_0true (base : Nat) (W0 w : World) (e : Nat → Addr) (p h : Nat) (F H : List Nat) (x : St) (j : Nat) (t : Jt base W0 w e p h F H x (x.b.take x.s) x.b (x.a.length : Int) j) (hs : base ≤ w.heap.size) (hj : (j + 1) * 16 ≤ 140737488355328) (hj2 : (j + 1 + 1) * 16 ≤ 140737488355328) (s : Sp) (ht : s.t.size ≤ reachBytes) (h1 : s.n ≤ 9223372036854775807) (h2 : -9223372036854775808 ≤ s.m) (h3 : s.m ≤ 9223372036854775807) (hk1 : s.k ≠ 1) (hk2 : s.k ≠ 2) (hk3 : s.k ≠ 3) (hk5 : s.k ≠ 5) (hk6 : s.k ≠ 6) (hk9 : s.k ≠ 9) (hop : opB s = false) (hst : x.step s = (x, ⟨[], 0, 0⟩)) :
    Calls Tryd.prog 25 #[ptr h, ptr p, spv s, .bool true, .bool false] w fun r' w' => LastE base W0 e p h (x.step s).1 j r' w' := by
  obtain ⟨V, hV⟩ : ∃ V, V = w.alloc (stc s) := ⟨_, rfl⟩
  have BV : Below w.heap.size w V := by rw [hV]; exact (Below.refl _ _).alloc (Nat.le_refl _) _
  have hXV : V.heap[w.heap.size]? = some (stc s) := by rw [hV]; exact heap_alloc_new _ _
  have hzV : V.heap.size = w.heap.size + 1 := by rw [hV]; simp
  have HTV := hide (t.keep BV hs)
  have HV := hide hV
  have HXV := hide hXV
  have HNF : Hid (w.heap.size ∉ F) := fun hm => by have := t.run.disk.lt _ hm; omega
  have hbm := t.run.fine.ok.most
  have hsm := t.run.fine.ok.syn
  have HACT := hide ((HTV.out.run).act s ht hj h1 h2 h3)
  rw [hst] at HACT ⊢
  dsimp only at HACT ⊢
  have e1 : (s.k == 1) = false := beq_false_of_ne hk1
  have e2 : (s.k == 2) = false := beq_false_of_ne hk2
  have e3 : (s.k == 3) = false := beq_false_of_ne hk3
  have e5 : (s.k == 5) = false := beq_false_of_ne hk5
  have e6 : (s.k == 6) = false := beq_false_of_ne hk6
  have e9 : (s.k == 9) = false := beq_false_of_ne hk9
  have HOP := hide (fun W => operation_any W s)
  rw [hop] at HOP
  clear hop
  clear t hV BV hXV hst
  go_enter Tryd.func25, Tryd.ntmps25
  go_wp2_with fail
  rw [← HV.out]
  refine HACT.out.mono ?_
  rintro r' w1 ⟨v1, F1, rfl, hA1, hR1, hf1, hs1⟩
  have hT1 := HTV.out.disk (by omega) hR1 hf1 hs1
  have hS1 := (hf1.block _ (by omega) HNF.out).trans HXV.out
  have hz1 : V.heap.size ≤ w1.heap.size := hf1.size
  obtain ⟨ov, cv, hvv⟩ := hA1.form
  subst hvv
  have HRV := hide hA1.rd
  obtain ⟨X, hX⟩ : ∃ X, X = w1.alloc (.cells #[.slice ov 0 cv, .int .i64 0, .int .i64 0] 31) := ⟨_, rfl⟩
  have BX : Below w1.heap.size w1 X := by rw [hX]; exact (Below.refl _ _).alloc (Nat.le_refl _) _
  have hGX : X.heap[w1.heap.size]? = some (.cells #[.slice ov 0 cv, .int .i64 0, .int .i64 0] 31) := by rw [hX]; exact heap_alloc_new _ _
  have hbs : base ≤ w1.heap.size := by omega
  have HTX := hide (hT1.keep BX hbs)
  have HRX := hide (HRV.out.below BX)
  have hSX := (BX.block _ (by omega)).trans hS1
  have hbX : base ≤ X.heap.size := by have := BX.size; omega
  have hzX : w1.heap.size < X.heap.size := (Array.getElem?_eq_some_iff.1 hGX).1
  have c0 : X.cell? ⟨w.heap.size, 0, none⟩ = some (.int .i64 s.k) := cell_of hSX 0
  have c1 : X.cell? ⟨w.heap.size, 0 + 1, none⟩ = some (.int .i64 s.o) := cell_of hSX 1
  have c2 : X.cell? ⟨w.heap.size, 0 + 2, none⟩ = some (.int .i64 s.n) := cell_of hSX 2
  have c3 : X.cell? ⟨w.heap.size, 0 + 3, none⟩ = some (.int .i64 s.m) := cell_of hSX 3
  have c4 : X.cell? ⟨w.heap.size, 4, none⟩ = some (.string s.t) := cell_of hSX 4
  have c4' : X.cell? ⟨w.heap.size, 0 + 4, none⟩ = some (.string s.t) := cell_of hSX 4
  have d0 : X.cell? ⟨w1.heap.size, 0, none⟩ = some (.slice ov 0 cv) := cell_of hGX 0
  have d1 : X.cell? ⟨w1.heap.size, 1, none⟩ = some (.int .i64 0) := cell_of hGX 1
  have d2 : X.cell? ⟨w1.heap.size, 2, none⟩ = some (.int .i64 0) := cell_of hGX 2
  have HX := hide hX
  have HSX := hide hSX
  have HGX := hide hGX
  obtain ⟨uG, uA, u1, u2, u3, u4, hH⟩ := HTX.out.held.ex
  obtain ⟨oG, cG, hvG, hcG⟩ := own_form u2
  subst hvG
  obtain ⟨oA, cA, hvA, hcA⟩ := own_form u3
  subst hvA
  have hhX := (Array.getElem?_eq_some_iff.1 u1).1
  have HU1 := hide u1
  have HU3 := hide u3
  have g0 : X.cell? ⟨h, 0, none⟩ = some (.slice oG (x.b.take x.s).length cG) := cell_of u1 0
  have g1 : X.cell? ⟨h, 1, none⟩ = some (.slice oA x.b.length cA) := cell_of u1 1
  have g2 : X.cell? ⟨h, 2, none⟩ = some (.int .i64 (x.a.length : Int)) := cell_of u1 2
  have f1 : X.frozen? ⟨h, 1, none⟩ = false := free_of u1 1
  have f0 : X.frozen? ⟨h, 0, none⟩ = false := free_of u1 0
  have f2 : X.frozen? ⟨h, 2, none⟩ = false := free_of u1 2
  have HRA := hide (rd_own u3)
  have har : x.a.length ≤ 8796093022207 := by have := HTV.out.run.arms; omega
  rw [hX] at c0 c1 c2 c3 c4 c4' d0 d1 d2 g0 g1 g2 f0 f1 f2
  clear hT1 hS1 hA1 hR1 hf1 hs1 BX hX hGX hSX u1 u2 u3 u4 hH HRV
  go_wp2_with fail
  rw [← HX.out]
  refine (HOP.out X).mono ?_
  rintro r' w2 ⟨rfl, b2⟩
  have HT2 := hide (HTX.out.keep b2 hbX)
  have d2q : w2.cell? ⟨w1.heap.size, 2, none⟩ = some (.int .i64 0) := cell_of ((b2.block _ hzX).trans HGX.out) 2
  have c0q : w2.cell? ⟨w.heap.size, 0, none⟩ = some (.int .i64 s.k) := cell_of ((b2.block _ (by omega)).trans HSX.out) 0
  clear b2 HTX
  go_wp2
  go_ret
  exact lastE HT2.out rfl rfl rfl

set_option maxRecDepth 100000 in
set_option maxHeartbeats 3200000 in
theorem lasts_7false (base : Nat) (W0 w : World) (e : Nat → Addr) (p h : Nat) (F H : List Nat) (x : St) (j : Nat) (t : Jt base W0 w e p h F H x (x.b.take x.s) x.b (x.a.length : Int) j) (hs : base ≤ w.heap.size) (hj : (j + 1) * 16 ≤ 140737488355328) (hj2 : (j + 1 + 1) * 16 ≤ 140737488355328) (s : Sp) (ht : s.t.size ≤ reachBytes) (h1 : s.n ≤ 9223372036854775807) (h2 : -9223372036854775808 ≤ s.m) (h3 : s.m ≤ 9223372036854775807) (hk : s.k = 7) (hst : x.step s = (x, ⟨[], x.deadN, 0⟩)) :
    Calls Tryd.prog 25 #[ptr h, ptr p, spv s, .bool false, .bool false] w fun r' w' => LastE base W0 e p h (x.step s).1 j r' w' := by
  obtain ⟨V, hV⟩ : ∃ V, V = w.alloc (stc s) := ⟨_, rfl⟩
  have BV : Below w.heap.size w V := by rw [hV]; exact (Below.refl _ _).alloc (Nat.le_refl _) _
  have hXV : V.heap[w.heap.size]? = some (stc s) := by rw [hV]; exact heap_alloc_new _ _
  have hzV : V.heap.size = w.heap.size + 1 := by rw [hV]; simp
  have HTV := hide (t.keep BV hs)
  have HV := hide hV
  have HXV := hide hXV
  have HNF : Hid (w.heap.size ∉ F) := fun hm => by have := t.run.disk.lt _ hm; omega
  have hbm := t.run.fine.ok.most
  have hsm := t.run.fine.ok.syn
  have HACT := hide ((HTV.out.run).act s ht hj h1 h2 h3)
  rw [hst] at HACT ⊢
  dsimp only at HACT ⊢
  have e1 : (s.k == 1) = false := by rw [hk]; rfl
  have e2 : (s.k == 2) = false := by rw [hk]; rfl
  have e3 : (s.k == 3) = false := by rw [hk]; rfl
  have e5 : (s.k == 5) = false := by rw [hk]; rfl
  have e6 : (s.k == 6) = false := by rw [hk]; rfl
  have e9 : (s.k == 9) = false := by rw [hk]; rfl
  clear hk
  clear t hV BV hXV hst
  go_enter Tryd.func25, Tryd.ntmps25
  go_wp2_with fail
  rw [← HV.out]
  refine HACT.out.mono ?_
  rintro r' w1 ⟨v1, F1, rfl, hA1, hR1, hf1, hs1⟩
  have hT1 := HTV.out.disk (by omega) hR1 hf1 hs1
  have hS1 := (hf1.block _ (by omega) HNF.out).trans HXV.out
  have hz1 : V.heap.size ≤ w1.heap.size := hf1.size
  obtain ⟨ov, cv, hvv⟩ := hA1.form
  subst hvv
  have HRV := hide hA1.rd
  obtain ⟨X, hX⟩ : ∃ X, X = w1.alloc (.cells #[.slice ov 0 cv, .int .i64 x.deadN, .int .i64 0] 31) := ⟨_, rfl⟩
  have BX : Below w1.heap.size w1 X := by rw [hX]; exact (Below.refl _ _).alloc (Nat.le_refl _) _
  have hGX : X.heap[w1.heap.size]? = some (.cells #[.slice ov 0 cv, .int .i64 x.deadN, .int .i64 0] 31) := by rw [hX]; exact heap_alloc_new _ _
  have hbs : base ≤ w1.heap.size := by omega
  have HTX := hide (hT1.keep BX hbs)
  have HRX := hide (HRV.out.below BX)
  have hSX := (BX.block _ (by omega)).trans hS1
  have hbX : base ≤ X.heap.size := by have := BX.size; omega
  have hzX : w1.heap.size < X.heap.size := (Array.getElem?_eq_some_iff.1 hGX).1
  have c0 : X.cell? ⟨w.heap.size, 0, none⟩ = some (.int .i64 s.k) := cell_of hSX 0
  have c1 : X.cell? ⟨w.heap.size, 0 + 1, none⟩ = some (.int .i64 s.o) := cell_of hSX 1
  have c2 : X.cell? ⟨w.heap.size, 0 + 2, none⟩ = some (.int .i64 s.n) := cell_of hSX 2
  have c3 : X.cell? ⟨w.heap.size, 0 + 3, none⟩ = some (.int .i64 s.m) := cell_of hSX 3
  have c4 : X.cell? ⟨w.heap.size, 4, none⟩ = some (.string s.t) := cell_of hSX 4
  have c4' : X.cell? ⟨w.heap.size, 0 + 4, none⟩ = some (.string s.t) := cell_of hSX 4
  have d0 : X.cell? ⟨w1.heap.size, 0, none⟩ = some (.slice ov 0 cv) := cell_of hGX 0
  have d1 : X.cell? ⟨w1.heap.size, 1, none⟩ = some (.int .i64 x.deadN) := cell_of hGX 1
  have d2 : X.cell? ⟨w1.heap.size, 2, none⟩ = some (.int .i64 0) := cell_of hGX 2
  have HX := hide hX
  have HSX := hide hSX
  have HGX := hide hGX
  obtain ⟨uG, uA, u1, u2, u3, u4, hH⟩ := HTX.out.held.ex
  obtain ⟨oG, cG, hvG, hcG⟩ := own_form u2
  subst hvG
  obtain ⟨oA, cA, hvA, hcA⟩ := own_form u3
  subst hvA
  have hhX := (Array.getElem?_eq_some_iff.1 u1).1
  have HU1 := hide u1
  have HU3 := hide u3
  have g0 : X.cell? ⟨h, 0, none⟩ = some (.slice oG (x.b.take x.s).length cG) := cell_of u1 0
  have g1 : X.cell? ⟨h, 1, none⟩ = some (.slice oA x.b.length cA) := cell_of u1 1
  have g2 : X.cell? ⟨h, 2, none⟩ = some (.int .i64 (x.a.length : Int)) := cell_of u1 2
  have f1 : X.frozen? ⟨h, 1, none⟩ = false := free_of u1 1
  have f0 : X.frozen? ⟨h, 0, none⟩ = false := free_of u1 0
  have f2 : X.frozen? ⟨h, 2, none⟩ = false := free_of u1 2
  have HRA := hide (rd_own u3)
  have har : x.a.length ≤ 8796093022207 := by have := HTV.out.run.arms; omega
  rw [hX] at c0 c1 c2 c3 c4 c4' d0 d1 d2 g0 g1 g2 f0 f1 f2
  clear hT1 hS1 hA1 hR1 hf1 hs1 BX hX hGX hSX u1 u2 u3 u4 hH HRV
  go_wp2
  rw [← HX.out]
  go_ret
  exact lastE HTX.out rfl rfl rfl

set_option maxRecDepth 100000 in
set_option maxHeartbeats 3200000 in
theorem lasts_8false (base : Nat) (W0 w : World) (e : Nat → Addr) (p h : Nat) (F H : List Nat) (x : St) (j : Nat) (t : Jt base W0 w e p h F H x (x.b.take x.s) x.b (x.a.length : Int) j) (hs : base ≤ w.heap.size) (hj : (j + 1) * 16 ≤ 140737488355328) (hj2 : (j + 1 + 1) * 16 ≤ 140737488355328) (s : Sp) (ht : s.t.size ≤ reachBytes) (h1 : s.n ≤ 9223372036854775807) (h2 : -9223372036854775808 ≤ s.m) (h3 : s.m ≤ 9223372036854775807) (hk : s.k = 8) (hst : x.step s = (x.revive, ⟨[], 0, 0⟩)) :
    Calls Tryd.prog 25 #[ptr h, ptr p, spv s, .bool false, .bool false] w fun r' w' => LastE base W0 e p h (x.step s).1 j r' w' := by
  obtain ⟨V, hV⟩ : ∃ V, V = w.alloc (stc s) := ⟨_, rfl⟩
  have BV : Below w.heap.size w V := by rw [hV]; exact (Below.refl _ _).alloc (Nat.le_refl _) _
  have hXV : V.heap[w.heap.size]? = some (stc s) := by rw [hV]; exact heap_alloc_new _ _
  have hzV : V.heap.size = w.heap.size + 1 := by rw [hV]; simp
  have HTV := hide (t.keep BV hs)
  have HV := hide hV
  have HXV := hide hXV
  have HNF : Hid (w.heap.size ∉ F) := fun hm => by have := t.run.disk.lt _ hm; omega
  have hbm := t.run.fine.ok.most
  have hsm := t.run.fine.ok.syn
  have HACT := hide ((HTV.out.run).act s ht hj h1 h2 h3)
  rw [hst] at HACT ⊢
  dsimp only at HACT ⊢
  have e1 : (s.k == 1) = false := by rw [hk]; rfl
  have e2 : (s.k == 2) = false := by rw [hk]; rfl
  have e3 : (s.k == 3) = false := by rw [hk]; rfl
  have e5 : (s.k == 5) = false := by rw [hk]; rfl
  have e6 : (s.k == 6) = false := by rw [hk]; rfl
  have e9 : (s.k == 9) = false := by rw [hk]; rfl
  clear hk
  clear t hV BV hXV hst
  go_enter Tryd.func25, Tryd.ntmps25
  go_wp2_with fail
  rw [← HV.out]
  refine HACT.out.mono ?_
  rintro r' w1 ⟨v1, F1, rfl, hA1, hR1, hf1, hs1⟩
  have hT1 := HTV.out.disk (by omega) hR1 hf1 hs1
  have hS1 := (hf1.block _ (by omega) HNF.out).trans HXV.out
  have hz1 : V.heap.size ≤ w1.heap.size := hf1.size
  obtain ⟨ov, cv, hvv⟩ := hA1.form
  subst hvv
  have HRV := hide hA1.rd
  obtain ⟨X, hX⟩ : ∃ X, X = w1.alloc (.cells #[.slice ov 0 cv, .int .i64 0, .int .i64 0] 31) := ⟨_, rfl⟩
  have BX : Below w1.heap.size w1 X := by rw [hX]; exact (Below.refl _ _).alloc (Nat.le_refl _) _
  have hGX : X.heap[w1.heap.size]? = some (.cells #[.slice ov 0 cv, .int .i64 0, .int .i64 0] 31) := by rw [hX]; exact heap_alloc_new _ _
  have hbs : base ≤ w1.heap.size := by omega
  have HTX := hide (hT1.keep BX hbs)
  have HRX := hide (HRV.out.below BX)
  have hSX := (BX.block _ (by omega)).trans hS1
  have hbX : base ≤ X.heap.size := by have := BX.size; omega
  have hzX : w1.heap.size < X.heap.size := (Array.getElem?_eq_some_iff.1 hGX).1
  have c0 : X.cell? ⟨w.heap.size, 0, none⟩ = some (.int .i64 s.k) := cell_of hSX 0
  have c1 : X.cell? ⟨w.heap.size, 0 + 1, none⟩ = some (.int .i64 s.o) := cell_of hSX 1
  have c2 : X.cell? ⟨w.heap.size, 0 + 2, none⟩ = some (.int .i64 s.n) := cell_of hSX 2
  have c3 : X.cell? ⟨w.heap.size, 0 + 3, none⟩ = some (.int .i64 s.m) := cell_of hSX 3
  have c4 : X.cell? ⟨w.heap.size, 4, none⟩ = some (.string s.t) := cell_of hSX 4
  have c4' : X.cell? ⟨w.heap.size, 0 + 4, none⟩ = some (.string s.t) := cell_of hSX 4
  have d0 : X.cell? ⟨w1.heap.size, 0, none⟩ = some (.slice ov 0 cv) := cell_of hGX 0
  have d1 : X.cell? ⟨w1.heap.size, 1, none⟩ = some (.int .i64 0) := cell_of hGX 1
  have d2 : X.cell? ⟨w1.heap.size, 2, none⟩ = some (.int .i64 0) := cell_of hGX 2
  have HX := hide hX
  have HSX := hide hSX
  have HGX := hide hGX
  obtain ⟨uG, uA, u1, u2, u3, u4, hH⟩ := HTX.out.held.ex
  obtain ⟨oG, cG, hvG, hcG⟩ := own_form u2
  subst hvG
  obtain ⟨oA, cA, hvA, hcA⟩ := own_form u3
  subst hvA
  have hhX := (Array.getElem?_eq_some_iff.1 u1).1
  have HU1 := hide u1
  have HU3 := hide u3
  have g0 : X.cell? ⟨h, 0, none⟩ = some (.slice oG (x.b.take x.s).length cG) := cell_of u1 0
  have g1 : X.cell? ⟨h, 1, none⟩ = some (.slice oA x.b.length cA) := cell_of u1 1
  have g2 : X.cell? ⟨h, 2, none⟩ = some (.int .i64 (x.a.length : Int)) := cell_of u1 2
  have f1 : X.frozen? ⟨h, 1, none⟩ = false := free_of u1 1
  have f0 : X.frozen? ⟨h, 0, none⟩ = false := free_of u1 0
  have f2 : X.frozen? ⟨h, 2, none⟩ = false := free_of u1 2
  have HRA := hide (rd_own u3)
  have har : x.a.length ≤ 8796093022207 := by have := HTV.out.run.arms; omega
  rw [hX] at c0 c1 c2 c3 c4 c4' d0 d1 d2 g0 g1 g2 f0 f1 f2
  clear hT1 hS1 hA1 hR1 hf1 hs1 BX hX hGX hSX u1 u2 u3 u4 hH HRV
  go_wp2
  rw [← HX.out]
  go_ret
  exact lastE HTX.out rfl rfl rfl

set_option maxRecDepth 100000 in
set_option maxHeartbeats 3200000 in
theorem lasts_0false (base : Nat) (W0 w : World) (e : Nat → Addr) (p h : Nat) (F H : List Nat) (x : St) (j : Nat) (t : Jt base W0 w e p h F H x (x.b.take x.s) x.b (x.a.length : Int) j) (hs : base ≤ w.heap.size) (hj : (j + 1) * 16 ≤ 140737488355328) (hj2 : (j + 1 + 1) * 16 ≤ 140737488355328) (s : Sp) (ht : s.t.size ≤ reachBytes) (h1 : s.n ≤ 9223372036854775807) (h2 : -9223372036854775808 ≤ s.m) (h3 : s.m ≤ 9223372036854775807) (hk1 : s.k ≠ 1) (hk2 : s.k ≠ 2) (hk3 : s.k ≠ 3) (hk5 : s.k ≠ 5) (hk6 : s.k ≠ 6) (hk9 : s.k ≠ 9) (hst : x.step s = (x, ⟨[], 0, 0⟩)) :
    Calls Tryd.prog 25 #[ptr h, ptr p, spv s, .bool false, .bool false] w fun r' w' => LastE base W0 e p h (x.step s).1 j r' w' := by
  obtain ⟨V, hV⟩ : ∃ V, V = w.alloc (stc s) := ⟨_, rfl⟩
  have BV : Below w.heap.size w V := by rw [hV]; exact (Below.refl _ _).alloc (Nat.le_refl _) _
  have hXV : V.heap[w.heap.size]? = some (stc s) := by rw [hV]; exact heap_alloc_new _ _
  have hzV : V.heap.size = w.heap.size + 1 := by rw [hV]; simp
  have HTV := hide (t.keep BV hs)
  have HV := hide hV
  have HXV := hide hXV
  have HNF : Hid (w.heap.size ∉ F) := fun hm => by have := t.run.disk.lt _ hm; omega
  have hbm := t.run.fine.ok.most
  have hsm := t.run.fine.ok.syn
  have HACT := hide ((HTV.out.run).act s ht hj h1 h2 h3)
  rw [hst] at HACT ⊢
  dsimp only at HACT ⊢
  have e1 : (s.k == 1) = false := beq_false_of_ne hk1
  have e2 : (s.k == 2) = false := beq_false_of_ne hk2
  have e3 : (s.k == 3) = false := beq_false_of_ne hk3
  have e5 : (s.k == 5) = false := beq_false_of_ne hk5
  have e6 : (s.k == 6) = false := beq_false_of_ne hk6
  have e9 : (s.k == 9) = false := beq_false_of_ne hk9
  clear t hV BV hXV hst
  go_enter Tryd.func25, Tryd.ntmps25
  go_wp2_with fail
  rw [← HV.out]
  refine HACT.out.mono ?_
  rintro r' w1 ⟨v1, F1, rfl, hA1, hR1, hf1, hs1⟩
  have hT1 := HTV.out.disk (by omega) hR1 hf1 hs1
  have hS1 := (hf1.block _ (by omega) HNF.out).trans HXV.out
  have hz1 : V.heap.size ≤ w1.heap.size := hf1.size
  obtain ⟨ov, cv, hvv⟩ := hA1.form
  subst hvv
  have HRV := hide hA1.rd
  obtain ⟨X, hX⟩ : ∃ X, X = w1.alloc (.cells #[.slice ov 0 cv, .int .i64 0, .int .i64 0] 31) := ⟨_, rfl⟩
  have BX : Below w1.heap.size w1 X := by rw [hX]; exact (Below.refl _ _).alloc (Nat.le_refl _) _
  have hGX : X.heap[w1.heap.size]? = some (.cells #[.slice ov 0 cv, .int .i64 0, .int .i64 0] 31) := by rw [hX]; exact heap_alloc_new _ _
  have hbs : base ≤ w1.heap.size := by omega
  have HTX := hide (hT1.keep BX hbs)
  have HRX := hide (HRV.out.below BX)
  have hSX := (BX.block _ (by omega)).trans hS1
  have hbX : base ≤ X.heap.size := by have := BX.size; omega
  have hzX : w1.heap.size < X.heap.size := (Array.getElem?_eq_some_iff.1 hGX).1
  have c0 : X.cell? ⟨w.heap.size, 0, none⟩ = some (.int .i64 s.k) := cell_of hSX 0
  have c1 : X.cell? ⟨w.heap.size, 0 + 1, none⟩ = some (.int .i64 s.o) := cell_of hSX 1
  have c2 : X.cell? ⟨w.heap.size, 0 + 2, none⟩ = some (.int .i64 s.n) := cell_of hSX 2
  have c3 : X.cell? ⟨w.heap.size, 0 + 3, none⟩ = some (.int .i64 s.m) := cell_of hSX 3
  have c4 : X.cell? ⟨w.heap.size, 4, none⟩ = some (.string s.t) := cell_of hSX 4
  have c4' : X.cell? ⟨w.heap.size, 0 + 4, none⟩ = some (.string s.t) := cell_of hSX 4
  have d0 : X.cell? ⟨w1.heap.size, 0, none⟩ = some (.slice ov 0 cv) := cell_of hGX 0
  have d1 : X.cell? ⟨w1.heap.size, 1, none⟩ = some (.int .i64 0) := cell_of hGX 1
  have d2 : X.cell? ⟨w1.heap.size, 2, none⟩ = some (.int .i64 0) := cell_of hGX 2
  have HX := hide hX
  have HSX := hide hSX
  have HGX := hide hGX
  obtain ⟨uG, uA, u1, u2, u3, u4, hH⟩ := HTX.out.held.ex
  obtain ⟨oG, cG, hvG, hcG⟩ := own_form u2
  subst hvG
  obtain ⟨oA, cA, hvA, hcA⟩ := own_form u3
  subst hvA
  have hhX := (Array.getElem?_eq_some_iff.1 u1).1
  have HU1 := hide u1
  have HU3 := hide u3
  have g0 : X.cell? ⟨h, 0, none⟩ = some (.slice oG (x.b.take x.s).length cG) := cell_of u1 0
  have g1 : X.cell? ⟨h, 1, none⟩ = some (.slice oA x.b.length cA) := cell_of u1 1
  have g2 : X.cell? ⟨h, 2, none⟩ = some (.int .i64 (x.a.length : Int)) := cell_of u1 2
  have f1 : X.frozen? ⟨h, 1, none⟩ = false := free_of u1 1
  have f0 : X.frozen? ⟨h, 0, none⟩ = false := free_of u1 0
  have f2 : X.frozen? ⟨h, 2, none⟩ = false := free_of u1 2
  have HRA := hide (rd_own u3)
  have har : x.a.length ≤ 8796093022207 := by have := HTV.out.run.arms; omega
  rw [hX] at c0 c1 c2 c3 c4 c4' d0 d1 d2 g0 g1 g2 f0 f1 f2
  clear hT1 hS1 hA1 hR1 hf1 hs1 BX hX hGX hSX u1 u2 u3 u4 hH HRV
  go_wp2
  rw [← HX.out]
  go_ret
  exact lastE HTX.out rfl rfl rfl

set_option maxRecDepth 100000 in
set_option maxHeartbeats 3200000 in
theorem lasts_6true (base : Nat) (W0 w : World) (e : Nat → Addr) (p h : Nat) (F H : List Nat) (x : St) (j : Nat) (t : Jt base W0 w e p h F H x (x.b.take x.s) x.b (x.a.length : Int) j) (hs : base ≤ w.heap.size) (hj : (j + 1) * 16 ≤ 140737488355328) (hj2 : (j + 1 + 1) * 16 ≤ 140737488355328) (s : Sp) (ht : s.t.size ≤ reachBytes) (h1 : s.n ≤ 9223372036854775807) (h2 : -9223372036854775808 ≤ s.m) (h3 : s.m ≤ 9223372036854775807) (hk : s.k = 6) (hop : opB s = false) (hst : x.step s = (x, ⟨[], 0, 0⟩)) :
    Calls Tryd.prog 25 #[ptr h, ptr p, spv s, .bool true, .bool false] w fun r' w' => LastE base W0 e p h (x.step s).1 j r' w' := by
  obtain ⟨V, hV⟩ : ∃ V, V = w.alloc (stc s) := ⟨_, rfl⟩
  have BV : Below w.heap.size w V := by rw [hV]; exact (Below.refl _ _).alloc (Nat.le_refl _) _
  have hXV : V.heap[w.heap.size]? = some (stc s) := by rw [hV]; exact heap_alloc_new _ _
  have hzV : V.heap.size = w.heap.size + 1 := by rw [hV]; simp
  have HTV := hide (t.keep BV hs)
  have HV := hide hV
  have HXV := hide hXV
  have HNF : Hid (w.heap.size ∉ F) := fun hm => by have := t.run.disk.lt _ hm; omega
  have hbm := t.run.fine.ok.most
  have hsm := t.run.fine.ok.syn
  have HACT := hide ((HTV.out.run).act s ht hj h1 h2 h3)
  rw [hst] at HACT ⊢
  dsimp only at HACT ⊢
  have e1 : (s.k == 1) = false := by rw [hk]; rfl
  have e2 : (s.k == 2) = false := by rw [hk]; rfl
  have e3 : (s.k == 3) = false := by rw [hk]; rfl
  have e5 : (s.k == 5) = false := by rw [hk]; rfl
  have e6 : (s.k == 6) = true := by rw [hk]; rfl
  have e9 : (s.k == 9) = false := by rw [hk]; rfl
  clear hk
  have HOP := hide (fun W => operation_any W s)
  rw [hop] at HOP
  clear hop
  clear t hV BV hXV hst
  go_enter Tryd.func25, Tryd.ntmps25
  go_wp2_with fail
  rw [← HV.out]
  refine HACT.out.mono ?_
  rintro r' w1 ⟨v1, F1, rfl, hA1, hR1, hf1, hs1⟩
  have hT1 := HTV.out.disk (by omega) hR1 hf1 hs1
  have hS1 := (hf1.block _ (by omega) HNF.out).trans HXV.out
  have hz1 : V.heap.size ≤ w1.heap.size := hf1.size
  obtain ⟨ov, cv, hvv⟩ := hA1.form
  subst hvv
  have HRV := hide hA1.rd
  obtain ⟨X, hX⟩ : ∃ X, X = w1.alloc (.cells #[.slice ov 0 cv, .int .i64 0, .int .i64 0] 31) := ⟨_, rfl⟩
  have BX : Below w1.heap.size w1 X := by rw [hX]; exact (Below.refl _ _).alloc (Nat.le_refl _) _
  have hGX : X.heap[w1.heap.size]? = some (.cells #[.slice ov 0 cv, .int .i64 0, .int .i64 0] 31) := by rw [hX]; exact heap_alloc_new _ _
  have hbs : base ≤ w1.heap.size := by omega
  have HTX := hide (hT1.keep BX hbs)
  have HRX := hide (HRV.out.below BX)
  have hSX := (BX.block _ (by omega)).trans hS1
  have hbX : base ≤ X.heap.size := by have := BX.size; omega
  have hzX : w1.heap.size < X.heap.size := (Array.getElem?_eq_some_iff.1 hGX).1
  have c0 : X.cell? ⟨w.heap.size, 0, none⟩ = some (.int .i64 s.k) := cell_of hSX 0
  have c1 : X.cell? ⟨w.heap.size, 0 + 1, none⟩ = some (.int .i64 s.o) := cell_of hSX 1
  have c2 : X.cell? ⟨w.heap.size, 0 + 2, none⟩ = some (.int .i64 s.n) := cell_of hSX 2
  have c3 : X.cell? ⟨w.heap.size, 0 + 3, none⟩ = some (.int .i64 s.m) := cell_of hSX 3
  have c4 : X.cell? ⟨w.heap.size, 4, none⟩ = some (.string s.t) := cell_of hSX 4
  have c4' : X.cell? ⟨w.heap.size, 0 + 4, none⟩ = some (.string s.t) := cell_of hSX 4
  have d0 : X.cell? ⟨w1.heap.size, 0, none⟩ = some (.slice ov 0 cv) := cell_of hGX 0
  have d1 : X.cell? ⟨w1.heap.size, 1, none⟩ = some (.int .i64 0) := cell_of hGX 1
  have d2 : X.cell? ⟨w1.heap.size, 2, none⟩ = some (.int .i64 0) := cell_of hGX 2
  have HX := hide hX
  have HSX := hide hSX
  have HGX := hide hGX
  obtain ⟨uG, uA, u1, u2, u3, u4, hH⟩ := HTX.out.held.ex
  obtain ⟨oG, cG, hvG, hcG⟩ := own_form u2
  subst hvG
  obtain ⟨oA, cA, hvA, hcA⟩ := own_form u3
  subst hvA
  have hhX := (Array.getElem?_eq_some_iff.1 u1).1
  have HU1 := hide u1
  have HU3 := hide u3
  have g0 : X.cell? ⟨h, 0, none⟩ = some (.slice oG (x.b.take x.s).length cG) := cell_of u1 0
  have g1 : X.cell? ⟨h, 1, none⟩ = some (.slice oA x.b.length cA) := cell_of u1 1
  have g2 : X.cell? ⟨h, 2, none⟩ = some (.int .i64 (x.a.length : Int)) := cell_of u1 2
  have f1 : X.frozen? ⟨h, 1, none⟩ = false := free_of u1 1
  have f0 : X.frozen? ⟨h, 0, none⟩ = false := free_of u1 0
  have f2 : X.frozen? ⟨h, 2, none⟩ = false := free_of u1 2
  have HRA := hide (rd_own u3)
  have har : x.a.length ≤ 8796093022207 := by have := HTV.out.run.arms; omega
  rw [hX] at c0 c1 c2 c3 c4 c4' d0 d1 d2 g0 g1 g2 f0 f1 f2
  clear hT1 hS1 hA1 hR1 hf1 hs1 BX hX hGX hSX u1 u2 u3 u4 hH HRV
  go_wp2_with fail
  rw [← HX.out]
  refine (HOP.out X).mono ?_
  rintro r' w2 ⟨rfl, b2⟩
  have HT2 := hide (HTX.out.keep b2 hbX)
  have d2q : w2.cell? ⟨w1.heap.size, 2, none⟩ = some (.int .i64 0) := cell_of ((b2.block _ hzX).trans HGX.out) 2
  have c0q : w2.cell? ⟨w.heap.size, 0, none⟩ = some (.int .i64 s.k) := cell_of ((b2.block _ (by omega)).trans HSX.out) 0
  clear b2 HTX
  go_wp2
  go_ret
  exact lastE HT2.out rfl rfl rfl

set_option maxRecDepth 100000 in
set_option maxHeartbeats 3200000 in
theorem lasts_full (base : Nat) (W0 w : World) (e : Nat → Addr) (p h : Nat) (F H : List Nat) (x : St) (j : Nat) (t : Jt base W0 w e p h F H x (x.b.take x.s) x.b (x.a.length : Int) j) (hs : base ≤ w.heap.size) (hj : (j + 1) * 16 ≤ 140737488355328) (hj2 : (j + 1 + 1) * 16 ≤ 140737488355328) (s : Sp) (ht : s.t.size ≤ reachBytes) (h1 : s.n ≤ 9223372036854775807) (h2 : -9223372036854775808 ≤ s.m) (h3 : s.m ≤ 9223372036854775807) (hk : s.k = 1) (z : St) (hz1 : z.b = x.b) (hz2 : z.s = x.s) (hz3 : z.a.length = x.a.length) (hst : x.step s = (z, ⟨[], 0, 9⟩)) :
    Calls Tryd.prog 25 #[ptr h, ptr p, spv s, .bool false, .bool true] w fun r' w' => LastE base W0 e p h (x.step s).1 j r' w' := by
  obtain ⟨V, hV⟩ : ∃ V, V = w.alloc (stc s) := ⟨_, rfl⟩
  have BV : Below w.heap.size w V := by rw [hV]; exact (Below.refl _ _).alloc (Nat.le_refl _) _
  have hXV : V.heap[w.heap.size]? = some (stc s) := by rw [hV]; exact heap_alloc_new _ _
  have hzV : V.heap.size = w.heap.size + 1 := by rw [hV]; simp
  have HTV := hide (t.keep BV hs)
  have HV := hide hV
  have HXV := hide hXV
  have HNF : Hid (w.heap.size ∉ F) := fun hm => by have := t.run.disk.lt _ hm; omega
  have hbm := t.run.fine.ok.most
  have hsm := t.run.fine.ok.syn
  have HACT := hide ((HTV.out.run).act s ht hj h1 h2 h3)
  rw [hst] at HACT ⊢
  dsimp only at HACT ⊢
  have e1 : (s.k == 1) = true := by rw [hk]; rfl
  have e2 : (s.k == 2) = false := by rw [hk]; rfl
  have e3 : (s.k == 3) = false := by rw [hk]; rfl
  have e5 : (s.k == 5) = false := by rw [hk]; rfl
  have e6 : (s.k == 6) = false := by rw [hk]; rfl
  have e9 : (s.k == 9) = false := by rw [hk]; rfl
  have HZ1 := hide hz1
  have HZ2 := hide hz2
  have HZ3 := hide hz3
  clear hk hz1 hz2 hz3
  clear t hV BV hXV hst
  go_enter Tryd.func25, Tryd.ntmps25
  go_wp2_with fail
  rw [← HV.out]
  refine HACT.out.mono ?_
  rintro r' w1 ⟨v1, F1, rfl, hA1, hR1, hf1, hs1⟩
  have hT1 := HTV.out.disk (by omega) hR1 hf1 hs1
  have hS1 := (hf1.block _ (by omega) HNF.out).trans HXV.out
  have hz1 : V.heap.size ≤ w1.heap.size := hf1.size
  obtain ⟨ov, cv, hvv⟩ := hA1.form
  subst hvv
  have HRV := hide hA1.rd
  obtain ⟨X, hX⟩ : ∃ X, X = w1.alloc (.cells #[.slice ov 0 cv, .int .i64 0, .int .i64 9] 31) := ⟨_, rfl⟩
  have BX : Below w1.heap.size w1 X := by rw [hX]; exact (Below.refl _ _).alloc (Nat.le_refl _) _
  have hGX : X.heap[w1.heap.size]? = some (.cells #[.slice ov 0 cv, .int .i64 0, .int .i64 9] 31) := by rw [hX]; exact heap_alloc_new _ _
  have hbs : base ≤ w1.heap.size := by omega
  have HTX := hide (hT1.keep BX hbs)
  have HRX := hide (HRV.out.below BX)
  have hSX := (BX.block _ (by omega)).trans hS1
  have hbX : base ≤ X.heap.size := by have := BX.size; omega
  have hzX : w1.heap.size < X.heap.size := (Array.getElem?_eq_some_iff.1 hGX).1
  have c0 : X.cell? ⟨w.heap.size, 0, none⟩ = some (.int .i64 s.k) := cell_of hSX 0
  have c1 : X.cell? ⟨w.heap.size, 0 + 1, none⟩ = some (.int .i64 s.o) := cell_of hSX 1
  have c2 : X.cell? ⟨w.heap.size, 0 + 2, none⟩ = some (.int .i64 s.n) := cell_of hSX 2
  have c3 : X.cell? ⟨w.heap.size, 0 + 3, none⟩ = some (.int .i64 s.m) := cell_of hSX 3
  have c4 : X.cell? ⟨w.heap.size, 4, none⟩ = some (.string s.t) := cell_of hSX 4
  have c4' : X.cell? ⟨w.heap.size, 0 + 4, none⟩ = some (.string s.t) := cell_of hSX 4
  have d0 : X.cell? ⟨w1.heap.size, 0, none⟩ = some (.slice ov 0 cv) := cell_of hGX 0
  have d1 : X.cell? ⟨w1.heap.size, 1, none⟩ = some (.int .i64 0) := cell_of hGX 1
  have d2 : X.cell? ⟨w1.heap.size, 2, none⟩ = some (.int .i64 9) := cell_of hGX 2
  have HX := hide hX
  have HSX := hide hSX
  have HGX := hide hGX
  obtain ⟨uG, uA, u1, u2, u3, u4, hH⟩ := HTX.out.held.ex
  obtain ⟨oG, cG, hvG, hcG⟩ := own_form u2
  subst hvG
  obtain ⟨oA, cA, hvA, hcA⟩ := own_form u3
  subst hvA
  have hhX := (Array.getElem?_eq_some_iff.1 u1).1
  have HU1 := hide u1
  have HU3 := hide u3
  have g0 : X.cell? ⟨h, 0, none⟩ = some (.slice oG (x.b.take x.s).length cG) := cell_of u1 0
  have g1 : X.cell? ⟨h, 1, none⟩ = some (.slice oA x.b.length cA) := cell_of u1 1
  have g2 : X.cell? ⟨h, 2, none⟩ = some (.int .i64 (x.a.length : Int)) := cell_of u1 2
  have f1 : X.frozen? ⟨h, 1, none⟩ = false := free_of u1 1
  have f0 : X.frozen? ⟨h, 0, none⟩ = false := free_of u1 0
  have f2 : X.frozen? ⟨h, 2, none⟩ = false := free_of u1 2
  have HRA := hide (rd_own u3)
  have har : x.a.length ≤ 8796093022207 := by have := HTV.out.run.arms; omega
  rw [hX] at c0 c1 c2 c3 c4 c4' d0 d1 d2 g0 g1 g2 f0 f1 f2
  clear hT1 hS1 hA1 hR1 hf1 hs1 BX hX hGX hSX u1 u2 u3 u4 hH HRV
  go_wp2
  rw [← HX.out]
  go_ret
  exact lastE HTX.out (by rw [HZ1.out, HZ2.out]) HZ1.out.symm (by rw [HZ3.out])

set_option maxRecDepth 100000 in
set_option maxHeartbeats 3200000 in
theorem lasts_5true (base : Nat) (W0 w : World) (e : Nat → Addr) (p h : Nat) (F H : List Nat) (x : St) (j : Nat) (t : Jt base W0 w e p h F H x (x.b.take x.s) x.b (x.a.length : Int) j) (hs : base ≤ w.heap.size) (hj : (j + 1) * 16 ≤ 140737488355328) (hj2 : (j + 1 + 1) * 16 ≤ 140737488355328) (s : Sp) (ht : s.t.size ≤ reachBytes) (h1 : s.n ≤ 9223372036854775807) (h2 : -9223372036854775808 ≤ s.m) (h3 : s.m ≤ 9223372036854775807) (hk : s.k = 5) (hop : opB s = false) (hst : x.step s = (x.arm s.n s.m, ⟨[], 0, 0⟩)) :
    Calls Tryd.prog 25 #[ptr h, ptr p, spv s, .bool true, .bool false] w fun r' w' => LastE base W0 e p h (x.step s).1 j r' w' := by
  obtain ⟨V, hV⟩ : ∃ V, V = w.alloc (stc s) := ⟨_, rfl⟩
  have BV : Below w.heap.size w V := by rw [hV]; exact (Below.refl _ _).alloc (Nat.le_refl _) _
  have hXV : V.heap[w.heap.size]? = some (stc s) := by rw [hV]; exact heap_alloc_new _ _
  have hzV : V.heap.size = w.heap.size + 1 := by rw [hV]; simp
  have HTV := hide (t.keep BV hs)
  have HV := hide hV
  have HXV := hide hXV
  have HNF : Hid (w.heap.size ∉ F) := fun hm => by have := t.run.disk.lt _ hm; omega
  have hbm := t.run.fine.ok.most
  have hsm := t.run.fine.ok.syn
  have HACT := hide ((HTV.out.run).act s ht hj h1 h2 h3)
  rw [hst] at HACT ⊢
  dsimp only at HACT ⊢
  have e1 : (s.k == 1) = false := by rw [hk]; rfl
  have e2 : (s.k == 2) = false := by rw [hk]; rfl
  have e3 : (s.k == 3) = false := by rw [hk]; rfl
  have e5 : (s.k == 5) = true := by rw [hk]; rfl
  have e6 : (s.k == 6) = false := by rw [hk]; rfl
  have e9 : (s.k == 9) = false := by rw [hk]; rfl
  have HOP := hide (fun W => operation_any W s)
  rw [hop] at HOP
  clear hk hop
  clear t hV BV hXV hst
  go_enter Tryd.func25, Tryd.ntmps25
  go_wp2_with fail
  rw [← HV.out]
  refine HACT.out.mono ?_
  rintro r' w1 ⟨v1, F1, rfl, hA1, hR1, hf1, hs1⟩
  have hT1 := HTV.out.disk (by omega) hR1 hf1 hs1
  have hS1 := (hf1.block _ (by omega) HNF.out).trans HXV.out
  have hz1 : V.heap.size ≤ w1.heap.size := hf1.size
  obtain ⟨ov, cv, hvv⟩ := hA1.form
  subst hvv
  have HRV := hide hA1.rd
  obtain ⟨X, hX⟩ : ∃ X, X = w1.alloc (.cells #[.slice ov 0 cv, .int .i64 0, .int .i64 0] 31) := ⟨_, rfl⟩
  have BX : Below w1.heap.size w1 X := by rw [hX]; exact (Below.refl _ _).alloc (Nat.le_refl _) _
  have hGX : X.heap[w1.heap.size]? = some (.cells #[.slice ov 0 cv, .int .i64 0, .int .i64 0] 31) := by rw [hX]; exact heap_alloc_new _ _
  have hbs : base ≤ w1.heap.size := by omega
  have HTX := hide (hT1.keep BX hbs)
  have HRX := hide (HRV.out.below BX)
  have hSX := (BX.block _ (by omega)).trans hS1
  have hbX : base ≤ X.heap.size := by have := BX.size; omega
  have hzX : w1.heap.size < X.heap.size := (Array.getElem?_eq_some_iff.1 hGX).1
  have c0 : X.cell? ⟨w.heap.size, 0, none⟩ = some (.int .i64 s.k) := cell_of hSX 0
  have c1 : X.cell? ⟨w.heap.size, 0 + 1, none⟩ = some (.int .i64 s.o) := cell_of hSX 1
  have c2 : X.cell? ⟨w.heap.size, 0 + 2, none⟩ = some (.int .i64 s.n) := cell_of hSX 2
  have c3 : X.cell? ⟨w.heap.size, 0 + 3, none⟩ = some (.int .i64 s.m) := cell_of hSX 3
  have c4 : X.cell? ⟨w.heap.size, 4, none⟩ = some (.string s.t) := cell_of hSX 4
  have c4' : X.cell? ⟨w.heap.size, 0 + 4, none⟩ = some (.string s.t) := cell_of hSX 4
  have d0 : X.cell? ⟨w1.heap.size, 0, none⟩ = some (.slice ov 0 cv) := cell_of hGX 0
  have d1 : X.cell? ⟨w1.heap.size, 1, none⟩ = some (.int .i64 0) := cell_of hGX 1
  have d2 : X.cell? ⟨w1.heap.size, 2, none⟩ = some (.int .i64 0) := cell_of hGX 2
  have HX := hide hX
  have HSX := hide hSX
  have HGX := hide hGX
  obtain ⟨uG, uA, u1, u2, u3, u4, hH⟩ := HTX.out.held.ex
  obtain ⟨oG, cG, hvG, hcG⟩ := own_form u2
  subst hvG
  obtain ⟨oA, cA, hvA, hcA⟩ := own_form u3
  subst hvA
  have hhX := (Array.getElem?_eq_some_iff.1 u1).1
  have HU1 := hide u1
  have HU3 := hide u3
  have g0 : X.cell? ⟨h, 0, none⟩ = some (.slice oG (x.b.take x.s).length cG) := cell_of u1 0
  have g1 : X.cell? ⟨h, 1, none⟩ = some (.slice oA x.b.length cA) := cell_of u1 1
  have g2 : X.cell? ⟨h, 2, none⟩ = some (.int .i64 (x.a.length : Int)) := cell_of u1 2
  have f1 : X.frozen? ⟨h, 1, none⟩ = false := free_of u1 1
  have f0 : X.frozen? ⟨h, 0, none⟩ = false := free_of u1 0
  have f2 : X.frozen? ⟨h, 2, none⟩ = false := free_of u1 2
  have HRA := hide (rd_own u3)
  have har : x.a.length ≤ 8796093022207 := by have := HTV.out.run.arms; omega
  rw [hX] at c0 c1 c2 c3 c4 c4' d0 d1 d2 g0 g1 g2 f0 f1 f2
  clear hT1 hS1 hA1 hR1 hf1 hs1 BX hX hGX hSX u1 u2 u3 u4 hH HRV
  go_wp2_with fail
  rw [← HX.out]
  refine (HOP.out X).mono ?_
  rintro r' w2 ⟨rfl, b2⟩
  have HT2 := hide (HTX.out.keep b2 hbX)
  have d2q : w2.cell? ⟨w1.heap.size, 2, none⟩ = some (.int .i64 0) := cell_of ((b2.block _ hzX).trans HGX.out) 2
  have c0q : w2.cell? ⟨w.heap.size, 0, none⟩ = some (.int .i64 s.k) := cell_of ((b2.block _ (by omega)).trans HSX.out) 0
  have g2q : w2.cell? ⟨h, 2, none⟩ = some (.int .i64 (x.a.length : Int)) := cell_of ((b2.block _ hhX).trans HU1.out) 2
  have f2q : w2.frozen? ⟨h, 2, none⟩ = false := free_of ((b2.block _ hhX).trans HU1.out) 2
  have HT3 := hide (HT2.out.set2 ((x.a.length : Int) + 1))
  clear b2 HTX HT2
  go_wp2
  go_ret
  exact lastE HT3.out rfl rfl (by show (x.a.length : Int) + 1 = ((x.a ++ [(s.n.toNat, s.m)]).length : Int); rw [List.length_append]; rfl)

set_option maxRecDepth 100000 in
set_option maxHeartbeats 3200000 in
theorem lasts_5false (base : Nat) (W0 w : World) (e : Nat → Addr) (p h : Nat) (F H : List Nat) (x : St) (j : Nat) (t : Jt base W0 w e p h F H x (x.b.take x.s) x.b (x.a.length : Int) j) (hs : base ≤ w.heap.size) (hj : (j + 1) * 16 ≤ 140737488355328) (hj2 : (j + 1 + 1) * 16 ≤ 140737488355328) (s : Sp) (ht : s.t.size ≤ reachBytes) (h1 : s.n ≤ 9223372036854775807) (h2 : -9223372036854775808 ≤ s.m) (h3 : s.m ≤ 9223372036854775807) (hk : s.k = 5) (hst : x.step s = (x.arm s.n s.m, ⟨[], 0, 0⟩)) :
    Calls Tryd.prog 25 #[ptr h, ptr p, spv s, .bool false, .bool false] w fun r' w' => LastE base W0 e p h (x.step s).1 j r' w' := by
  obtain ⟨V, hV⟩ : ∃ V, V = w.alloc (stc s) := ⟨_, rfl⟩
  have BV : Below w.heap.size w V := by rw [hV]; exact (Below.refl _ _).alloc (Nat.le_refl _) _
  have hXV : V.heap[w.heap.size]? = some (stc s) := by rw [hV]; exact heap_alloc_new _ _
  have hzV : V.heap.size = w.heap.size + 1 := by rw [hV]; simp
  have HTV := hide (t.keep BV hs)
  have HV := hide hV
  have HXV := hide hXV
  have HNF : Hid (w.heap.size ∉ F) := fun hm => by have := t.run.disk.lt _ hm; omega
  have hbm := t.run.fine.ok.most
  have hsm := t.run.fine.ok.syn
  have HACT := hide ((HTV.out.run).act s ht hj h1 h2 h3)
  rw [hst] at HACT ⊢
  dsimp only at HACT ⊢
  have e1 : (s.k == 1) = false := by rw [hk]; rfl
  have e2 : (s.k == 2) = false := by rw [hk]; rfl
  have e3 : (s.k == 3) = false := by rw [hk]; rfl
  have e5 : (s.k == 5) = true := by rw [hk]; rfl
  have e6 : (s.k == 6) = false := by rw [hk]; rfl
  have e9 : (s.k == 9) = false := by rw [hk]; rfl
  clear hk
  clear t hV BV hXV hst
  go_enter Tryd.func25, Tryd.ntmps25
  go_wp2_with fail
  rw [← HV.out]
  refine HACT.out.mono ?_
  rintro r' w1 ⟨v1, F1, rfl, hA1, hR1, hf1, hs1⟩
  have hT1 := HTV.out.disk (by omega) hR1 hf1 hs1
  have hS1 := (hf1.block _ (by omega) HNF.out).trans HXV.out
  have hz1 : V.heap.size ≤ w1.heap.size := hf1.size
  obtain ⟨ov, cv, hvv⟩ := hA1.form
  subst hvv
  have HRV := hide hA1.rd
  obtain ⟨X, hX⟩ : ∃ X, X = w1.alloc (.cells #[.slice ov 0 cv, .int .i64 0, .int .i64 0] 31) := ⟨_, rfl⟩
  have BX : Below w1.heap.size w1 X := by rw [hX]; exact (Below.refl _ _).alloc (Nat.le_refl _) _
  have hGX : X.heap[w1.heap.size]? = some (.cells #[.slice ov 0 cv, .int .i64 0, .int .i64 0] 31) := by rw [hX]; exact heap_alloc_new _ _
  have hbs : base ≤ w1.heap.size := by omega
  have HTX := hide (hT1.keep BX hbs)
  have HRX := hide (HRV.out.below BX)
  have hSX := (BX.block _ (by omega)).trans hS1
  have hbX : base ≤ X.heap.size := by have := BX.size; omega
  have hzX : w1.heap.size < X.heap.size := (Array.getElem?_eq_some_iff.1 hGX).1
  have c0 : X.cell? ⟨w.heap.size, 0, none⟩ = some (.int .i64 s.k) := cell_of hSX 0
  have c1 : X.cell? ⟨w.heap.size, 0 + 1, none⟩ = some (.int .i64 s.o) := cell_of hSX 1
  have c2 : X.cell? ⟨w.heap.size, 0 + 2, none⟩ = some (.int .i64 s.n) := cell_of hSX 2
  have c3 : X.cell? ⟨w.heap.size, 0 + 3, none⟩ = some (.int .i64 s.m) := cell_of hSX 3
  have c4 : X.cell? ⟨w.heap.size, 4, none⟩ = some (.string s.t) := cell_of hSX 4
  have c4' : X.cell? ⟨w.heap.size, 0 + 4, none⟩ = some (.string s.t) := cell_of hSX 4
  have d0 : X.cell? ⟨w1.heap.size, 0, none⟩ = some (.slice ov 0 cv) := cell_of hGX 0
  have d1 : X.cell? ⟨w1.heap.size, 1, none⟩ = some (.int .i64 0) := cell_of hGX 1
  have d2 : X.cell? ⟨w1.heap.size, 2, none⟩ = some (.int .i64 0) := cell_of hGX 2
  have HX := hide hX
  have HSX := hide hSX
  have HGX := hide hGX
  obtain ⟨uG, uA, u1, u2, u3, u4, hH⟩ := HTX.out.held.ex
  obtain ⟨oG, cG, hvG, hcG⟩ := own_form u2
  subst hvG
  obtain ⟨oA, cA, hvA, hcA⟩ := own_form u3
  subst hvA
  have hhX := (Array.getElem?_eq_some_iff.1 u1).1
  have HU1 := hide u1
  have HU3 := hide u3
  have g0 : X.cell? ⟨h, 0, none⟩ = some (.slice oG (x.b.take x.s).length cG) := cell_of u1 0
  have g1 : X.cell? ⟨h, 1, none⟩ = some (.slice oA x.b.length cA) := cell_of u1 1
  have g2 : X.cell? ⟨h, 2, none⟩ = some (.int .i64 (x.a.length : Int)) := cell_of u1 2
  have f1 : X.frozen? ⟨h, 1, none⟩ = false := free_of u1 1
  have f0 : X.frozen? ⟨h, 0, none⟩ = false := free_of u1 0
  have f2 : X.frozen? ⟨h, 2, none⟩ = false := free_of u1 2
  have HRA := hide (rd_own u3)
  have har : x.a.length ≤ 8796093022207 := by have := HTV.out.run.arms; omega
  rw [hX] at c0 c1 c2 c3 c4 c4' d0 d1 d2 g0 g1 g2 f0 f1 f2
  clear hT1 hS1 hA1 hR1 hf1 hs1 BX hX hGX hSX u1 u2 u3 u4 hH HRV
  have HT3 := hide (HTX.out.set2 ((x.a.length : Int) + 1))
  go_wp2
  rw [← HX.out]
  go_ret
  exact lastE HT3.out rfl rfl (by show (x.a.length : Int) + 1 = ((x.a ++ [(s.n.toNat, s.m)]).length : Int); rw [List.length_append]; rfl)

set_option maxRecDepth 100000 in
set_option maxHeartbeats 3200000 in
theorem lasts_6false (base : Nat) (W0 w : World) (e : Nat → Addr) (p h : Nat) (F H : List Nat) (x : St) (j : Nat) (t : Jt base W0 w e p h F H x (x.b.take x.s) x.b (x.a.length : Int) j) (hs : base ≤ w.heap.size) (hj : (j + 1) * 16 ≤ 140737488355328) (hj2 : (j + 1 + 1) * 16 ≤ 140737488355328) (s : Sp) (ht : s.t.size ≤ reachBytes) (h1 : s.n ≤ 9223372036854775807) (h2 : -9223372036854775808 ≤ s.m) (h3 : s.m ≤ 9223372036854775807) (hk : s.k = 6) (z : St) (hzs : z.s = z.b.length) (hg1 : (x.b.take x.s).length ≤ z.b.length) (hg2 : x.b.take x.s = z.b.take (x.b.take x.s).length) (hx1 : z.b.length ≤ (x.b ++ (⟨#[]⟩ : ByteArray).data.toList).length) (hx2 : z.b = (x.b ++ (⟨#[]⟩ : ByteArray).data.toList).take z.b.length) (hxl : x.b.length + (⟨#[]⟩ : ByteArray).size ≤ 140738562097152) (hza : z.a.length = x.a.length) (hst : x.step s = (z, ⟨[], 0, 0⟩)) :
    Calls Tryd.prog 25 #[ptr h, ptr p, spv s, .bool false, .bool false] w fun r' w' => LastE base W0 e p h (x.step s).1 j r' w' := by
  obtain ⟨V, hV⟩ : ∃ V, V = w.alloc (stc s) := ⟨_, rfl⟩
  have BV : Below w.heap.size w V := by rw [hV]; exact (Below.refl _ _).alloc (Nat.le_refl _) _
  have hXV : V.heap[w.heap.size]? = some (stc s) := by rw [hV]; exact heap_alloc_new _ _
  have hzV : V.heap.size = w.heap.size + 1 := by rw [hV]; simp
  have HTV := hide (t.keep BV hs)
  have HV := hide hV
  have HXV := hide hXV
  have HNF : Hid (w.heap.size ∉ F) := fun hm => by have := t.run.disk.lt _ hm; omega
  have hbm := t.run.fine.ok.most
  have hsm := t.run.fine.ok.syn
  have HACT := hide ((HTV.out.run).act s ht hj h1 h2 h3)
  rw [hst] at HACT ⊢
  dsimp only at HACT ⊢
  have e1 : (s.k == 1) = false := by rw [hk]; rfl
  have e2 : (s.k == 2) = false := by rw [hk]; rfl
  have e3 : (s.k == 3) = false := by rw [hk]; rfl
  have e5 : (s.k == 5) = false := by rw [hk]; rfl
  have e6 : (s.k == 6) = true := by rw [hk]; rfl
  have e9 : (s.k == 9) = false := by rw [hk]; rfl
  have HZS := hide hzs
  have HFA := hide (And.intro (And.intro hg1 hg2) (And.intro hx1 hx2))
  clear hzs hg1 hg2 hx1 hx2
  have HZA := hide hza
  clear hk hza
  clear t hV BV hXV hst
  go_enter Tryd.func25, Tryd.ntmps25
  go_wp2_with fail
  rw [← HV.out]
  refine HACT.out.mono ?_
  rintro r' w1 ⟨v1, F1, rfl, hA1, hR1, hf1, hs1⟩
  have hT1 := HTV.out.disk (by omega) hR1 hf1 hs1
  have hS1 := (hf1.block _ (by omega) HNF.out).trans HXV.out
  have hz1 : V.heap.size ≤ w1.heap.size := hf1.size
  obtain ⟨ov, cv, hvv⟩ := hA1.form
  subst hvv
  have HRV := hide hA1.rd
  obtain ⟨X, hX⟩ : ∃ X, X = w1.alloc (.cells #[.slice ov 0 cv, .int .i64 0, .int .i64 0] 31) := ⟨_, rfl⟩
  have BX : Below w1.heap.size w1 X := by rw [hX]; exact (Below.refl _ _).alloc (Nat.le_refl _) _
  have hGX : X.heap[w1.heap.size]? = some (.cells #[.slice ov 0 cv, .int .i64 0, .int .i64 0] 31) := by rw [hX]; exact heap_alloc_new _ _
  have hbs : base ≤ w1.heap.size := by omega
  have HTX := hide (hT1.keep BX hbs)
  have HRX := hide (HRV.out.below BX)
  have hSX := (BX.block _ (by omega)).trans hS1
  have hbX : base ≤ X.heap.size := by have := BX.size; omega
  have hzX : w1.heap.size < X.heap.size := (Array.getElem?_eq_some_iff.1 hGX).1
  have c0 : X.cell? ⟨w.heap.size, 0, none⟩ = some (.int .i64 s.k) := cell_of hSX 0
  have c1 : X.cell? ⟨w.heap.size, 0 + 1, none⟩ = some (.int .i64 s.o) := cell_of hSX 1
  have c2 : X.cell? ⟨w.heap.size, 0 + 2, none⟩ = some (.int .i64 s.n) := cell_of hSX 2
  have c3 : X.cell? ⟨w.heap.size, 0 + 3, none⟩ = some (.int .i64 s.m) := cell_of hSX 3
  have c4 : X.cell? ⟨w.heap.size, 4, none⟩ = some (.string s.t) := cell_of hSX 4
  have c4' : X.cell? ⟨w.heap.size, 0 + 4, none⟩ = some (.string s.t) := cell_of hSX 4
  have d0 : X.cell? ⟨w1.heap.size, 0, none⟩ = some (.slice ov 0 cv) := cell_of hGX 0
  have d1 : X.cell? ⟨w1.heap.size, 1, none⟩ = some (.int .i64 0) := cell_of hGX 1
  have d2 : X.cell? ⟨w1.heap.size, 2, none⟩ = some (.int .i64 0) := cell_of hGX 2
  have HX := hide hX
  have HSX := hide hSX
  have HGX := hide hGX
  obtain ⟨uG, uA, u1, u2, u3, u4, hH⟩ := HTX.out.held.ex
  obtain ⟨oG, cG, hvG, hcG⟩ := own_form u2
  subst hvG
  obtain ⟨oA, cA, hvA, hcA⟩ := own_form u3
  subst hvA
  have hhX := (Array.getElem?_eq_some_iff.1 u1).1
  have HU1 := hide u1
  have HU3 := hide u3
  have g0 : X.cell? ⟨h, 0, none⟩ = some (.slice oG (x.b.take x.s).length cG) := cell_of u1 0
  have g1 : X.cell? ⟨h, 1, none⟩ = some (.slice oA x.b.length cA) := cell_of u1 1
  have g2 : X.cell? ⟨h, 2, none⟩ = some (.int .i64 (x.a.length : Int)) := cell_of u1 2
  have f1 : X.frozen? ⟨h, 1, none⟩ = false := free_of u1 1
  have f0 : X.frozen? ⟨h, 0, none⟩ = false := free_of u1 0
  have f2 : X.frozen? ⟨h, 2, none⟩ = false := free_of u1 2
  have HRA := hide (rd_own u3)
  have har : x.a.length ≤ 8796093022207 := by have := HTV.out.run.arms; omega
  rw [hX] at c0 c1 c2 c3 c4 c4' d0 d1 d2 g0 g1 g2 f0 f1 f2
  clear hT1 hS1 hA1 hR1 hf1 hs1 BX hX hGX hSX u1 u2 u3 u4 hH HRV
  go_wp2_with fail
  rw [← HX.out]
  refine (fell_any base W0 _ e p h _ _ z _ _ _ (j + 1) HTX.out (by first | exact hbX | (rw [size_set]; exact hbX)) hj2 (⟨#[]⟩ : ByteArray) hbm hxl HFA.out.1.1 HFA.out.1.2 HFA.out.2.1 HFA.out.2.2).mono ?_
  rintro r' w9 ⟨rfl, F9, H9, hT9⟩
  have HT9 := hide hT9
  clear hT9
  go_wp2
  go_ret
  exact lastE HT9.out (by rw [HZS.out, List.take_length]) rfl (by rw [HZA.out])

set_option maxRecDepth 100000 in
set_option maxHeartbeats 3200000 in
theorem lasts_dies1 (base : Nat) (W0 w : World) (e : Nat → Addr) (p h : Nat) (F H : List Nat) (x : St) (j : Nat) (t : Jt base W0 w e p h F H x (x.b.take x.s) x.b (x.a.length : Int) j) (hs : base ≤ w.heap.size) (hj : (j + 1) * 16 ≤ 140737488355328) (hj2 : (j + 1 + 1) * 16 ≤ 140737488355328) (s : Sp) (ht : s.t.size ≤ reachBytes) (h1 : s.n ≤ 9223372036854775807) (h2 : -9223372036854775808 ≤ s.m) (h3 : s.m ≤ 9223372036854775807) (hk : s.k = 1) (full : Bool) (z : St) (hzs : z.s = z.b.length) (hg1 : (x.b.take x.s).length ≤ z.b.length) (hg2 : x.b.take x.s = z.b.take (x.b.take x.s).length) (hx1 : z.b.length ≤ (x.b ++ s.t.data.toList).length) (hx2 : z.b = (x.b ++ s.t.data.toList).take z.b.length) (hxl : x.b.length + s.t.size ≤ 140738562097152) (hza : z.a.length + 1 = x.a.length) (hst : x.step s = (z, ⟨[], 0, 10⟩)) :
    Calls Tryd.prog 25 #[ptr h, ptr p, spv s, .bool false, .bool full] w fun r' w' => LastE base W0 e p h (x.step s).1 j r' w' := by
  obtain ⟨V, hV⟩ : ∃ V, V = w.alloc (stc s) := ⟨_, rfl⟩
  have BV : Below w.heap.size w V := by rw [hV]; exact (Below.refl _ _).alloc (Nat.le_refl _) _
  have hXV : V.heap[w.heap.size]? = some (stc s) := by rw [hV]; exact heap_alloc_new _ _
  have hzV : V.heap.size = w.heap.size + 1 := by rw [hV]; simp
  have HTV := hide (t.keep BV hs)
  have HV := hide hV
  have HXV := hide hXV
  have HNF : Hid (w.heap.size ∉ F) := fun hm => by have := t.run.disk.lt _ hm; omega
  have hbm := t.run.fine.ok.most
  have hsm := t.run.fine.ok.syn
  have HACT := hide ((HTV.out.run).act s ht hj h1 h2 h3)
  rw [hst] at HACT ⊢
  dsimp only at HACT ⊢
  have e1 : (s.k == 1) = true := by rw [hk]; rfl
  have e2 : (s.k == 2) = false := by rw [hk]; rfl
  have e3 : (s.k == 3) = false := by rw [hk]; rfl
  have e5 : (s.k == 5) = false := by rw [hk]; rfl
  have e6 : (s.k == 6) = false := by rw [hk]; rfl
  have e9 : (s.k == 9) = false := by rw [hk]; rfl
  have HZS := hide hzs
  have HFA := hide (And.intro (And.intro hg1 hg2) (And.intro hx1 hx2))
  clear hzs hg1 hg2 hx1 hx2
  have HZA := hide hza
  have hpos : (0 : Int) ≤ (x.a.length : Int) - 1 := by omega
  have hposd : decide ((0 : Int) ≤ (x.a.length : Int) - 1) = true := decide_eq_true hpos
  clear hk hza
  clear t hV BV hXV hst
  go_enter Tryd.func25, Tryd.ntmps25
  go_wp2_with fail
  rw [← HV.out]
  refine HACT.out.mono ?_
  rintro r' w1 ⟨v1, F1, rfl, hA1, hR1, hf1, hs1⟩
  have hT1 := HTV.out.disk (by omega) hR1 hf1 hs1
  have hS1 := (hf1.block _ (by omega) HNF.out).trans HXV.out
  have hz1 : V.heap.size ≤ w1.heap.size := hf1.size
  obtain ⟨ov, cv, hvv⟩ := hA1.form
  subst hvv
  have HRV := hide hA1.rd
  obtain ⟨X, hX⟩ : ∃ X, X = w1.alloc (.cells #[.slice ov 0 cv, .int .i64 0, .int .i64 10] 31) := ⟨_, rfl⟩
  have BX : Below w1.heap.size w1 X := by rw [hX]; exact (Below.refl _ _).alloc (Nat.le_refl _) _
  have hGX : X.heap[w1.heap.size]? = some (.cells #[.slice ov 0 cv, .int .i64 0, .int .i64 10] 31) := by rw [hX]; exact heap_alloc_new _ _
  have hbs : base ≤ w1.heap.size := by omega
  have HTX := hide (hT1.keep BX hbs)
  have HRX := hide (HRV.out.below BX)
  have hSX := (BX.block _ (by omega)).trans hS1
  have hbX : base ≤ X.heap.size := by have := BX.size; omega
  have hzX : w1.heap.size < X.heap.size := (Array.getElem?_eq_some_iff.1 hGX).1
  have c0 : X.cell? ⟨w.heap.size, 0, none⟩ = some (.int .i64 s.k) := cell_of hSX 0
  have c1 : X.cell? ⟨w.heap.size, 0 + 1, none⟩ = some (.int .i64 s.o) := cell_of hSX 1
  have c2 : X.cell? ⟨w.heap.size, 0 + 2, none⟩ = some (.int .i64 s.n) := cell_of hSX 2
  have c3 : X.cell? ⟨w.heap.size, 0 + 3, none⟩ = some (.int .i64 s.m) := cell_of hSX 3
  have c4 : X.cell? ⟨w.heap.size, 4, none⟩ = some (.string s.t) := cell_of hSX 4
  have c4' : X.cell? ⟨w.heap.size, 0 + 4, none⟩ = some (.string s.t) := cell_of hSX 4
  have d0 : X.cell? ⟨w1.heap.size, 0, none⟩ = some (.slice ov 0 cv) := cell_of hGX 0
  have d1 : X.cell? ⟨w1.heap.size, 1, none⟩ = some (.int .i64 0) := cell_of hGX 1
  have d2 : X.cell? ⟨w1.heap.size, 2, none⟩ = some (.int .i64 10) := cell_of hGX 2
  have HX := hide hX
  have HSX := hide hSX
  have HGX := hide hGX
  obtain ⟨uG, uA, u1, u2, u3, u4, hH⟩ := HTX.out.held.ex
  obtain ⟨oG, cG, hvG, hcG⟩ := own_form u2
  subst hvG
  obtain ⟨oA, cA, hvA, hcA⟩ := own_form u3
  subst hvA
  have hhX := (Array.getElem?_eq_some_iff.1 u1).1
  have HU1 := hide u1
  have HU3 := hide u3
  have g0 : X.cell? ⟨h, 0, none⟩ = some (.slice oG (x.b.take x.s).length cG) := cell_of u1 0
  have g1 : X.cell? ⟨h, 1, none⟩ = some (.slice oA x.b.length cA) := cell_of u1 1
  have g2 : X.cell? ⟨h, 2, none⟩ = some (.int .i64 (x.a.length : Int)) := cell_of u1 2
  have f1 : X.frozen? ⟨h, 1, none⟩ = false := free_of u1 1
  have f0 : X.frozen? ⟨h, 0, none⟩ = false := free_of u1 0
  have f2 : X.frozen? ⟨h, 2, none⟩ = false := free_of u1 2
  have HRA := hide (rd_own u3)
  have har : x.a.length ≤ 8796093022207 := by have := HTV.out.run.arms; omega
  rw [hX] at c0 c1 c2 c3 c4 c4' d0 d1 d2 g0 g1 g2 f0 f1 f2
  clear hT1 hS1 hA1 hR1 hf1 hs1 BX hX hGX hSX u1 u2 u3 u4 hH HRV
  have HT3 := hide (HTX.out.set2 ((x.a.length : Int) - 1))
  have t2q : (X.setCell ⟨h, 2, none⟩ (.int .i64 ((x.a.length : Int) - 1))).cell? ⟨h, 2, none⟩ = some (.int .i64 ((x.a.length : Int) - 1)) := cell_of (set_of HU1.out 2 _) 2
  rw [HX.out] at t2q
  go_wp2_with fail
  rw [← HX.out]
  refine (fell_any base W0 _ e p h _ _ z _ _ _ (j + 1) HT3.out (by first | exact hbX | (rw [size_set]; exact hbX)) hj2 s.t hbm hxl HFA.out.1.1 HFA.out.1.2 HFA.out.2.1 HFA.out.2.2).mono ?_
  rintro r' w9 ⟨rfl, F9, H9, hT9⟩
  have HT9 := hide hT9
  clear hT9
  go_wp2
  go_ret
  exact lastE HT9.out (by rw [HZS.out, List.take_length]) rfl (by have := HZA.out; omega)

set_option maxRecDepth 100000 in
set_option maxHeartbeats 3200000 in
theorem lasts_dies2 (base : Nat) (W0 w : World) (e : Nat → Addr) (p h : Nat) (F H : List Nat) (x : St) (j : Nat) (t : Jt base W0 w e p h F H x (x.b.take x.s) x.b (x.a.length : Int) j) (hs : base ≤ w.heap.size) (hj : (j + 1) * 16 ≤ 140737488355328) (hj2 : (j + 1 + 1) * 16 ≤ 140737488355328) (s : Sp) (ht : s.t.size ≤ reachBytes) (h1 : s.n ≤ 9223372036854775807) (h2 : -9223372036854775808 ≤ s.m) (h3 : s.m ≤ 9223372036854775807) (hk : s.k = 2) (full : Bool) (z : St) (hzs : z.s = z.b.length) (hg1 : (x.b.take x.s).length ≤ z.b.length) (hg2 : x.b.take x.s = z.b.take (x.b.take x.s).length) (hx1 : z.b.length ≤ (x.b ++ (⟨#[]⟩ : ByteArray).data.toList).length) (hx2 : z.b = (x.b ++ (⟨#[]⟩ : ByteArray).data.toList).take z.b.length) (hxl : x.b.length + (⟨#[]⟩ : ByteArray).size ≤ 140738562097152) (hza : z.a.length + 1 = x.a.length) (hst : x.step s = (z, ⟨[], 0, 10⟩)) :
    Calls Tryd.prog 25 #[ptr h, ptr p, spv s, .bool false, .bool full] w fun r' w' => LastE base W0 e p h (x.step s).1 j r' w' := by
  obtain ⟨V, hV⟩ : ∃ V, V = w.alloc (stc s) := ⟨_, rfl⟩
  have BV : Below w.heap.size w V := by rw [hV]; exact (Below.refl _ _).alloc (Nat.le_refl _) _
  have hXV : V.heap[w.heap.size]? = some (stc s) := by rw [hV]; exact heap_alloc_new _ _
  have hzV : V.heap.size = w.heap.size + 1 := by rw [hV]; simp
  have HTV := hide (t.keep BV hs)
  have HV := hide hV
  have HXV := hide hXV
  have HNF : Hid (w.heap.size ∉ F) := fun hm => by have := t.run.disk.lt _ hm; omega
  have hbm := t.run.fine.ok.most
  have hsm := t.run.fine.ok.syn
  have HACT := hide ((HTV.out.run).act s ht hj h1 h2 h3)
  rw [hst] at HACT ⊢
  dsimp only at HACT ⊢
  have e1 : (s.k == 1) = false := by rw [hk]; rfl
  have e2 : (s.k == 2) = true := by rw [hk]; rfl
  have e3 : (s.k == 3) = false := by rw [hk]; rfl
  have e5 : (s.k == 5) = false := by rw [hk]; rfl
  have e6 : (s.k == 6) = false := by rw [hk]; rfl
  have e9 : (s.k == 9) = false := by rw [hk]; rfl
  have HZS := hide hzs
  have HFA := hide (And.intro (And.intro hg1 hg2) (And.intro hx1 hx2))
  clear hzs hg1 hg2 hx1 hx2
  have HZA := hide hza
  have hpos : (0 : Int) ≤ (x.a.length : Int) - 1 := by omega
  have hposd : decide ((0 : Int) ≤ (x.a.length : Int) - 1) = true := decide_eq_true hpos
  clear hk hza
  clear t hV BV hXV hst
  go_enter Tryd.func25, Tryd.ntmps25
  go_wp2_with fail
  rw [← HV.out]
  refine HACT.out.mono ?_
  rintro r' w1 ⟨v1, F1, rfl, hA1, hR1, hf1, hs1⟩
  have hT1 := HTV.out.disk (by omega) hR1 hf1 hs1
  have hS1 := (hf1.block _ (by omega) HNF.out).trans HXV.out
  have hz1 : V.heap.size ≤ w1.heap.size := hf1.size
  obtain ⟨ov, cv, hvv⟩ := hA1.form
  subst hvv
  have HRV := hide hA1.rd
  obtain ⟨X, hX⟩ : ∃ X, X = w1.alloc (.cells #[.slice ov 0 cv, .int .i64 0, .int .i64 10] 31) := ⟨_, rfl⟩
  have BX : Below w1.heap.size w1 X := by rw [hX]; exact (Below.refl _ _).alloc (Nat.le_refl _) _
  have hGX : X.heap[w1.heap.size]? = some (.cells #[.slice ov 0 cv, .int .i64 0, .int .i64 10] 31) := by rw [hX]; exact heap_alloc_new _ _
  have hbs : base ≤ w1.heap.size := by omega
  have HTX := hide (hT1.keep BX hbs)
  have HRX := hide (HRV.out.below BX)
  have hSX := (BX.block _ (by omega)).trans hS1
  have hbX : base ≤ X.heap.size := by have := BX.size; omega
  have hzX : w1.heap.size < X.heap.size := (Array.getElem?_eq_some_iff.1 hGX).1
  have c0 : X.cell? ⟨w.heap.size, 0, none⟩ = some (.int .i64 s.k) := cell_of hSX 0
  have c1 : X.cell? ⟨w.heap.size, 0 + 1, none⟩ = some (.int .i64 s.o) := cell_of hSX 1
  have c2 : X.cell? ⟨w.heap.size, 0 + 2, none⟩ = some (.int .i64 s.n) := cell_of hSX 2
  have c3 : X.cell? ⟨w.heap.size, 0 + 3, none⟩ = some (.int .i64 s.m) := cell_of hSX 3
  have c4 : X.cell? ⟨w.heap.size, 4, none⟩ = some (.string s.t) := cell_of hSX 4
  have c4' : X.cell? ⟨w.heap.size, 0 + 4, none⟩ = some (.string s.t) := cell_of hSX 4
  have d0 : X.cell? ⟨w1.heap.size, 0, none⟩ = some (.slice ov 0 cv) := cell_of hGX 0
  have d1 : X.cell? ⟨w1.heap.size, 1, none⟩ = some (.int .i64 0) := cell_of hGX 1
  have d2 : X.cell? ⟨w1.heap.size, 2, none⟩ = some (.int .i64 10) := cell_of hGX 2
  have HX := hide hX
  have HSX := hide hSX
  have HGX := hide hGX
  obtain ⟨uG, uA, u1, u2, u3, u4, hH⟩ := HTX.out.held.ex
  obtain ⟨oG, cG, hvG, hcG⟩ := own_form u2
  subst hvG
  obtain ⟨oA, cA, hvA, hcA⟩ := own_form u3
  subst hvA
  have hhX := (Array.getElem?_eq_some_iff.1 u1).1
  have HU1 := hide u1
  have HU3 := hide u3
  have g0 : X.cell? ⟨h, 0, none⟩ = some (.slice oG (x.b.take x.s).length cG) := cell_of u1 0
  have g1 : X.cell? ⟨h, 1, none⟩ = some (.slice oA x.b.length cA) := cell_of u1 1
  have g2 : X.cell? ⟨h, 2, none⟩ = some (.int .i64 (x.a.length : Int)) := cell_of u1 2
  have f1 : X.frozen? ⟨h, 1, none⟩ = false := free_of u1 1
  have f0 : X.frozen? ⟨h, 0, none⟩ = false := free_of u1 0
  have f2 : X.frozen? ⟨h, 2, none⟩ = false := free_of u1 2
  have HRA := hide (rd_own u3)
  have har : x.a.length ≤ 8796093022207 := by have := HTV.out.run.arms; omega
  rw [hX] at c0 c1 c2 c3 c4 c4' d0 d1 d2 g0 g1 g2 f0 f1 f2
  clear hT1 hS1 hA1 hR1 hf1 hs1 BX hX hGX hSX u1 u2 u3 u4 hH HRV
  have HT3 := hide (HTX.out.set2 ((x.a.length : Int) - 1))
  have t2q : (X.setCell ⟨h, 2, none⟩ (.int .i64 ((x.a.length : Int) - 1))).cell? ⟨h, 2, none⟩ = some (.int .i64 ((x.a.length : Int) - 1)) := cell_of (set_of HU1.out 2 _) 2
  rw [HX.out] at t2q
  go_wp2_with fail
  rw [← HX.out]
  refine (fell_any base W0 _ e p h _ _ z _ _ _ (j + 1) HT3.out (by first | exact hbX | (rw [size_set]; exact hbX)) hj2 (⟨#[]⟩ : ByteArray) hbm hxl HFA.out.1.1 HFA.out.1.2 HFA.out.2.1 HFA.out.2.2).mono ?_
  rintro r' w9 ⟨rfl, F9, H9, hT9⟩
  have HT9 := hide hT9
  clear hT9
  go_wp2
  go_ret
  exact lastE HT9.out (by rw [HZS.out, List.take_length]) rfl (by have := HZA.out; omega)

set_option maxRecDepth 100000 in
set_option maxHeartbeats 3200000 in
theorem lasts_dies3 (base : Nat) (W0 w : World) (e : Nat → Addr) (p h : Nat) (F H : List Nat) (x : St) (j : Nat) (t : Jt base W0 w e p h F H x (x.b.take x.s) x.b (x.a.length : Int) j) (hs : base ≤ w.heap.size) (hj : (j + 1) * 16 ≤ 140737488355328) (hj2 : (j + 1 + 1) * 16 ≤ 140737488355328) (s : Sp) (ht : s.t.size ≤ reachBytes) (h1 : s.n ≤ 9223372036854775807) (h2 : -9223372036854775808 ≤ s.m) (h3 : s.m ≤ 9223372036854775807) (hk : s.k = 3) (full : Bool) (z : St) (hzs : z.s = z.b.length) (hg1 : (x.b.take x.s).length ≤ z.b.length) (hg2 : x.b.take x.s = z.b.take (x.b.take x.s).length) (hx1 : z.b.length ≤ (x.b ++ (⟨#[]⟩ : ByteArray).data.toList).length) (hx2 : z.b = (x.b ++ (⟨#[]⟩ : ByteArray).data.toList).take z.b.length) (hxl : x.b.length + (⟨#[]⟩ : ByteArray).size ≤ 140738562097152) (hza : z.a.length + 1 = x.a.length) (hst : x.step s = (z, ⟨[], 0, 10⟩)) :
    Calls Tryd.prog 25 #[ptr h, ptr p, spv s, .bool false, .bool full] w fun r' w' => LastE base W0 e p h (x.step s).1 j r' w' := by
  obtain ⟨V, hV⟩ : ∃ V, V = w.alloc (stc s) := ⟨_, rfl⟩
  have BV : Below w.heap.size w V := by rw [hV]; exact (Below.refl _ _).alloc (Nat.le_refl _) _
  have hXV : V.heap[w.heap.size]? = some (stc s) := by rw [hV]; exact heap_alloc_new _ _
  have hzV : V.heap.size = w.heap.size + 1 := by rw [hV]; simp
  have HTV := hide (t.keep BV hs)
  have HV := hide hV
  have HXV := hide hXV
  have HNF : Hid (w.heap.size ∉ F) := fun hm => by have := t.run.disk.lt _ hm; omega
  have hbm := t.run.fine.ok.most
  have hsm := t.run.fine.ok.syn
  have HACT := hide ((HTV.out.run).act s ht hj h1 h2 h3)
  rw [hst] at HACT ⊢
  dsimp only at HACT ⊢
  have e1 : (s.k == 1) = false := by rw [hk]; rfl
  have e2 : (s.k == 2) = false := by rw [hk]; rfl
  have e3 : (s.k == 3) = true := by rw [hk]; rfl
  have e5 : (s.k == 5) = false := by rw [hk]; rfl
  have e6 : (s.k == 6) = false := by rw [hk]; rfl
  have e9 : (s.k == 9) = false := by rw [hk]; rfl
  have HZS := hide hzs
  have HFA := hide (And.intro (And.intro hg1 hg2) (And.intro hx1 hx2))
  clear hzs hg1 hg2 hx1 hx2
  have HZA := hide hza
  have hpos : (0 : Int) ≤ (x.a.length : Int) - 1 := by omega
  have hposd : decide ((0 : Int) ≤ (x.a.length : Int) - 1) = true := decide_eq_true hpos
  clear hk hza
  clear t hV BV hXV hst
  go_enter Tryd.func25, Tryd.ntmps25
  go_wp2_with fail
  rw [← HV.out]
  refine HACT.out.mono ?_
  rintro r' w1 ⟨v1, F1, rfl, hA1, hR1, hf1, hs1⟩
  have hT1 := HTV.out.disk (by omega) hR1 hf1 hs1
  have hS1 := (hf1.block _ (by omega) HNF.out).trans HXV.out
  have hz1 : V.heap.size ≤ w1.heap.size := hf1.size
  obtain ⟨ov, cv, hvv⟩ := hA1.form
  subst hvv
  have HRV := hide hA1.rd
  obtain ⟨X, hX⟩ : ∃ X, X = w1.alloc (.cells #[.slice ov 0 cv, .int .i64 0, .int .i64 10] 31) := ⟨_, rfl⟩
  have BX : Below w1.heap.size w1 X := by rw [hX]; exact (Below.refl _ _).alloc (Nat.le_refl _) _
  have hGX : X.heap[w1.heap.size]? = some (.cells #[.slice ov 0 cv, .int .i64 0, .int .i64 10] 31) := by rw [hX]; exact heap_alloc_new _ _
  have hbs : base ≤ w1.heap.size := by omega
  have HTX := hide (hT1.keep BX hbs)
  have HRX := hide (HRV.out.below BX)
  have hSX := (BX.block _ (by omega)).trans hS1
  have hbX : base ≤ X.heap.size := by have := BX.size; omega
  have hzX : w1.heap.size < X.heap.size := (Array.getElem?_eq_some_iff.1 hGX).1
  have c0 : X.cell? ⟨w.heap.size, 0, none⟩ = some (.int .i64 s.k) := cell_of hSX 0
  have c1 : X.cell? ⟨w.heap.size, 0 + 1, none⟩ = some (.int .i64 s.o) := cell_of hSX 1
  have c2 : X.cell? ⟨w.heap.size, 0 + 2, none⟩ = some (.int .i64 s.n) := cell_of hSX 2
  have c3 : X.cell? ⟨w.heap.size, 0 + 3, none⟩ = some (.int .i64 s.m) := cell_of hSX 3
  have c4 : X.cell? ⟨w.heap.size, 4, none⟩ = some (.string s.t) := cell_of hSX 4
  have c4' : X.cell? ⟨w.heap.size, 0 + 4, none⟩ = some (.string s.t) := cell_of hSX 4
  have d0 : X.cell? ⟨w1.heap.size, 0, none⟩ = some (.slice ov 0 cv) := cell_of hGX 0
  have d1 : X.cell? ⟨w1.heap.size, 1, none⟩ = some (.int .i64 0) := cell_of hGX 1
  have d2 : X.cell? ⟨w1.heap.size, 2, none⟩ = some (.int .i64 10) := cell_of hGX 2
  have HX := hide hX
  have HSX := hide hSX
  have HGX := hide hGX
  obtain ⟨uG, uA, u1, u2, u3, u4, hH⟩ := HTX.out.held.ex
  obtain ⟨oG, cG, hvG, hcG⟩ := own_form u2
  subst hvG
  obtain ⟨oA, cA, hvA, hcA⟩ := own_form u3
  subst hvA
  have hhX := (Array.getElem?_eq_some_iff.1 u1).1
  have HU1 := hide u1
  have HU3 := hide u3
  have g0 : X.cell? ⟨h, 0, none⟩ = some (.slice oG (x.b.take x.s).length cG) := cell_of u1 0
  have g1 : X.cell? ⟨h, 1, none⟩ = some (.slice oA x.b.length cA) := cell_of u1 1
  have g2 : X.cell? ⟨h, 2, none⟩ = some (.int .i64 (x.a.length : Int)) := cell_of u1 2
  have f1 : X.frozen? ⟨h, 1, none⟩ = false := free_of u1 1
  have f0 : X.frozen? ⟨h, 0, none⟩ = false := free_of u1 0
  have f2 : X.frozen? ⟨h, 2, none⟩ = false := free_of u1 2
  have HRA := hide (rd_own u3)
  have har : x.a.length ≤ 8796093022207 := by have := HTV.out.run.arms; omega
  rw [hX] at c0 c1 c2 c3 c4 c4' d0 d1 d2 g0 g1 g2 f0 f1 f2
  clear hT1 hS1 hA1 hR1 hf1 hs1 BX hX hGX hSX u1 u2 u3 u4 hH HRV
  have HT3 := hide (HTX.out.set2 ((x.a.length : Int) - 1))
  have t2q : (X.setCell ⟨h, 2, none⟩ (.int .i64 ((x.a.length : Int) - 1))).cell? ⟨h, 2, none⟩ = some (.int .i64 ((x.a.length : Int) - 1)) := cell_of (set_of HU1.out 2 _) 2
  rw [HX.out] at t2q
  go_wp2_with fail
  rw [← HX.out]
  refine (fell_any base W0 _ e p h _ _ z _ _ _ (j + 1) HT3.out (by first | exact hbX | (rw [size_set]; exact hbX)) hj2 (⟨#[]⟩ : ByteArray) hbm hxl HFA.out.1.1 HFA.out.1.2 HFA.out.2.1 HFA.out.2.2).mono ?_
  rintro r' w9 ⟨rfl, F9, H9, hT9⟩
  have HT9 := hide hT9
  clear hT9
  go_wp2
  go_ret
  exact lastE HT9.out (by rw [HZS.out, List.take_length]) rfl (by have := HZA.out; omega)
end Go.Proofs.YtkibaedocieceaaDoor.dk
