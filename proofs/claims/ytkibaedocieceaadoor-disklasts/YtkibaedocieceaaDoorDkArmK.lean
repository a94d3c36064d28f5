import Derived.Test.YtkibaedocieceaaDoorDkArmM
namespace Go.Proofs.YtkibaedocieceaaDoor.dk
open Go.ChangeShapes Go.WideShapes Go.ChangeAt Go.RowKit Go.Proofs.YtkibaedocieceaaDoor.common

theorem fld0 (o : Option Addr) (l c : Nat) (n m : Int) (W : World) : (Instr.field 31 (.agg #[.slice o l c, .int .i64 n, .int .i64 m]) 0).run Tryd.prog W = .ok (.slice o l c) W := by kernel_rfl
theorem fld1 (o : Option Addr) (l c : Nat) (n m : Int) (W : World) : (Instr.field 31 (.agg #[.slice o l c, .int .i64 n, .int .i64 m]) 1).run Tryd.prog W = .ok (.int .i64 n) W := by kernel_rfl
theorem fld2 (o : Option Addr) (l c : Nat) (n m : Int) (W : World) : (Instr.field 31 (.agg #[.slice o l c, .int .i64 n, .int .i64 m]) 2).run Tryd.prog W = .ok (.int .i64 m) W := by kernel_rfl
set_option maxRecDepth 100000 in
set_option maxHeartbeats 800000 in
theorem operation_any (w : World) (s : Sp) : Calls Tryd.prog 38 #[spv s] w fun r' w' => r' = .returned (.bool (opB s)) ∧ Below w.heap.size w w' := by
  have HB := hide ((Below.refl w.heap.size w).alloc (Nat.le_refl _) (stc s))
  unfold opB
  by_cases h1 : 1 ≤ s.k
  · have e1 : decide (1 ≤ s.k) = true := decide_eq_true h1
    by_cases h4 : s.k ≤ 4
    · have e4 : decide (s.k ≤ 4) = true := decide_eq_true h4
      rw [e1, e4]
      go_enter Tryd.func38, Tryd.ntmps38
      go_wp2
      go_ret
      exact ⟨rfl, HB.out⟩
    · have e4 : decide (s.k ≤ 4) = false := decide_eq_false h4
      rw [e1, e4]
      go_enter Tryd.func38, Tryd.ntmps38
      go_wp2
      go_ret
      exact ⟨rfl, HB.out⟩
  · have e1 : decide (1 ≤ s.k) = false := decide_eq_false h1
    rw [e1]
    go_enter Tryd.func38, Tryd.ntmps38
    go_wp2
    go_ret
    exact ⟨rfl, HB.out⟩
set_option maxHeartbeats 800000 in
theorem roomy_any (w : World) (n : Int) : Calls Tryd.prog 24 #[.int .i64 n] w fun r' w' => r' = .returned (.int .i64 (roomOf n : Int)) ∧ w' = w := by
  have e : (roomOf n : Int) = if n < 0 then 0 else if 1073741824 < n then 1073741824 else n := by
    unfold roomOf
    split
    · rfl
    · split
      · rfl
      · omega
  rw [e]
  by_cases h0 : n < 0
  · rw [if_pos h0]
    go_enter Tryd.func24, Tryd.ntmps24
    go_wp2
    go_ret
    exact ⟨rfl, rfl⟩
  · rw [if_neg h0]
    by_cases h1 : 1073741824 < n
    · rw [if_pos h1]
      go_enter Tryd.func24, Tryd.ntmps24
      go_wp2
      go_ret
      exact ⟨rfl, rfl⟩
    · rw [if_neg h1]
      go_enter Tryd.func24, Tryd.ntmps24
      go_wp2
      go_ret
      exact ⟨rfl, rfl⟩
/-- a run behind something that leaves its state -/
def Stays (base : Nat) (w : World) (e : Nat → Addr) (p : Nat) (F : List Nat) (x : St) (j : Nat) (w' : World) : Prop := ∃ F', Run base w' e p F' x j ∧ Fr F w w' ∧ ∀ k ∈ F', k ∈ F ∨ w.heap.size ≤ k
theorem Stays.of {base : Nat} {w w' : World} {e : Nat → Addr} {p : Nat} {F : List Nat} {x : St} {j : Nat} (h : Run base w e p F x j) (hb : Below w.heap.size w w') : Stays base w e p F x j w' := ⟨F, h.keep hb, Fr.of hb, fun _ hk => Or.inl hk⟩
theorem Stays.begin {base : Nat} {w V w' : World} {e : Nat → Addr} {p : Nat} {F : List Nat} {x : St} {j : Nat} (hb : Below w.heap.size w V) (h : Stays base V e p F x j w') : Stays base w e p F x j w' := by
  obtain ⟨F', h1, h2, h3⟩ := h
  exact ⟨F', h1, (Fr.of hb).trans h2 (fun i hi => Or.inl hi), fun k hk => (h3 k hk).elim Or.inl (fun h => Or.inr (Nat.le_trans hb.size h))⟩

set_option maxRecDepth 100000 in
set_option maxHeartbeats 1600000 in
theorem counts_any (w : World) (base : Nat) (e : Nat → Addr) (p : Nat) (F : List Nat) (y : St) (j : Nat) (h : Run base w e p F y j) (hj : (j + 1) * 16 ≤ 140737488355328) (s : Sp) :
    Calls Tryd.prog 22 #[ptr p, spv s] w fun r' w' => r' = .returned (.bool (cnt y s)) ∧ Stays base w e p F y j w' := by
  obtain ⟨V, hV⟩ : ∃ V, V = w.alloc (stc s) := ⟨_, rfl⟩
  have BV : Below w.heap.size w V := by rw [hV]; exact (Below.refl _ _).alloc (Nat.le_refl _) _
  have hX : V.heap[w.heap.size]? = some (stc s) := by rw [hV]; exact heap_alloc_new _ _
  have HV := hide hV
  have HBV := hide BV
  have HX := hide hX
  have HR := hide (h.keep BV)
  have HLT : Hid (w.heap.size ∉ F) := fun hm => by have := h.disk.lt _ hm; omega
  have hgz : w.heap.size < V.heap.size := (Array.getElem?_eq_some_iff.1 hX).1
  have hbm := h.fine.ok.most
  clear h hV BV hX
  unfold cnt
  cases hd : y.d with
  | true =>
    have HDD := hide (dead_any V p F y HR.out.disk)
    rw [hd] at HDD
    go_enter Tryd.func22, Tryd.ntmps22
    go_wp2_with fail
    rw [← HV.out]
    refine HDD.out.mono ?_
    rintro r' w' ⟨rfl, h'⟩
    obtain rfl := h'.symm
    go_wp2
    go_ret
    exact ⟨rfl, Stays.begin HBV.out (Stays.of HR.out (Below.refl _ _))⟩
  | false =>
    have HDD := hide (dead_any V p F y HR.out.disk)
    rw [hd] at HDD
    have c0 : V.cell? ⟨w.heap.size, 0, none⟩ = some (.int .i64 s.k) := cell_of HX.out 0
    have c1 : V.cell? ⟨w.heap.size, 0 + 1, none⟩ = some (.int .i64 s.o) := cell_of HX.out 1
    have c2 : V.cell? ⟨w.heap.size, 0 + 2, none⟩ = some (.int .i64 s.n) := cell_of HX.out 2
    have c3 : V.cell? ⟨w.heap.size, 0 + 3, none⟩ = some (.int .i64 s.m) := cell_of HX.out 3
    have c4 : V.cell? ⟨w.heap.size, 0 + 4, none⟩ = some (.string s.t) := cell_of HX.out 4
    have HOP := hide (operation_any V s)
    cases hop : opB s with
    | false =>
      rw [hop] at HOP
      go_enter Tryd.func22, Tryd.ntmps22
      go_wp2_with fail
      rw [← HV.out]
      refine HDD.out.mono ?_
      rintro r' w' ⟨rfl, h'⟩
      obtain rfl := h'.symm
      go_wp2_with fail
      refine HOP.out.mono ?_
      rintro r' w2 ⟨rfl, b2⟩
      have HS := hide (Stays.begin HBV.out (Stays.of HR.out b2))
      clear b2
      go_wp2
      go_ret
      exact ⟨rfl, HS.out⟩
    | true =>
      rw [hop] at HOP
      have HFIN : Hid (∀ w2 w3 w4 F4, Below V.heap.size V w2 → Below w2.heap.size w2 w3 → Run base w4 e p F4 y j → Fr F w3 w4 → (∀ k ∈ F4, k ∈ F ∨ w3.heap.size ≤ k) → Stays base w e p F y j w4) := fun w2 w3 w4 F4 b2 b3 h4 f4 s4 => Stays.begin HBV.out (Stays.begin (keepD b2 b3) ⟨F4, h4, f4, s4⟩)
      have HCELL : Hid (∀ w2 w3 w4, Below V.heap.size V w2 → Below w2.heap.size w2 w3 → Fr F w3 w4 → w4.heap[w.heap.size]? = some (stc s)) := fun w2 w3 w4 b2 b3 f4 => by
        have b23 := keepD b2 b3
        rw [f4.block _ (Nat.lt_of_lt_of_le hgz b23.size) HLT.out, b23.block _ hgz]
        exact HX.out
      by_cases h4 : s.k = 4
      · have e4 : decide (s.k = 4) = true := decide_eq_true h4
        have d1 : ∀ b c : Bool, (!false && true && (!true || (b && c))) = (b && c) := by decide
        rw [e4, d1]
        have e5 : (s.k != 4) = false := by rw [h4]; rfl
        clear e4 h4 d1
        by_cases n0 : 0 ≤ s.n
        · have m0 : decide (0 ≤ s.n) = true := decide_eq_true n0
          by_cases n1 : s.n ≤ (y.b.length : Int)
          · have m1 : decide (s.n ≤ (y.b.length : Int)) = true := decide_eq_true n1
            rw [m0, m1]
            go_enter Tryd.func22, Tryd.ntmps22
            go_wp2_with fail
            rw [← HV.out]
            refine HDD.out.mono ?_
            rintro r' w' ⟨rfl, h'⟩
            obtain rfl := h'.symm
            go_wp2_with fail
            refine HOP.out.mono ?_
            rintro r' w2 ⟨rfl, b2⟩
            have HR2 := hide (HR.out.keep b2)
            have HB2 := hide b2
            clear b2
            go_wp2_with fail
            refine (lookS_any w2).mono ?_
            rintro r' w3 ⟨rfl, b3⟩
            have HR3 := hide (HR2.out.keep b3)
            have HB3 := hide b3
            clear b3
            go_wp2_with fail
            refine (HR3.out.look hj).mono ?_
            rintro r' w4 ⟨v4, F4, rfl, hA4, hR4, hf4, hs4⟩
            have HS := hide (HFIN.out w2 w3 w4 F4 HB2.out HB3.out hR4 hf4 hs4)
            have hc4 := HCELL.out w2 w3 w4 HB2.out HB3.out hf4
            have t0 : w4.cell? ⟨w.heap.size, 0, none⟩ = some (.int .i64 s.k) := cell_of hc4 0
            have t2 : w4.cell? ⟨w.heap.size, 2, none⟩ = some (.int .i64 s.n) := cell_of hc4 2
            obtain ⟨o4, c4', rfl⟩ := hA4.form
            clear hA4 hR4 hf4 hs4 hc4 c0 c1 c2 c3 c4
            have hfd := fun n m => fld0 o4 y.b.length c4' n m w4
            unfold sdv
            go_wp2
            go_ret
            exact ⟨rfl, HS.out⟩
          · have m1 : decide (s.n ≤ (y.b.length : Int)) = false := decide_eq_false n1
            rw [m0, m1]
            go_enter Tryd.func22, Tryd.ntmps22
            go_wp2_with fail
            rw [← HV.out]
            refine HDD.out.mono ?_
            rintro r' w' ⟨rfl, h'⟩
            obtain rfl := h'.symm
            go_wp2_with fail
            refine HOP.out.mono ?_
            rintro r' w2 ⟨rfl, b2⟩
            have HR2 := hide (HR.out.keep b2)
            have HB2 := hide b2
            clear b2
            go_wp2_with fail
            refine (lookS_any w2).mono ?_
            rintro r' w3 ⟨rfl, b3⟩
            have HR3 := hide (HR2.out.keep b3)
            have HB3 := hide b3
            clear b3
            go_wp2_with fail
            refine (HR3.out.look hj).mono ?_
            rintro r' w4 ⟨v4, F4, rfl, hA4, hR4, hf4, hs4⟩
            have HS := hide (HFIN.out w2 w3 w4 F4 HB2.out HB3.out hR4 hf4 hs4)
            have hc4 := HCELL.out w2 w3 w4 HB2.out HB3.out hf4
            have t0 : w4.cell? ⟨w.heap.size, 0, none⟩ = some (.int .i64 s.k) := cell_of hc4 0
            have t2 : w4.cell? ⟨w.heap.size, 2, none⟩ = some (.int .i64 s.n) := cell_of hc4 2
            obtain ⟨o4, c4', rfl⟩ := hA4.form
            clear hA4 hR4 hf4 hs4 hc4 c0 c1 c2 c3 c4
            have hfd := fun n m => fld0 o4 y.b.length c4' n m w4
            unfold sdv
            go_wp2
            go_ret
            exact ⟨rfl, HS.out⟩
        · have m0 : decide (0 ≤ s.n) = false := decide_eq_false n0
          rw [m0]
          go_enter Tryd.func22, Tryd.ntmps22
          go_wp2_with fail
          rw [← HV.out]
          refine HDD.out.mono ?_
          rintro r' w' ⟨rfl, h'⟩
          obtain rfl := h'.symm
          go_wp2_with fail
          refine HOP.out.mono ?_
          rintro r' w2 ⟨rfl, b2⟩
          have HR2 := hide (HR.out.keep b2)
          have HB2 := hide b2
          clear b2
          go_wp2_with fail
          refine (lookS_any w2).mono ?_
          rintro r' w3 ⟨rfl, b3⟩
          have HR3 := hide (HR2.out.keep b3)
          have HB3 := hide b3
          clear b3
          go_wp2_with fail
          refine (HR3.out.look hj).mono ?_
          rintro r' w4 ⟨v4, F4, rfl, hA4, hR4, hf4, hs4⟩
          have HS := hide (HFIN.out w2 w3 w4 F4 HB2.out HB3.out hR4 hf4 hs4)
          have hc4 := HCELL.out w2 w3 w4 HB2.out HB3.out hf4
          have t0 : w4.cell? ⟨w.heap.size, 0, none⟩ = some (.int .i64 s.k) := cell_of hc4 0
          have t2 : w4.cell? ⟨w.heap.size, 2, none⟩ = some (.int .i64 s.n) := cell_of hc4 2
          obtain ⟨o4, c4', rfl⟩ := hA4.form
          clear hA4 hR4 hf4 hs4 hc4 c0 c1 c2 c3 c4
          have hfd := fun n m => fld0 o4 y.b.length c4' n m w4
          unfold sdv
          go_wp2
          go_ret
          exact ⟨rfl, HS.out⟩
      · have e4 : decide (s.k = 4) = false := decide_eq_false h4
        have e5 : (s.k == 4) = false := beq_false_of_ne h4
        have d1 : ∀ b : Bool, (!false && true && (!false || b)) = true := by decide
        rw [e4, d1]
        clear e4 d1
        go_enter Tryd.func22, Tryd.ntmps22
        go_wp2_with fail
        rw [← HV.out]
        refine HDD.out.mono ?_
        rintro r' w' ⟨rfl, h'⟩
        obtain rfl := h'.symm
        go_wp2_with fail
        refine HOP.out.mono ?_
        rintro r' w2 ⟨rfl, b2⟩
        have HR2 := hide (HR.out.keep b2)
        have HB2 := hide b2
        clear b2
        go_wp2_with fail
        refine (lookS_any w2).mono ?_
        rintro r' w3 ⟨rfl, b3⟩
        have HR3 := hide (HR2.out.keep b3)
        have HB3 := hide b3
        clear b3
        go_wp2_with fail
        refine (HR3.out.look hj).mono ?_
        rintro r' w4 ⟨v4, F4, rfl, hA4, hR4, hf4, hs4⟩
        have HS := hide (HFIN.out w2 w3 w4 F4 HB2.out HB3.out hR4 hf4 hs4)
        have hc4 := HCELL.out w2 w3 w4 HB2.out HB3.out hf4
        have t0 : w4.cell? ⟨w.heap.size, 0, none⟩ = some (.int .i64 s.k) := cell_of hc4 0
        have t2 : w4.cell? ⟨w.heap.size, 2, none⟩ = some (.int .i64 s.n) := cell_of hc4 2
        obtain ⟨o4, c4', rfl⟩ := hA4.form
        clear hA4 hR4 hf4 hs4 hc4 c0 c1 c2 c3 c4
        have hfd := fun n m => fld0 o4 y.b.length c4' n m w4
        unfold sdv
        go_wp2
        go_ret
        exact ⟨rfl, HS.out⟩
end Go.Proofs.YtkibaedocieceaaDoor.dk
