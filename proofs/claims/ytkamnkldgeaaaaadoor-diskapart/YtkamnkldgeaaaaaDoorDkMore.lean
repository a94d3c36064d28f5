import Derived.Test.YtkamnkldgeaaaaaDoorDkApp
import Derived.Deep.RegionHeld3
namespace Go.Proofs.YtkamnkldgeaaaaaDoor.dk
open Go.ChangeShapes Go.WideShapes Go.ChangeAt Go.RowKit Go.Proofs.YtkamnkldgeaaaaaDoor.common

set_option maxHeartbeats 800000 in
theorem dead_any (w : World) (p : Nat) (F : List Nat) (x : St) (h : Dk w p F x) :
    Calls Tryd.prog 33 #[ptr p] w fun r' w' => r' = .returned (.bool x.d) ∧ w' = w := by
  obtain ⟨gb, ga, vb, va, rfl, h⟩ := h
  have c4 : w.cell? ⟨p, 4, none⟩ = some (.bool x.d) := cell_of h.cell 4
  clear h
  go_enter Tryd.func33, Tryd.ntmps33
  go_wp2
  go_ret
  exact ⟨rfl, rfl⟩
set_option maxHeartbeats 800000 in
theorem revive_any (w : World) (p : Nat) (F : List Nat) (x : St) (h : Dk w p F x) :
    Calls Tryd.prog 32 #[ptr p] w fun r' w' => r' = .returned (.tuple #[]) ∧ Mv w p F x.revive w' := by
  obtain ⟨gb, ga, vb, va, rfl, h⟩ := h
  have c4 : w.cell? ⟨p, 4, none⟩ = some (.bool x.d) := cell_of h.cell 4
  have f4 : w.frozen? ⟨p, 4, none⟩ = false := free_of h.cell 4
  have HD := hide (h.at4 false)
  have HF := hide ((Fr.refl (fp p gb ga) w).set ⟨p, 4, none⟩ (.bool false) (Or.inl (fp_p _ _ _)))
  clear h
  go_enter Tryd.func32, Tryd.ntmps32
  go_wp2
  go_end0
  exact ⟨rfl, fp p gb ga, HD.out.dk, HF.out, fun k hk => Or.inl hk⟩
set_option maxHeartbeats 800000 in
theorem crash_any (w : World) (p : Nat) (F : List Nat) (x : St) (k : Int) (h : Dk w p F x) (hx : Fine x) :
    Calls Tryd.prog 31 #[ptr p, .int .i64 k] w fun r' w' => r' = .returned (.tuple #[]) ∧ Mv w p F (x.crash k) w' := by
  have HM := hide h.mv
  obtain ⟨gb, ga, vb, va, rfl, h⟩ := h
  have c4 : w.cell? ⟨p, 4, none⟩ = some (.bool x.d) := cell_of h.cell 4
  have HFL := hide (fail_any w p gb ga vb va x k h hx.ok.syn (by have := hx.ok.most; omega))
  unfold St.crash
  clear h hx
  cases hd : x.d with
  | true =>
    rw [hd] at c4
    rw [if_pos rfl]
    go_enter Tryd.func31, Tryd.ntmps31
    go_wp2
    go_end0
    exact ⟨rfl, HM.out⟩
  | false =>
    rw [hd] at c4
    rw [if_neg (by decide)]
    go_enter Tryd.func31, Tryd.ntmps31
    go_wp2_with fail
    refine HFL.out.mono ?_
    rintro r' w1 ⟨rfl, gb', vb', hg', hl2, hf2, _⟩
    have HM2 : Hid (Mv w p (fp p gb ga) (x.fail k) w1) := ⟨fp p gb' ga, hl2.dk, hf2.mono (fun j hj => by rw [List.mem_singleton.1 hj]; exact fp_p _ _ _), fun j hj => Or.inl (by
      rcases fp_cases hj with rfl | h1 | h1
      · exact fp_p _ _ _
      · rcases hg' with h2 | h2
        · rw [h2] at h1; cases h1
        · exact fp_b (h2 ▸ h1)
      · exact fp_a h1)⟩
    clear hg' hl2 hf2 HFL
    go_wp2
    go_end0
    exact ⟨rfl, HM2.out⟩
set_option maxRecDepth 100000 in
set_option maxHeartbeats 1600000 in
theorem look_any (w : World) (p : Nat) (F : List Nat) (x : St) (h : Dk w p F x) (hb : x.b.length ≤ 281474976710656) :
    Calls Tryd.prog 34 #[ptr p] w fun r' w' => ∃ v, r' = .returned (.tuple #[v, .int .i64 (x.s : Int)]) ∧ Ans w F v x.b w' ∧ Below w.heap.size w w' := by
  have hlt := h.lt
  obtain ⟨gb, ga, vb, va, rfl, h⟩ := h
  have hp := h.lt p (fp_p _ _ _)
  have HO : Hid (∀ W, Below w.heap.size w W → Calls Tryd.prog 18 #[vb] W fun r' w' => r' = .returned (.slice (some ⟨W.heap.size, 0, none⟩) x.b.length x.b.length) ∧ Nw w' W.heap.size x.b ∧ Below W.heap.size W w') := fun W hW => own_any W vb x.b ((h.bytes.rd).below hW) hb
  obtain ⟨ao, cap, rfl⟩ := h.bytes.len
  have c0 : ∀ X, Below w.heap.size w X → X.cell? ⟨p, 0, none⟩ = some (.slice ao x.b.length cap) := fun X hX => cell_of ((hX.block p hp).trans h.cell) 0
  have c1 : ∀ X, Below w.heap.size w X → X.cell? ⟨p, 1, none⟩ = some (.int .i64 (x.s : Int)) := fun X hX => cell_of ((hX.block p hp).trans h.cell) 1
  have HLT := hide hlt
  clear h hlt hb
  go_enter Tryd.func34, Tryd.ntmps34
  go_wp2_with fail
  go_region_held3 (fun X => Below w.heap.size w X)
    (first
      | exact Below.refl _ _
      | assumption
      | exact keepD (by assumption) (by assumption)
      | exact Below.drew (by assumption)
      | exact (Below.refl _ _).drew)
    ((go_at_call 18; refine (HO.out _ (by first | assumption | exact Below.refl _ _ | exact (Below.refl _ _).drew | exact Below.drew (by assumption))).mono ?_; rintro x' w1 ⟨rfl, n1, b1⟩))
  all_goals
    have HN := hide n1
    have HB := hide b1
    clear n1 b1
    go_wp2
    go_ret2
    refine ⟨_, rfl, Or.inr ⟨w.heap.size, rfl, Nat.le_refl _, fun hm => absurd (HLT.out _ hm) (Nat.lt_irrefl _), HN.out⟩, ?_⟩
    first | exact HB.out | exact keepD (Below.refl _ _).drew HB.out | assumption
theorem cells_two (w : World) (a b : Value) (T : TypeId) : ∀ j u, [a, b][j]? = some u → (w.alloc (.cells #[a, b] T)).cell? ((⟨w.heap.size, 0, none⟩ : Addr).add j) = some u := fun j u hu => by
  rw [Addr.add_mid]
  have h : (w.alloc (.cells #[a, b] T)).heap[w.heap.size]? = some (.cells #[a, b] T) := heap_alloc_new _ _
  rw [cell_of h, Nat.zero_add]
  simpa using hu
theorem arm_run (w : World) (ga : Option Nat) (ao : Option Addr) (n cap : Nat) (xs : List Value) (h : Ln w 74 2 ga (.slice ao n cap) n xs) (a b : Int) (hb : (n + 1) * 16 ≤ 140737488355328) :
    ∃ ao' cap' ga' W', (Builtin.append_ #[53, 53] 53 #[.slice ao n cap, .slice (some ⟨w.heap.size, 0, none⟩) 1 1]).run Tryd.prog (w.alloc (.cells #[.int .i64 a, .int .i64 b] 74)) = .ok (.slice ao' (n + 1) cap') W' ∧
      Ln W' 74 2 ga' (.slice ao' (n + 1) cap') (n + 1) (xs ++ [Value.int .i64 a, Value.int .i64 b]) ∧ (ga' = ga ∨ ∃ g, ga' = some g ∧ w.heap.size ≤ g) ∧ Fr ga.toList w W' := by
  obtain ⟨i0, hi, hz0, hz1, hz2⟩ := info_parts infoA
  have hl := h.1
  have hcn := h.cap
  have BV : Below w.heap.size w (w.alloc (.cells #[.int .i64 a, .int .i64 b] 74)) := (Below.refl _ _).alloc (Nat.le_refl _) _
  have hV : Ln (w.alloc (.cells #[.int .i64 a, .int .i64 b] 74)) 74 2 ga (.slice ao n cap) n xs := h.keep fun g hg => BV.block g (h.lt g hg).1
  have hsrc : Src Tryd.prog i0.size 53 (.slice (some ⟨w.heap.size, 0, none⟩) 1 1) 1 [.int .i64 a, .int .i64 b] (w.alloc (.cells #[.int .i64 a, .int .i64 b] 74)) :=
    Src.ofSlice _ Tryd.underlying53 _ _ _ _ (by rw [hz1]; rfl) (cells_two _ _ _ _) (fun u hu => by
      rcases List.mem_cons.1 hu with rfl | hu
      · rfl
      · rw [List.mem_singleton.1 hu]; rfl)
  have hsz : w.heap.size ≤ (w.alloc (.cells #[.int .i64 a, .int .i64 b] 74)).heap.size := BV.size
  generalize w.alloc (.cells #[.int .i64 a, .int .i64 b] 74) = V at *
  by_cases hroom : n + 1 ≤ cap
  · obtain ⟨g, o, rfl, rfl, hth⟩ := hV.at (by omega)
    have hrun := run_append_room_src (P := Tryd.prog) V 53 53 53 74 i0 Tryd.underlying53 hi g o n cap _ 1 _ hsrc hroom
      (fun j hj => by have := (hth (n * 2 + j) (by simp at hj; omega)).1; rw [hz1, Nat.add_assoc]; exact this) (fun j hj => by have := (hth (n * 2 + j) (by simp at hj; omega)).2; rw [hz1, Nat.add_assoc]; exact this)
    rw [hz1] at hrun
    refine ⟨_, _, _, _, hrun, hV.room hroom rfl, Or.inl rfl, ?_⟩
    exact (Fr.of BV).sets g _ _ (Or.inl (by simp))
  · have hold : (Builtin.firstCells i0.size n (.slice ao n cap)).run Tryd.prog V.drew = .ok xs.toArray V.drew := by
      rcases hV.2 with ⟨_, h0, ao', hv⟩ | ⟨g, o, c, _, hv, _, _, _, _, _, h5⟩
      · cases hv
        have : xs = [] := List.eq_nil_of_length_eq_zero (by omega)
        subst this
        cases ao with
        | none => exact run_firstCells_none V.drew i0.size 0 0 0
        | some a => exact run_firstCells_some V.drew i0.size 0 a 0 0 [] (by simp) (by simp)
      · cases hv
        exact run_firstCells_some V.drew i0.size n _ n cap xs (by rw [hl, hz1]) (fun j u hu => by rw [Addr.add_mid]; exact h5 j u hu)
    have hrun := run_append_grow_src (P := Tryd.prog) V 53 53 53 74 i0 _ Tryd.underlying53 hi hz0 ao n cap xs hold _ 1 _ hsrc (by omega) (by omega) (growslice_fits (by omega) (by rw [hz2]; exact hb))
    have hge := grownCap_ge V (n + 1) cap 74
    have hle := grownCap_le_maxLen V (n + 1) cap 74 (by unfold maxLen; omega)
    have hfr : Fr ga.toList w (V.drew.alloc (.cells ((xs ++ [Value.int .i64 a, Value.int .i64 b]).toArray ++ Builtin.zeroCells (Value.agg #[.int .i64 0, .int .i64 0]).cells (grownCap V (n + 1) cap 74 - (n + 1))) 74)) := ((Fr.of BV).drew).alloc _
    have hnew := heap_alloc_new V.drew (.cells ((xs ++ [Value.int .i64 a, Value.int .i64 b]).toArray ++ Builtin.zeroCells (Value.agg #[.int .i64 0, .int .i64 0]).cells (grownCap V (n + 1) cap 74 - (n + 1))) 74)
    refine ⟨_, _, some V.heap.size, _, hrun, ?_, Or.inr ⟨_, rfl, hsz⟩, hfr⟩
    have hown : (V.drew.alloc (.cells ((xs ++ [Value.int .i64 a, Value.int .i64 b]).toArray ++ Builtin.zeroCells (Value.agg #[.int .i64 0, .int .i64 0]).cells (grownCap V (n + 1) cap 74 - (n + 1))) 74)).ownsRow 0 74 2 (.slice (some ⟨V.heap.size, 0, none⟩) (n + 1) (grownCap V (n + 1) cap 74)) (n + 1) (xs ++ [Value.int .i64 a, Value.int .i64 b]) := by
      refine ⟨by rw [List.length_append, hl]; simp; omega, Or.inr ⟨V.heap.size, _, _, rfl, Nat.zero_le _, hnew, hge, hle, ?_, ?_⟩⟩
      · rw [Array.size_append, size_zeroCells, List.size_toArray, List.length_append, hl]
        show n * 2 + 2 + (_ - _) * 2 = _
        omega
      · rw [Array.toList_append, List.toList_toArray]
        refine List.take_left' ?_
        rw [List.length_append, hl]; simp; omega
    obtain ⟨g, hg, _⟩ := Ln.own hown (by omega)
    rcases hg.2 with ⟨h1, _⟩ | ⟨g', o', c', h1, h2, _⟩
    · cases h1
    · cases h1
      cases h2
      exact hg

set_option maxRecDepth 100000 in
set_option maxHeartbeats 1600000 in
theorem arm_any (w : World) (p : Nat) (F : List Nat) (x : St) (n k : Int) (h : Dk w p F x) (ha : (x.a.length + 1) * 16 ≤ 140737488355328) :
    Calls Tryd.prog 30 #[ptr p, .int .i64 n, .int .i64 k] w fun r' w' => r' = .returned (.tuple #[]) ∧ Mv w p F (x.arm n k) w' := by
  obtain ⟨gb, ga, vb, va, rfl, h⟩ := h
  obtain ⟨ao, cap, rfl⟩ := h.arms.len
  have c3 : w.cell? ⟨p, 3, none⟩ = some (.slice ao x.a.length cap) := cell_of h.cell 3
  have HH := hide h
  clear h
  have hall : ∀ m : Int, m = (n.toNat : Int) → ∃ ao' cap' ga' W', (Builtin.append_ #[53, 53] 53 #[.slice ao x.a.length cap, .slice (some ⟨w.heap.size, 0, none⟩) 1 1]).run Tryd.prog (w.alloc (.cells #[.int .i64 m, .int .i64 k] 74)) = .ok (.slice ao' (x.a.length + 1) cap') W' ∧ W'.cell? ⟨p, 3, none⟩ = some (.slice ao x.a.length cap) ∧ W'.frozen? ⟨p, 3, none⟩ = false ∧ Mv w p (fp p gb ga) (x.arm n k) (W'.setCell ⟨p, 3, none⟩ (.slice ao' (x.a.length + 1) cap')) := fun m hm => by
    subst hm
    have h := HH.out
    obtain ⟨ao', cap', ga', W', hrun, hln, hga, hfr⟩ := arm_run w ga ao x.a.length cap (acs x.a) h.arms (n.toNat : Int) k ha
    have hne := h.ne
    have hkp : W'.heap[p]? = w.heap[p]? := hfr.block p (h.lt p (fp_p _ _ _)) (fun hm => hne.2.1 p (by simpa using hm) rfl)
    have hc := hkp.trans h.cell
    have hln2 : Ln W' 74 2 ga' (.slice ao' (x.a.length + 1) cap') (x.a ++ [(n.toNat, k)]).length (acs (x.a ++ [(n.toNat, k)])) := by
      rw [List.length_append, acs_snoc]; exact hln
    have hL2 : Lk (W'.setCell ⟨p, 3, none⟩ (.slice ao' (x.a.length + 1) cap')) p gb ga' vb (.slice ao' (x.a.length + 1) cap') (x.arm n k) := by
      have h1 := ne_of_type hc hln2 (by decide)
      refine ⟨set_of hc 3 _, h.bytes.keep fun g hg => ?_, hln2.keep fun g hg => set_other _ _ _ _ (h1 g hg)⟩
      rw [set_other _ _ _ _ (hne.1 g hg)]
      exact hfr.block g (h.bytes.lt g hg).1 (fun hm => hne.2.2 g hg (by simpa using hm))
    refine ⟨ao', cap', ga', W', hrun, cell_of hc 3, free_of hc 3, fp p gb ga', hL2.dk, (hfr.mono fun j hj => fp_a (by simpa using hj)).set ⟨p, 3, none⟩ _ (Or.inl (fp_p _ _ _)), fun j hj => ?_⟩
    rcases fp_cases hj with rfl | h1 | h1
    · exact Or.inl (fp_p _ _ _)
    · exact Or.inl (fp_b h1)
    · rcases hga with e | ⟨g, e, hg⟩
      · exact Or.inl (fp_a (e ▸ h1))
      · rw [e] at h1; cases h1; exact Or.inr hg
  by_cases hn : 0 ≤ n
  · obtain ⟨ao', cap', ga', W', hrun, d3, y3, hM⟩ := hall n (by omega)
    have HM := hide hM
    clear hM hall
    go_enter Tryd.func30, Tryd.ntmps30
    go_wp2_with (at_builtin; refine wpList_append_run rfl _ _ 53 53 rfl _ _ rfl rfl _ _ hrun ?_)
    go_end0
    exact ⟨rfl, HM.out⟩
  · obtain ⟨ao', cap', ga', W', hrun, d3, y3, hM⟩ := hall 0 (by omega)
    have HM := hide hM
    clear hM hall
    go_enter Tryd.func30, Tryd.ntmps30
    go_wp2_with (at_builtin; refine wpList_append_run rfl _ _ 53 53 rfl _ _ rfl rfl _ _ hrun ?_)
    go_end0
    exact ⟨rfl, HM.out⟩
end Go.Proofs.YtkamnkldgeaaaaaDoor.dk
