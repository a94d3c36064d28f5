import Derived.Test.YtkamnkldgeaaaaaDoorDrFail
namespace Go.Proofs.YtkamnkldgeaaaaaDoor.dr
open Go.ChangeShapes Go.WideShapes Go.ChangeAt Go.RowKit Go.Proofs.YtkamnkldgeaaaaaDoor.common Go.Proofs.YtkamnkldgeaaaaaDoor.dk

theorem infoM : (Tryd.prog.info? 77).map (fun i => (i.zero, i.size, i.bytes)) = some (some (.agg #[.int .i64 0, .int .i64 0]), 2, 16) := by kernel_rfl
theorem sizeM : (Tryd.prog.info? 77).map (·.size) = some 2 := by kernel_rfl
theorem acs_len (l : List (Nat × Int)) : (acs l).length = l.length * 2 := by
  induction l with
  | nil => rfl
  | cons a r ih => rw [acs_cons, List.length_append, ih, List.length_cons]; simp; omega
theorem acs_at (l : List (Nat × Int)) (i : Nat) (h : i < l.length) : (acs l)[i * 2]? = some (.int .i64 (l[i].1 : Int)) ∧ (acs l)[i * 2 + 1]? = some (.int .i64 l[i].2) := by
  induction l generalizing i with
  | nil => exact absurd h (Nat.not_lt_zero _)
  | cons a r ih =>
    cases i with
    | zero => exact ⟨rfl, rfl⟩
    | succ i =>
      have h1 := ih i (by simpa using h)
      have e1 : (i + 1) * 2 = i * 2 + 2 := by omega
      have e2 : (i + 1) * 2 + 1 = (i * 2 + 1) + 2 := by omega
      rw [e2, e1, acs_cons]
      exact ⟨h1.1, h1.2⟩
set_option maxRecDepth 100000 in
/-- an arm in its row -/
theorem arm_at {w : World} {base : Nat} {v : Value} {l : List (Nat × Int)} (h : w.ownsRow base 77 2 v l.length (acs l)) (i : Nat) (hi : i < l.length) : ∃ g c, v = .slice (some ⟨g, 0, none⟩) l.length c ∧ g < w.heap.size ∧ w.rangeAt g (0 + i * 2) [.int .i64 (l[i].1 : Int), .int .i64 l[i].2] := by
  rcases h.2 with ⟨_, h0⟩ | ⟨g, cap, cur, rfl, _, hc, h1, _, h3, h4⟩
  · omega
  · refine ⟨g, cap, rfl, (Array.getElem?_eq_some_iff.1 hc).1, fun j u hu => ?_⟩
    obtain ⟨a1, a2⟩ := acs_at l i hi
    have get : ∀ m u, (acs l)[m]? = some u → m < l.length * 2 → w.cell? ⟨g, m, none⟩ = some u := fun m u hm hlt => by
      rw [← h4, List.getElem?_take_of_lt hlt] at hm
      simp only [World.cell?, hc]
      simpa using hm
    match j, hu with
    | 0, hu => cases hu; rw [Nat.zero_add, Nat.add_zero]; exact get _ _ a1 (by omega)
    | 1, hu => cases hu; rw [Nat.zero_add]; exact get _ _ a2 (by omega)
def armsL : List (Nat × Int) → List (Nat × Int)
  | [] => []
  | (0, _) :: r => r
  | (n + 1, k) :: r => (n, k) :: r
/-- the rest of the arms is put together -/
theorem own_mono2 {w : World} {base base' : Nat} {e : TypeId} {size : Nat} {v : Value} {n : Nat} {xs : List Value} (h : w.ownsRow base e size v n xs) (hb : base' ≤ base) : w.ownsRow base' e size v n xs := by
  refine ⟨h.1, ?_⟩
  rcases h.2 with hh | ⟨g, cap, cur, rfl, hg, hn⟩
  · exact Or.inl hh
  · exact Or.inr ⟨g, cap, cur, rfl, Nat.le_trans hb hg, hn⟩
theorem cells_twoM (w : World) (a b : Value) (T : TypeId) : ∀ j u, [a, b][j]? = some u → (w.alloc (.cells #[a, b] T)).cell? ((⟨w.heap.size, 0, none⟩ : Addr).add j) = some u := fun j u hu => by
  rw [Addr.add_mid]
  have h : (w.alloc (.cells #[a, b] T)).heap[w.heap.size]? = some (.cells #[a, b] T) := heap_alloc_new _ _
  rw [cell_of h, Nat.zero_add]
  simpa using hu
theorem take_snocA (l : List (Nat × Int)) (pre : List (Nat × Int)) (j : Nat) (h : j < l.length) : acs (pre ++ l.take (j + 1)) = acs (pre ++ l.take j) ++ [.int .i64 (l[j].1 : Int), .int .i64 l[j].2] := by
  rw [take_snocL l j h, ← List.append_assoc, acs_snoc]

set_option maxRecDepth 100000 in
set_option maxHeartbeats 3200000 in
theorem dies_none (w : World) (p : Nat) (F : List Nat) (x : Sq) (h : Dq w p F x) (ha : x.a = []) :
    Calls Tryd.prog 25 #[ptr p] w fun r' w' => r' = .returned (.tuple #[.bool false, .int .i64 0]) ∧ w' = w := by
  obtain ⟨vs, vt, va, rfl, h⟩ := h
  obtain ⟨o, c, e, _⟩ := own_slice h.arms
  have c4 : w.cell? ⟨p, 4, none⟩ = some va := cell_of h.cell 4
  have hl : x.a.length = 0 := by rw [ha]; rfl
  rw [hl] at e
  clear h ha hl
  subst e
  go_enter Tryd.func25, Tryd.ntmps25
  go_wp2
  go_ret2
  exact ⟨rfl, rfl⟩

set_option maxRecDepth 100000 in
set_option maxHeartbeats 6400000 in
theorem dies_some (w : World) (p : Nat) (F : List Nat) (x : Sq) (h : Dq w p F x) (n : Nat) (k : Int) (r : List (Nat × Int)) (ha : x.a = (n, k) :: r) (hb : (r.length + 2) * 16 ≤ 140737488355328) (hn : n ≤ 9223372036854775807) :
    Calls Tryd.prog 25 #[ptr p] w fun r' w' => r' = .returned (.tuple #[.bool (decide (n = 0)), .int .i64 k]) ∧ Mq w p F ⟨x.A, x.T, x.r, armsL x.a, x.d⟩ w' := by
  obtain ⟨vs, vt, va, rfl, h⟩ := h
  obtain ⟨i0, hi, hz0, hz1, hz2⟩ := info_parts infoM
  have hal : x.a.length = r.length + 1 := by rw [ha]; rfl
  obtain ⟨g, c, e, hg, hr0⟩ := arm_at h.arms 0 (by omega)
  have h0 : x.a[0]'(by omega) = (n, k) := by simp [ha]
  rw [h0] at hr0
  have hpl : p < w.heap.size := (Array.getElem?_eq_some_iff.1 h.cell).1
  have c4 : w.cell? ⟨p, 4, none⟩ = some va := cell_of h.cell 4
  have HH := hide h
  rw [hal] at e
  obtain ⟨pre, hpre⟩ : ∃ pre, pre = (if n = 0 then ([] : List (Nat × Int)) else [(n - 1, k)]) := ⟨_, rfl⟩
  have HARM : Hid (armsL x.a = pre ++ r) := by
    show _ = _
    rw [ha, hpre]
    cases n with
    | zero => rfl
    | succ m => rfl
  have HIT : Hid (∀ j (hj : j < r.length), ∀ X, Below w.heap.size w X → X.rangeAt g (0 + (j + 1) * 2) [.int .i64 (r[j].1 : Int), .int .i64 r[j].2]) := fun j hj X hX => by
    obtain ⟨g', c', e', hg', hr'⟩ := arm_at h.arms (j + 1) (by omega)
    have : g' = g := by
      have h6 := (Value.slice.inj (e.symm.trans e')).1
      exact (Addr.mk.inj (Option.some.inj h6)).1.symm
    subst this
    have e3 : x.a[j + 1]'(by omega) = r[j] := by simp [ha]
    rw [e3] at hr'
    exact range_block hr' (hX.block _ hg)
  obtain ⟨W1, hW1⟩ : ∃ W1, W1 = w.alloc (.cells #[.int .i64 (n : Int), .int .i64 k] 77) := ⟨_, rfl⟩
  have b1 : Below w.heap.size w W1 := by rw [hW1]; exact (Below.refl _ _).alloc (Nat.le_refl _) _
  have hA1 : W1.heap[w.heap.size]? = some (.cells #[.int .i64 (n : Int), .int .i64 k] 77) := by rw [hW1]; exact heap_alloc_new _ _
  have hz1s : w.heap.size < W1.heap.size := (Array.getElem?_eq_some_iff.1 hA1).1
  have d0 : W1.cell? ⟨w.heap.size, 0, none⟩ = some (.int .i64 (n : Int)) := cell_of hA1 0
  have d1 : W1.cell? ⟨w.heap.size, 1, none⟩ = some (.int .i64 k) := cell_of hA1 1
  have HW1 := hide hW1
  have HB1 := hide b1
  have HA1 := hide hA1
  have HR0 := hide hr0
  have HPRE := hide hpre
  have HLE : Hid (x.a.length = r.length + 1) := hal
  have hpl2 : pre.length ≤ 1 := by rw [hpre]; split <;> simp
  clear h ha h0 hr0 hpre hal b1 hA1 hW1
  subst e
  -- the loop, for what stands ahead of it
  have HLOOP : Hid (∀ (X : World) (v0 : Value), X.ownsRow W1.heap.size 77 2 v0 pre.length (acs pre) → Below W1.heap.size W1 X → True) := fun _ _ _ _ => trivial
  clear HLOOP
  by_cases hn0 : n = 0
  · have hpn : pre = [] := by rw [HPRE.out, if_pos hn0]
    have z0 : ¬ (0 : Int) < (n : Int) := by omega
    have z0' : decide ((0 : Int) < (n : Int)) = false := decide_eq_false z0
    have z1 : ((n : Int) == 0) = true := by rw [hn0]; rfl
    have HDN : Hid (decide (n = 0) = true) := decide_eq_true hn0
    clear hn0
    go_enter Tryd.func25, Tryd.ntmps25
    go_wp2_with (refine wpList_load_mid rfl 77 (.tmp 17) rfl g 0 rfl _ _ HR0.out Tryd.underlying77 rfl sizeM ?_)
    rw [← HW1.out]
    have HST : Hid (W1.ownsRow W1.heap.size 77 2 (.slice none 0 0) pre.length (acs pre) ∧ Below W1.heap.size W1 W1) := by
      rw [hpn]
      exact ⟨World.ownsRow_nil _ _ _ _, Below.refl _ _⟩
    clear d0 d1 hpn z0 z0'
    go_loopw [5, 6] (fun v i wr => ∃ j : Nat, j ≤ r.length ∧ i = .int .i64 ((j : Int) + 1) ∧ Hid (wr.ownsRow W1.heap.size 77 2 v (pre.length + j) (acs (pre ++ r.take j)) ∧ Below W1.heap.size W1 wr)) (fun _ i _ => r.length + 1 - (intOf i).toNat)
    case atStart => exact ⟨0, Nat.zero_le _, rfl, by rw [List.take_zero, List.append_nil]; exact HST.out⟩
    case round =>
      obtain ⟨j, hj, rfl, HI⟩ := hrel
      obtain ⟨hown, hbw⟩ := HI.out
      have hbw0 : Below w.heap.size w wr := HB1.out.trans (hbw.mono HB1.out.size)
      have hcp := (hbw0.block p hpl).trans HH.out.cell
      have e4 : wr.cell? ⟨p, 4, none⟩ = some (.slice (some ⟨g, 0, none⟩) (r.length + 1) c) := cell_of hcp 4
      have f4 : wr.frozen? ⟨p, 4, none⟩ = false := free_of hcp 4
      have hsz := hbw.size
      by_cases hlt : j < r.length
      · have HRJ := hide (HIT.out j hlt wr hbw0)
        have HSN := hide (take_snocA r pre j hlt)
        have hg2 : g < wr.heap.size := Nat.lt_of_lt_of_le hg hbw0.size
        obtain ⟨am, hm⟩ : ∃ m, m = r[j].1 := ⟨_, rfl⟩
        obtain ⟨ak, hkk⟩ : ∃ m, m = r[j].2 := ⟨_, rfl⟩
        rw [← hm, ← hkk] at HRJ HSN
        have k0 : (0 : Int) ≤ (j : Int) + 1 := by omega
        have k1 : (j : Int) + 1 < ((r.length : Nat) : Int) + 1 := by omega
        have k2 : (((j : Int) + 1).toNat) = j + 1 := by omega
        clear hm hkk hcp
        have j0 : wr.cell? ⟨g, (j + 1) * 2, none⟩ = some (.int .i64 (am : Int)) := by have := HRJ.out 0 _ rfl; rw [Nat.zero_add, Nat.add_zero] at this; exact this
        have j1 : wr.cell? ⟨g, (j + 1) * 2 + 1, none⟩ = some (.int .i64 ak) := by have := HRJ.out 1 _ rfl; rw [Nat.zero_add] at this; exact this
        clear HRJ
        go_wp2_with ((at_builtin; refine wpList_append_own _ rfl _ _ 56 rfl W1.heap.size 77 i0 (.agg #[.int .i64 0, .int .i64 0]) 2 16 Tryd.underlying56 hi hz0 hz1 hz2 rfl (by decide) _ _ _ rfl (hown.alloc _) ⟨wr.heap.size, 0, none⟩ 1 1 [.int .i64 (am : Int), .int .i64 ak] rfl rfl ?c1 ?c2 ?c3 ?c4 ?c5 ?_))
        case c1 => exact cells_twoM _ _ _ _
        case c2 => intro u hu; simp at hu; rcases hu with rfl | rfl <;> rfl
        case c3 => unfold maxLen; omega
        case c4 => omega
        case c5 => simp; omega
        intro v' w1 hown' hgrow _
        have R1 : w1.ownsRow W1.heap.size 77 2 v' (pre.length + (j + 1)) (acs (pre ++ r.take (j + 1))) := by rw [HSN.out, ← Nat.add_assoc]; exact hown'
        have R2 : Below W1.heap.size W1 w1 := by
          refine (hbw.alloc hsz _).grown hgrow (by simp; omega) ?_
          exact own_ge hown
        have H1 : Hid (w1.ownsRow W1.heap.size 77 2 v' (pre.length + (j + 1)) (acs (pre ++ r.take (j + 1))) ∧ Below W1.heap.size W1 w1) := ⟨R1, R2⟩
        clear hown' hgrow hown R1 R2 HI hbw hbw0
        go_wp2
        go_roundw
        case rel => exact ⟨j + 1, by omega, by go_num, H1.out⟩
        case measure => simp [intOf]; omega
      · obtain rfl : j = r.length := by omega
        have hL : wr.ownsRow W1.heap.size 77 2 u5 (armsL x.a).length (acs (armsL x.a)) := by
          rw [HARM.out, List.length_append]
          rw [List.take_length] at hown
          exact hown
        have HM : Hid (Mq w p (fq p vs vt (.slice (some ⟨g, 0, none⟩) (r.length + 1) c)) ⟨x.A, x.T, x.r, armsL x.a, x.d⟩ (wr.setCell ⟨p, 4, none⟩ u5)) := by
          have hK := HH.out.keep (w' := wr) (fun i hi => hbw0.block i (HH.out.lt i hi))
          refine ⟨fq p vs vt u5, ⟨vs, vt, u5, rfl, hK.set (y := ⟨x.A, x.T, x.r, armsL x.a, x.d⟩) (dq_set4 hcp u5) (fun i hi => set_other _ _ _ _ hi) hK.safe hK.tail (own_mono2 hL (Nat.zero_le _)) hK.sep⟩, (Fr.of hbw0).set ⟨p, 4, none⟩ _ (Or.inl (fq_p _ _ _ _)), fun i hi => ?_⟩
          rcases fq_cases hi with rfl | h5 | h5 | h5
          · exact Or.inl (fq_p _ _ _ _)
          · exact Or.inl (fq_s h5)
          · exact Or.inl (fq_t h5)
          · exact Or.inr (Nat.le_trans HB1.out.size (own_ge hL i h5))
        have hne : p ≠ w.heap.size := by omega
        have hA9 : (wr.setCell ⟨p, 4, none⟩ u5).heap[w.heap.size]? = some (.cells #[.int .i64 (n : Int), .int .i64 k] 77) := by
          rw [set_other _ _ _ _ (show w.heap.size ≠ p by omega)]
          exact (hbw.block _ hz1s).trans HA1.out
        have y0 : (wr.setCell ⟨p, 4, none⟩ u5).cell? ⟨w.heap.size, 0, none⟩ = some (.int .i64 (n : Int)) := cell_of hA9 0
        have y1 : (wr.setCell ⟨p, 4, none⟩ u5).cell? ⟨w.heap.size, 1, none⟩ = some (.int .i64 k) := cell_of hA9 1
        obtain ⟨o9, c9, e9, _⟩ := own_slice hown
        have k1 : ¬ ((r.length : Nat) : Int) + 1 < ((r.length : Nat) : Int) + 1 := by omega
        clear hL hcp hA9 HI hown hbw hbw0
        subst e9
        go_wp2
        go_quiet (fail)
        go_wp2
        go_ret2
        refine ⟨by rw [HDN.out]; rfl, ?_⟩
        obtain ⟨F', q1, q2, q3⟩ := HM.out
        exact ⟨F', q1.below ((Fr.refl [] _ |>.drewN _).below (fun k hk => by cases hk) (Nat.le_refl _)), q2.drewN _, q3⟩
  · have hpn : pre = [(n - 1, k)] := by rw [HPRE.out, if_neg hn0]
    have z0 : (0 : Int) < (n : Int) := by omega
    have z0' : decide ((0 : Int) < (n : Int)) = true := decide_eq_true z0
    have z1 : ((n : Int) == 0) = false := by rw [beq_eq_false_iff_ne]; omega
    have HDN : Hid (decide (n = 0) = false) := decide_eq_false hn0
    have hn1 : ((n - 1 : Nat) : Int) = (n : Int) - 1 := by omega
    clear hn0
    have hzz : W1.heap.size = w.heap.size + 1 := by rw [HW1.out]; simp
    go_enter Tryd.func25, Tryd.ntmps25
    go_wp2_with (first
      | (refine wpList_load_mid rfl 77 (.tmp 17) rfl g 0 rfl _ _ HR0.out Tryd.underlying77 rfl sizeM ?_)
      | (at_builtin; refine wpList_append_own _ rfl _ _ 56 rfl (w.heap.size + 1) 77 i0 (.agg #[.int .i64 0, .int .i64 0]) 2 16 Tryd.underlying56 hi hz0 hz1 hz2 rfl (by decide) _ _ _ rfl (World.ownsRow_nil _ _ _ _) ⟨w.heap.size + 1, 0, none⟩ 1 1 [.int .i64 ((n : Int) - 1), .int .i64 k] rfl rfl ?e1 ?e2 ?e3 ?e4 ?e5 ?_))
    try (case e1 =>
      rw [← HW1.out, ← hzz]
      exact cells_twoM _ _ _ _)
    try (case e2 => exact ⟨rfl, rfl⟩)
    try (case e3 => unfold maxLen; omega)
    try (case e4 => omega)
    try (case e5 => simp)
    rw [← HW1.out, ← hzz]
    intro v0 w2 hown2 hgrow2 _
    have HST : Hid (w2.ownsRow W1.heap.size 77 2 v0 pre.length (acs pre) ∧ Below W1.heap.size W1 w2) := by
      refine ⟨?_, ((Below.refl W1.heap.size W1).alloc (Nat.le_refl _) _).grown hgrow2 (by simp) (fun b hb => by cases hb)⟩
      rw [hpn]
      show w2.ownsRow _ _ 2 v0 1 [.int .i64 ((n - 1 : Nat) : Int), .int .i64 k]
      rw [hn1]
      exact hown2
    clear d0 d1 hpn hown2 hgrow2 hzz hn1 z0 z0'
    go_wp2
    go_loopw [5, 6] (fun v i wr => ∃ j : Nat, j ≤ r.length ∧ i = .int .i64 ((j : Int) + 1) ∧ Hid (wr.ownsRow W1.heap.size 77 2 v (pre.length + j) (acs (pre ++ r.take j)) ∧ Below W1.heap.size W1 wr)) (fun _ i _ => r.length + 1 - (intOf i).toNat)
    case atStart => exact ⟨0, Nat.zero_le _, rfl, by rw [List.take_zero, List.append_nil]; exact HST.out⟩
    case round =>
      obtain ⟨j, hj, rfl, HI⟩ := hrel
      obtain ⟨hown, hbw⟩ := HI.out
      have hbw0 : Below w.heap.size w wr := HB1.out.trans (hbw.mono HB1.out.size)
      have hcp := (hbw0.block p hpl).trans HH.out.cell
      have e4 : wr.cell? ⟨p, 4, none⟩ = some (.slice (some ⟨g, 0, none⟩) (r.length + 1) c) := cell_of hcp 4
      have f4 : wr.frozen? ⟨p, 4, none⟩ = false := free_of hcp 4
      have hsz := hbw.size
      by_cases hlt : j < r.length
      · have HRJ := hide (HIT.out j hlt wr hbw0)
        have HSN := hide (take_snocA r pre j hlt)
        have hg2 : g < wr.heap.size := Nat.lt_of_lt_of_le hg hbw0.size
        obtain ⟨am, hm⟩ : ∃ m, m = r[j].1 := ⟨_, rfl⟩
        obtain ⟨ak, hkk⟩ : ∃ m, m = r[j].2 := ⟨_, rfl⟩
        rw [← hm, ← hkk] at HRJ HSN
        have k0 : (0 : Int) ≤ (j : Int) + 1 := by omega
        have k1 : (j : Int) + 1 < ((r.length : Nat) : Int) + 1 := by omega
        have k2 : (((j : Int) + 1).toNat) = j + 1 := by omega
        clear hm hkk hcp
        have j0 : wr.cell? ⟨g, (j + 1) * 2, none⟩ = some (.int .i64 (am : Int)) := by have := HRJ.out 0 _ rfl; rw [Nat.zero_add, Nat.add_zero] at this; exact this
        have j1 : wr.cell? ⟨g, (j + 1) * 2 + 1, none⟩ = some (.int .i64 ak) := by have := HRJ.out 1 _ rfl; rw [Nat.zero_add] at this; exact this
        clear HRJ
        go_wp2_with ((at_builtin; refine wpList_append_own _ rfl _ _ 56 rfl W1.heap.size 77 i0 (.agg #[.int .i64 0, .int .i64 0]) 2 16 Tryd.underlying56 hi hz0 hz1 hz2 rfl (by decide) _ _ _ rfl (hown.alloc _) ⟨wr.heap.size, 0, none⟩ 1 1 [.int .i64 (am : Int), .int .i64 ak] rfl rfl ?c1 ?c2 ?c3 ?c4 ?c5 ?_))
        case c1 => exact cells_twoM _ _ _ _
        case c2 => intro u hu; simp at hu; rcases hu with rfl | rfl <;> rfl
        case c3 => unfold maxLen; omega
        case c4 => omega
        case c5 => simp; omega
        intro v' w1 hown' hgrow _
        have R1 : w1.ownsRow W1.heap.size 77 2 v' (pre.length + (j + 1)) (acs (pre ++ r.take (j + 1))) := by rw [HSN.out, ← Nat.add_assoc]; exact hown'
        have R2 : Below W1.heap.size W1 w1 := by
          refine (hbw.alloc hsz _).grown hgrow (by simp; omega) ?_
          exact own_ge hown
        have H1 : Hid (w1.ownsRow W1.heap.size 77 2 v' (pre.length + (j + 1)) (acs (pre ++ r.take (j + 1))) ∧ Below W1.heap.size W1 w1) := ⟨R1, R2⟩
        clear hown' hgrow hown R1 R2 HI hbw hbw0
        go_wp2
        go_roundw
        case rel => exact ⟨j + 1, by omega, by go_num, H1.out⟩
        case measure => simp [intOf]; omega
      · obtain rfl : j = r.length := by omega
        have hL : wr.ownsRow W1.heap.size 77 2 u5 (armsL x.a).length (acs (armsL x.a)) := by
          rw [HARM.out, List.length_append]
          rw [List.take_length] at hown
          exact hown
        have HM : Hid (Mq w p (fq p vs vt (.slice (some ⟨g, 0, none⟩) (r.length + 1) c)) ⟨x.A, x.T, x.r, armsL x.a, x.d⟩ (wr.setCell ⟨p, 4, none⟩ u5)) := by
          have hK := HH.out.keep (w' := wr) (fun i hi => hbw0.block i (HH.out.lt i hi))
          refine ⟨fq p vs vt u5, ⟨vs, vt, u5, rfl, hK.set (y := ⟨x.A, x.T, x.r, armsL x.a, x.d⟩) (dq_set4 hcp u5) (fun i hi => set_other _ _ _ _ hi) hK.safe hK.tail (own_mono2 hL (Nat.zero_le _)) hK.sep⟩, (Fr.of hbw0).set ⟨p, 4, none⟩ _ (Or.inl (fq_p _ _ _ _)), fun i hi => ?_⟩
          rcases fq_cases hi with rfl | h5 | h5 | h5
          · exact Or.inl (fq_p _ _ _ _)
          · exact Or.inl (fq_s h5)
          · exact Or.inl (fq_t h5)
          · exact Or.inr (Nat.le_trans HB1.out.size (own_ge hL i h5))
        have hne : p ≠ w.heap.size := by omega
        have hA9 : (wr.setCell ⟨p, 4, none⟩ u5).heap[w.heap.size]? = some (.cells #[.int .i64 (n : Int), .int .i64 k] 77) := by
          rw [set_other _ _ _ _ (show w.heap.size ≠ p by omega)]
          exact (hbw.block _ hz1s).trans HA1.out
        have y0 : (wr.setCell ⟨p, 4, none⟩ u5).cell? ⟨w.heap.size, 0, none⟩ = some (.int .i64 (n : Int)) := cell_of hA9 0
        have y1 : (wr.setCell ⟨p, 4, none⟩ u5).cell? ⟨w.heap.size, 1, none⟩ = some (.int .i64 k) := cell_of hA9 1
        obtain ⟨o9, c9, e9, _⟩ := own_slice hown
        have k1 : ¬ ((r.length : Nat) : Int) + 1 < ((r.length : Nat) : Int) + 1 := by omega
        clear hL hcp hA9 HI hown hbw hbw0
        subst e9
        go_wp2
        go_quiet (fail)
        go_wp2
        go_ret2
        refine ⟨by rw [HDN.out]; rfl, ?_⟩
        obtain ⟨F', q1, q2, q3⟩ := HM.out
        exact ⟨F', q1.below ((Fr.refl [] _ |>.drewN _).below (fun k hk => by cases hk) (Nat.le_refl _)), q2.drewN _, q3⟩
end Go.Proofs.YtkamnkldgeaaaaaDoor.dr
