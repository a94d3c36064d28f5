import Derived.Test.YticncaoecoehkaaDoorWlSeq
import Derived.Deep.AppendLies
namespace Go.Proofs.YticncaoecoehkaaDoor.wl
open Go.ChangeShapes Go.WideShapes Go.ChangeAt Go.RowKit Go.Shelf Go.Proofs.YticncaoecoehkaaDoor.common Go.Proofs.YticncaoecoehkaaDoor.dk
attribute [local go_sem] Oper.semAt_some

theorem frames_any (oa : Option Addr) (m c : Nat) (w : World) : Calls Tryd.prog 25 #[.slice oa m c] w fun e w' => e = .returned (.func (.func 46) #[] #[.pointer (some ⟨w.heap.size, 0, none⟩)]) ∧ w' = w.alloc (.cells #[.slice oa m c] 22) := by
  go_enter Tryd.func25, Tryd.ntmps25
  go_wp2
  go_ret
  exact ⟨rfl, rfl⟩
theorem infoL : (Tryd.prog.info? 22).map (fun i => (i.zero, i.size, i.bytes)) = some (some (.slice none 0 0), 1, 24) := by kernel_rfl

/-- 'payloads = append(payloads, payload)' and 'length = end': the two boxes lying below the rows -/
theorem appended2 {W w1 : World} {n₀ N B0 B1 K bd : Nat} {t t1 e : TypeId} {v v' u u' : Value} {k m : Nat} {xs ys : List Value} {tmp : Obj}
    (hv : Boxed W B0 t v) (hu : Boxed W B1 t1 u) (hne : B0 ≠ B1) (hB : B0 < N ∧ B1 < N) (h0 : n₀ ≤ B0 ∧ n₀ ≤ B1) (hrow : W.ownsRow N e 1 v k xs) (hN : N ≤ W.heap.size) (hbx : K ≤ n₀ ∧ B0 ≠ bd ∧ B1 ≠ bd ∧ bd < N)
    (hown' : w1.ownsRow N e 1 v' m ys) (hgrow : (W.alloc tmp).grownBy w1 v.ownBlock) :
    Boxed w1 B0 t v ∧ Boxed (w1.setCell ⟨B0, 0, none⟩ v') B1 t1 u ∧ Boxed ((w1.setCell ⟨B0, 0, none⟩ v').setCell ⟨B1, 0, none⟩ u') B0 t v' ∧ Boxed ((w1.setCell ⟨B0, 0, none⟩ v').setCell ⟨B1, 0, none⟩ u') B1 t1 u' ∧
      ((w1.setCell ⟨B0, 0, none⟩ v').setCell ⟨B1, 0, none⟩ u').ownsRow N e 1 v' m ys ∧ KeepsOthers W ((w1.setCell ⟨B0, 0, none⟩ v').setCell ⟨B1, 0, none⟩ u') ∧ Below n₀ W ((w1.setCell ⟨B0, 0, none⟩ v').setCell ⟨B1, 0, none⟩ u') ∧
      Kp K bd W ((w1.setCell ⟨B0, 0, none⟩ v').setCell ⟨B1, 0, none⟩ u') ∧
      ∀ g cs t' fr, t' ≠ e → N ≤ g → W.heap[g]? = some (.cells cs t' fr) → ((w1.setCell ⟨B0, 0, none⟩ v').setCell ⟨B1, 0, none⟩ u').heap[g]? = W.heap[g]? := by
  have own : ∀ j, v.ownBlock = some j → N ≤ j := fun j ej => (hrow.lt j ej).1
  have far : ∀ j, j < N → some j ≠ v.ownBlock := fun j hj ej => by have := own j ej.symm; omega
  have hv1 : Boxed w1 B0 t v := (hv.alloc tmp).kept hgrow (far B0 hB.1)
  have hu1 : Boxed w1 B1 t1 u := (hu.alloc tmp).kept hgrow (far B1 hB.2)
  have kept1 : ∀ j, j < W.heap.size → some j ≠ v.ownBlock → w1.heap[j]? = W.heap[j]? := fun j hj hne => by
    rw [hgrow.block j (by simp; omega) hne, Below.heap_alloc W tmp j hj]
  have kept : ∀ j, j < W.heap.size → some j ≠ v.ownBlock → j ≠ B0 → j ≠ B1 → ((w1.setCell ⟨B0, 0, none⟩ v').setCell ⟨B1, 0, none⟩ u').heap[j]? = W.heap[j]? := fun j hj ho h1 h2 => by
    rw [set_other _ _ _ _ (show j ≠ B1 from h2), set_other _ _ _ _ (show j ≠ B0 from h1), kept1 j hj ho]
  have hsz : W.heap.size ≤ w1.heap.size := by have := hgrow.size; simp at this; omega
  refine ⟨hv1, hu1.other (fun e => hne e.symm) _, (hv1.set v').other hne _, (hu1.other (fun e => hne e.symm) _).set u', ownsRow_setCell_below (ownsRow_setCell_below hown' hB.1 v') hB.2 u', ?_, ?_, ⟨by rw [size_set, size_set]; exact hsz, fun k hk => ?_⟩, fun g cs t' fr ht hg hgc => ?_⟩
  · refine (((KeepsOthers.alloc W tmp).trans (KeepsOthers.of_grownBy hgrow fun j o ej hj => ?_)).trans (KeepsOthers.setCell _ _ _)).trans (KeepsOthers.setCell _ _ _)
    rcases (hrow.alloc tmp).2 with ⟨rfl, _⟩ | ⟨g, cap, cur, rfl, _, hgb, _⟩
    · simp [Value.ownBlock] at ej
    · obtain rfl : g = j := by simpa [Value.ownBlock] using ej
      rw [hgb] at hj; cases hj; rfl
  · exact ((((Below.refl n₀ W).alloc (by omega) tmp).grown hgrow (by simp; omega) fun j ej => by have := own j ej; omega).setCell (p := ⟨B0, 0, none⟩) h0.1 v').setCell (p := ⟨B1, 0, none⟩) h0.2 u'
  · rcases hk with hk | rfl
    · exact kept k (by omega) (far k (by omega)) (by omega) (by omega)
    · exact kept k (by omega) (far k hbx.2.2.2) (fun e => hbx.2.1 e.symm) (fun e => hbx.2.2.1 e.symm)
  · refine kept g (Array.getElem?_eq_some_iff.1 hgc).1 (fun ej => ?_) (by omega) (by omega)
    rcases hrow.2 with ⟨rfl, _⟩ | ⟨g', cap, cur, rfl, _, hgb, _⟩
    · cases ej
    · obtain rfl : g = g' := by simpa [Value.ownBlock] using ej
      rw [hgc] at hgb
      cases hgb
      exact ht rfl

theorem own_mono' {w : World} {base base' : Nat} {e : TypeId} {size : Nat} {v : Value} {n : Nat} {xs : List Value} (h : w.ownsRow base e size v n xs) (hb : base' ≤ base) : w.ownsRow base' e size v n xs := by
  refine ⟨h.1, ?_⟩
  rcases h.2 with hh | ⟨g, cap, cur, rfl, hg, hn⟩
  · exact Or.inl hh
  · exact Or.inr ⟨g, cap, cur, rfl, Nat.le_trans hb hg, hn⟩
theorem own_drewN {w : World} {base : Nat} {e : TypeId} {size : Nat} {v : Value} {n : Nat} {xs : List Value} (h : w.ownsRow base e size v n xs) (k : Nat) : (w.drewN k).ownsRow base e size v n xs := h
/-- rows of payloads, each in a block of its own -/
def Its (W : World) (N : Nat) (its : List It) : Prop := (∀ x ∈ its, Nw W x.g x.p ∧ N ≤ x.g) ∧ its.Pairwise (fun x y => x.g < y.g)
def ends (pre : List It) : Nat := (Wl.flat (ps pre)).length
/-- what the loop's own cells hold -/
def ScI (w : World) (N : Nat) (pre : List It) (W : World) : Prop :=
  (∃ v, Boxed W w.heap.size 28 v ∧ W.ownsRow N 22 1 v pre.length (pre.map It.v)) ∧ Boxed W (w.heap.size + 1) 3 (.int .i64 (ends pre : Int)) ∧ Below w.heap.size w W ∧ N ≤ W.heap.size ∧ Its W N pre ∧ ends pre ≤ 4398046511104 ∧ pre.length * 8 ≤ ends pre
theorem its_keep {W W' : World} {N : Nat} {its : List It} (h : Its W N its) (hk : ∀ x ∈ its, W'.heap[x.g]? = W.heap[x.g]?) : Its W' N its := ⟨fun x hx => ⟨(hk x hx).trans (h.1 x hx).1, (h.1 x hx).2⟩, h.2⟩
theorem sc_abides (w : World) (N : Nat) (hN : w.heap.size + 1 < N) : rgn.Abides (α := It) N (fun pre W => ScI w N pre W) where
  put := by
    rintro pre A l o o' ⟨⟨v, hv, hr⟩, hu, hB, hs, hi, he⟩ hl ho hc
    refine ⟨⟨v, hv.kept (grownBy_putObj' A l o') (fun e => by cases e; omega), ownsRow_putObj hr o' ho hc⟩, hu.kept (grownBy_putObj' A l o') (fun e => by cases e; omega), ?_, by rw [World.putObj_size]; exact hs, its_keep hi fun x hx => ?_, he⟩
    · exact hB.trans ((Below.refl _ A).grown (grownBy_putObj' A l o') hB.size (fun k e => by cases e; omega))
    · refine World.putObj_heap_other fun e => ?_
      have h1 : A.heap[x.g]? = some (.cells (x.p.map B).toArray 5 (0, 0)) := (hi.1 x hx).1
      rw [show A.heap[x.g]? = some o by rw [← ho, e]] at h1
      cases h1
      cases hc
  below := by
    rintro pre A A' ⟨⟨v, hv, hr⟩, hu, hB, hs, hi, he⟩ hb
    refine ⟨⟨v, (hb.block _ (Array.getElem?_eq_some_iff.1 hv).1).trans hv, own_below hr hb⟩, (hb.block _ (Array.getElem?_eq_some_iff.1 hu).1).trans hu, keepD hB hb, Nat.le_trans hs hb.size, its_keep hi fun x hx => hb.block _ (Array.getElem?_eq_some_iff.1 (hi.1 x hx).1).1, he⟩

set_option maxRecDepth 100000 in
set_option maxHeartbeats 6400000 in
theorem scan_any (w : World) (v : Value) (l : List UInt8) (h : Rc w v l) (hl : l.length ≤ 4398046511104) (ht : crcw.Tab w) :
    Calls Tryd.prog 15 #[v] w fun e w' => ∃ v' its, e = .returned (.tuple #[v', .int .i64 (Wl.good l : Int)]) ∧ ps its = Wl.scan l ∧ w'.ownsRow w.heap.size 22 1 v' its.length (its.map It.v) ∧ Its w' w.heap.size its ∧ Below w.heap.size w w' := by
  obtain ⟨i0, hi, hz0, hz1, hz2⟩ := info_parts infoL
  have HR := hide h
  obtain ⟨oa, cap, rfl, _, hh⟩ := h
  refine (callsIn_wide (n := 5)).1 ?_
  refine callsIn_of_wp_marks Tryd.func15 rfl trivial ?_ rfl
  simp only [Tryd.ntmps15, List.size_toArray, List.length_cons, List.length_nil, Nat.reduceAdd, Nat.reduceSub, Array.replicate_succ, Array.replicate_zero, List.push_toArray, List.append_toArray, List.nil_append, List.cons_append]
  gi_wp2
  refine ⟨trivial, (callsIn_wide.2 (frames_any oa l.length cap _)).mono ?_⟩
  rintro e w' ⟨rfl, rfl⟩
  gi_wp2
  obtain ⟨W0, hW0⟩ : ∃ W0, W0 = ((w.alloc (.cells #[.slice none 0 0] 28)).alloc (.cells #[.int .i64 0] 3)).alloc (.cells #[.slice oa l.length cap] 22) := ⟨_, rfl⟩
  have hz : W0.heap.size = w.heap.size + 3 := by rw [hW0]; simp
  have hB0 : Below w.heap.size w W0 := by rw [hW0]; exact (((Below.refl _ w).alloc (Nat.le_refl _) _).alloc (by simp) _).alloc (by simp; omega) _
  have hb0 : Boxed W0 w.heap.size 28 (.slice none 0 0) := by rw [hW0]; exact ((Boxed.new w 28 (.slice none 0 0)).alloc _).alloc _
  have hb1 : Boxed W0 (w.heap.size + 1) 3 (.int .i64 0) := by
    rw [hW0]
    have := (Boxed.new (w.alloc (.cells #[.slice none 0 0] 28)) 3 (.int .i64 0)).alloc (.cells #[.slice oa l.length cap] 22)
    rwa [World.size_alloc] at this
  have hb2 : Boxed W0 (w.heap.size + 2) 22 (.slice oa l.length cap) := by
    rw [hW0]
    have := Boxed.new ((w.alloc (.cells #[.slice none 0 0] 28)).alloc (.cells #[.int .i64 0] 3)) 22 (.slice oa l.length cap)
    rwa [World.size_alloc, World.size_alloc] at this
  rw [← hW0]
  clear hW0
  have hseq := frames_seq 4 w.heap.size (w.heap.size + 2) W0.heap.size l (by omega) (.slice oa l.length cap) W0 hb2 (HR.out.below hB0) (fun h0 a m c e => by
    obtain ⟨g, o, e2, hg, _⟩ := hh h0
    rw [e2] at e
    cases e
    exact hg) (ht.below hB0 ht.lt) ht.lt (Nat.le_refl _) (by omega)
  clear HR ht hh
  refine rgn.range_law rfl (by omega) (gf := 46) rfl trivial (enters_of Tryd.func46 (by kernel_rfl) rfl) (fun _ => rfl) hseq
    (fun h k => ⟨Nat.le_trans h.1 k.1, fun j hj => (k.2 j hj).trans (h.2 j hj)⟩)
    (fun A l o hl => ⟨by rw [World.putObj_size]; exact Nat.le_refl _, fun j hj => World.putObj_heap_other (by omega)⟩)
    (fun o o' => ⟨by simp; omega, fun j hj => (Below.heap_alloc _ _ _ (by simp; omega)).trans (Below.heap_alloc _ _ _ (by omega))⟩)
    (fun pre x A l o o' hf hl ho hc => ⟨hf.1, hf.2.1, ?fput, hf.2.2.2⟩)
    (fun pre W => ScI w W0.heap.size pre W) (sc_abides w _ (by omega))
    ⟨⟨_, hb0, World.ownsRow_nil _ _ _ _⟩, hb1, hB0, Nat.le_refl _, ⟨by simp, List.Pairwise.nil⟩, by decide, by decide⟩
    (fun x => { tmps := #[.slice oa l.length cap, undef, .slice none 0 0, .int .i64 0, .pointer (some ⟨w.heap.size, 0, none⟩), .pointer (some ⟨w.heap.size + 1, 0, none⟩), .int .i64 (x.e : Int), x.v, .slice oa l.length cap, .func (.func 46) #[] #[.pointer (some ⟨w.heap.size + 2, 0, none⟩)], .int .i64 (x.e : Int), x.v, undef, undef, undef, undef, undef, undef, undef], defers := [] }) ?assign ?body ?done
  case fput =>
    refine (World.putObj_heap_other fun e => ?_).trans hf.2.2.1
    have h1 : A.heap[x.g]? = some (.cells (x.p.map B).toArray 5 (0, 0)) := hf.2.2.1
    rw [show A.heap[x.g]? = some o by rw [← ho, e]] at h1
    cases h1
    cases hc
  case assign =>
    intro l x W K hK
    gi_wp2
    exact hK
  case body =>
    rintro lp pre x W ⟨⟨v, hv, hrow⟩, hu, hB, hWN, hits, hel, hp8⟩ ⟨fx0, fx1, fx2, fx3, fx4, fx5⟩
    have hc := hv.cell
    have hends : ends (pre ++ [x]) = x.e := fx1.symm
    have hen : x.e = ends pre + (8 + x.p.length) := by rw [← hends]; unfold ends; rw [ps_snoc, Wl.flat_snoc, List.length_append, Wl.fr_len]
    have hlen : pre.length ≤ 549755813888 := by omega
    have HEN := hide hends
    have HE2 := hide hen
    clear hends hen fx1
    simp only [It.v]
    gi_wp2_with (gi_at_builtin; refine wpListIn_append_own _ rfl _ _ 28 rfl W0.heap.size 22 i0 (.slice none 0 0) 1 24 Tryd.underlying28 hi hz0 hz1 hz2 rfl (by decide) _ _ _ rfl (hrow.alloc _) ⟨W.heap.size, 0, none⟩ 1 1 [x.v] rfl rfl (cell_one_new _ _ _) (by intro u hu; simp at hu; subst hu; rfl) (by unfold maxLen; omega) (by omega) (by simp; omega) ?_; intro v' w1 hown' hgrow _; obtain ⟨g', cap', rfl⟩ := ownsRow_succ hown'; obtain ⟨hv1, hu1, hv2, hu2, hr2, hk2, hb2', hkp2, hoth⟩ := appended2 (n₀ := w.heap.size) (K := w.heap.size) (bd := w.heap.size + 2) (u' := .int .i64 (x.e : Int)) hv hu (by omega) ⟨by omega, by omega⟩ ⟨by omega, by omega⟩ hrow hWN ⟨by omega, by omega, by omega, by omega⟩ hown' hgrow; have hc1 := hv1.cell; have hf1 := hv1.frozen; have hc2 := hu1.cell; have hf2 := hu1.frozen)
    refine ⟨hk2, hkp2, ⟨⟨_, hv2, by rw [List.length_append, List.map_append]; exact hr2⟩, by rw [HEN.out]; exact hu2, hB.trans hb2', Nat.le_trans hWN hk2.size, ⟨fun y hy => ?_, ?_⟩, by rw [HEN.out]; omega, by rw [HEN.out, List.length_append]; simp only [List.length_cons, List.length_nil]; have := HE2.out; omega⟩⟩
    · rcases List.mem_append.1 hy with h | h
      · have h1 := hits.1 y h
        exact ⟨(hoth _ _ _ _ (by decide) h1.2 h1.1).trans h1.1, h1.2⟩
      · rw [List.mem_singleton.1 h]
        exact ⟨(hoth _ _ _ _ (by decide) fx4 fx2).trans fx2, fx4⟩
    · rw [List.pairwise_append]
      exact ⟨hits.2, List.pairwise_singleton _ _, fun a ha b hb => by rw [List.mem_singleton.1 hb]; exact fx3 a ha⟩
  case done =>
    rintro D xs W hD hS ⟨⟨v, hv, hrow⟩, hu, hB, hWN, hits, hel, hp8⟩ hK
    have hc := hv.cell
    have hc1 := hu.cell
    have hmx : Tryd.prog.follows .mixedOrders = true := by kernel_rfl
    gi_wp2
    gi_big_quiet_th_o (fail)
    gi_wp2
    have hK' : (W.drewN nq).heap[D]? = some (.deferred (some [])) := hK
    refine ⟨by simp, .inl ⟨_, _, rfl, run_takeDeferred hK', ?_⟩⟩
    have hBq : Below w.heap.size w (W.drewN nq) := hB.trans ((Fr.refl [] W |>.drewN nq).below (fun k hk => by cases hk) hB.size)
    refine ⟨_, results_tmp2 rfl _ _ _, v, xs, ?_, hS, ?_, ?_, ?_⟩
    · have he : ends xs = Wl.good l := by unfold ends Wl.good; rw [hS]
      rw [he]
      rfl
    · exact ownsRow_putObj (own_mono' (own_drewN hrow nq) (by omega)) _ hK' rfl
    · refine ⟨fun x hx => ⟨(World.putObj_heap_other fun e => ?_).trans (hits.1 x hx).1, Nat.le_trans (by omega) (hits.1 x hx).2⟩, hits.2⟩
      have h1 : W.heap[x.g]? = some (.cells (x.p.map B).toArray 5 (0, 0)) := (hits.1 x hx).1
      rw [show W.heap[x.g]? = some (.deferred (some [])) by rw [← hK, e]] at h1
      cases h1
    · exact hBq.trans ((Below.refl _ _).grown (grownBy_putObj' _ D _) hBq.size (fun k e => by cases e; omega))
end Go.Proofs.YticncaoecoehkaaDoor.wl
