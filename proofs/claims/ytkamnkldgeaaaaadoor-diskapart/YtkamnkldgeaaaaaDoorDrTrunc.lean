import Derived.Test.YtkamnkldgeaaaaaDoorDrMeth2
import Derived.Deep.RegionLaw
namespace Go.Proofs.YtkamnkldgeaaaaaDoor.dr
open Go.ChangeShapes Go.WideShapes Go.ChangeAt Go.RowKit Go.Proofs.YtkamnkldgeaaaaaDoor.common Go.Proofs.YtkamnkldgeaaaaaDoor.dk

/-- a call as a step of a region that draws its order -/
theorem step_callsE {P : Program} {ops : Array Oper} {o : Oper} {a : Act} {w : World} {K : Act → World → Prop} {Q : Exit → Act → World → Prop} {E : Prop} (hgd : o.guard = none) {f : FuncId} {args : Array Value} {post : Value → World → Prop}
    (hx : (execOp a.eval o).run P w = .ok (.enter f args) w) (hC : Calls P f args w fun e w' => ∃ v, e = .returned v ∧ post v w') (hK : ∀ v w', post v w' → K (a.put o.dst v) w') : if Region.wanted o (yielded ops a.tmps) = true then Oper.wp P o a w K Q else E := by
  have hw : Region.wanted o (yielded ops a.tmps) = true := by simp [Region.wanted, hgd]
  rw [if_pos hw]
  unfold Oper.wp
  rw [hx, Oper.upon_enter]
  refine hC.mono ?_
  rintro e w' ⟨v, rfl, h⟩
  exact hK v w' h
theorem rd_take {w : World} {oa : Option Addr} {c : Nat} {l : List UInt8} (h : Rd w (.slice oa l.length c) l) (k : Nat) (hk : k ≤ l.length) (c' : Nat) : Rd w (.slice oa k c') (l.take k) := by
  obtain ⟨oa', c2, hv, h⟩ := h
  cases hv
  refine ⟨oa, c', by rw [List.length_take, Nat.min_eq_left hk], fun hl => ?_⟩
  rw [List.length_take] at hl
  obtain ⟨g, o, e, hg, hr⟩ := h (by omega)
  refine ⟨g, o, e, hg, fun j u hu => hr j u ?_⟩
  rw [List.map_take, List.getElem?_take] at hu
  split at hu
  · exact hu
  · cases hu
set_option maxRecDepth 100000 in
/-- a row of the disk's own gives way to a new one -/
theorem Lq.newS {w W : World} {p : Nat} {vs vt va v' : Value} {x : Sq} {l : List UInt8} (h : Lq w p vs vt va x) (hb : Below w.heap.size w W) (ho : W.ownsRow w.heap.size 5 1 v' l.length (l.map B)) :
    W.cell? ⟨p, 0, none⟩ = some vs ∧ W.frozen? ⟨p, 0, none⟩ = false ∧ (W.setCell ⟨p, 0, none⟩ v').cell? ⟨p, 1, none⟩ = some vt ∧ (W.setCell ⟨p, 0, none⟩ v').frozen? ⟨p, 1, none⟩ = false ∧ Mq w p (fq p vs vt va) ⟨l, [], x.r, x.a, x.d⟩ ((W.setCell ⟨p, 0, none⟩ v').setCell ⟨p, 1, none⟩ (.slice none 0 0)) := by
  have hpl : p < w.heap.size := (Array.getElem?_eq_some_iff.1 h.cell).1
  have hc := (hb.block p hpl).trans h.cell
  have hK := h.keep (w' := W) (fun i hi => hb.block i (h.lt i hi))
  have hc1 : (W.setCell ⟨p, 0, none⟩ v').heap[p]? = some (.cells (dqc v' vt x.r x.d va) 58) := set_of hc 0 v'
  refine ⟨cell_of hc 0, free_of hc 0, cell_of hc1 1, free_of hc1 1, fq p v' (.slice none 0 0) va, ⟨v', _, va, rfl, hK.set (y := ⟨l, [], x.r, x.a, x.d⟩) (dq_set1 hc1 _) (fun i hi => by rw [set_other _ _ _ _ hi, set_other _ _ _ _ hi]) (own_zero ho) (World.ownsRow_nil _ _ _ _) hK.arms (fun b _ hb => by cases hb)⟩, ((Fr.of hb).set ⟨p, 0, none⟩ _ (Or.inl (fq_p _ _ _ _))).set ⟨p, 1, none⟩ _ (Or.inl (fq_p _ _ _ _)), fun i hi => ?_⟩
  rcases fq_cases hi with rfl | h5 | h5 | h5
  · exact Or.inl (fq_p _ _ _ _)
  · exact Or.inr (own_ge ho i h5)
  · cases h5
  · exact Or.inl (fq_a h5)
set_option maxRecDepth 100000 in
theorem Lq.newT {w W : World} {p : Nat} {vs vt va v' : Value} {x : Sq} {l : List UInt8} (h : Lq w p vs vt va x) (hb : Below w.heap.size w W) (ho : W.ownsRow w.heap.size 5 1 v' l.length (l.map B)) :
    W.cell? ⟨p, 1, none⟩ = some vt ∧ W.frozen? ⟨p, 1, none⟩ = false ∧ Mq w p (fq p vs vt va) ⟨x.A, l, x.r, x.a, x.d⟩ (W.setCell ⟨p, 1, none⟩ v') := by
  have hpl : p < w.heap.size := (Array.getElem?_eq_some_iff.1 h.cell).1
  have hc := (hb.block p hpl).trans h.cell
  have hK := h.keep (w' := W) (fun i hi => hb.block i (h.lt i hi))
  refine ⟨cell_of hc 1, free_of hc 1, fq p vs v' va, ⟨vs, v', va, rfl, hK.set (y := ⟨x.A, l, x.r, x.a, x.d⟩) (dq_set1 hc _) (fun i hi => set_other _ _ _ _ hi) hK.safe (own_zero ho) hK.arms (fun b h1 h2 => ?_)⟩, (Fr.of hb).set ⟨p, 1, none⟩ _ (Or.inl (fq_p _ _ _ _)), fun i hi => ?_⟩
  · have := own_ge ho b h2
    have := (own_at h.safe b h1).1
    omega
  · rcases fq_cases hi with rfl | h5 | h5 | h5
    · exact Or.inl (fq_p _ _ _ _)
    · exact Or.inl (fq_s h5)
    · exact Or.inr (own_ge ho i h5)
    · exact Or.inl (fq_a h5)

set_option maxRecDepth 100000 in
set_option maxHeartbeats 6400000 in
theorem dtrunc_any (w : World) (p : Nat) (F : List Nat) (x : St) (n : Int) (h : Dq w p F (sq x)) (hx : Fine x) (hb : (x.a.length + 1) * 16 ≤ 140737488355328) :
    Calls Tryd.prog 37 #[ptr p, .int .i64 n] w fun r' w' => r' = .returned (.int .i64 ((x.trunc n).2 : Int)) ∧ Mq w p F (sq (x.trunc n).1) w' := by
  have c3 := h.c3
  have hd : (sq x).d = x.d := rfl
  rw [hd] at c3
  have hmost := hx.ok.most
  have hsyn := hx.ok.syn
  cases hxd : x.d with
  | true =>
    rw [hxd] at c3
    have HC : Hid (x.trunc n = (x, 10)) := by
      show _ = _
      unfold St.trunc
      rw [if_neg (by rw [hxd]; simp)]
      exact oper_dead x hxd _ _ _
    have HS := hide (h.stay (Below.refl _ _))
    clear h hd hxd
    go_enter Tryd.func37, Tryd.ntmps37
    go_wp2
    go_ret
    exact ⟨by rw [HC.out]; rfl, by rw [HC.out]; exact HS.out⟩
  | false =>
    rw [hxd] at c3
    have HDQ := hide h
    have hsl := sq_len x hsyn
    have HD := hide (fun X (hX : ∃ k, X = w.drewN k) => dies_any X p F x (by obtain ⟨k, rfl⟩ := hX; exact h.below ((Fr.refl [] w |>.drewN k).below (fun i hi => by cases hi) (Nat.le_refl _))) hxd hb hx)
    obtain ⟨vs0, vt0, va0, hF0, h0⟩ := h
    obtain ⟨os0, cs0, e1, _⟩ := own_slice h0.safe
    obtain ⟨ot0, ct0, e2, _⟩ := own_slice h0.tail
    have c0 : w.cell? ⟨p, 0, none⟩ = some vs0 := cell_of h0.cell 0
    have c1 : w.cell? ⟨p, 1, none⟩ = some vt0 := cell_of h0.cell 1
    obtain ⟨NA, hNA⟩ : ∃ N, N = (sq x).A.length := ⟨_, rfl⟩
    obtain ⟨NT, hNT⟩ : ∃ N, N = (sq x).T.length := ⟨_, rfl⟩
    rw [← hNA, ← hNT] at hsl
    rw [← hNA] at e1
    rw [← hNT] at e2
    by_cases hneg : n < 0
    · have HC : Hid (x.trunc n = (x, 1)) := by
        show _ = _
        unfold St.trunc
        rw [if_pos (by rw [hxd]; simp [hneg])]
      have z0 : decide (n < 0) = true := decide_eq_true hneg
      clear h0 hd hxd HD hNA hNT
      subst e1 e2
      go_enter Tryd.func37, Tryd.ntmps37
      go_wp2_with fail
      go_quiet (fail)
      go_wp2
      go_ret
      exact ⟨by rw [HC.out]; rfl, by rw [HC.out]; exact HDQ.out.stay (bdN (Below.refl _ _) _)⟩
    have z0 : decide (n < 0) = false := decide_eq_false hneg
    by_cases hgt : (x.b.length : Int) < n
    · have HC : Hid (x.trunc n = (x, 1)) := by
        show _ = _
        unfold St.trunc
        rw [if_pos (by rw [hxd]; simp [hgt])]
      have z1 : (NA : Int) + (NT : Int) < n := by omega
      have z1' : decide ((NA : Int) + (NT : Int) < n) = true := decide_eq_true z1
      clear h0 hd hxd HD hNA hNT
      subst e1 e2
      go_enter Tryd.func37, Tryd.ntmps37
      go_wp2_with fail
      go_quiet (fail)
      go_wp2
      go_ret
      exact ⟨by rw [HC.out]; rfl, by rw [HC.out]; exact HDQ.out.stay (bdN (Below.refl _ _) _)⟩
    have z1 : ¬ (NA : Int) + (NT : Int) < n := by omega
    have z1' : decide ((NA : Int) + (NT : Int) < n) = false := decide_eq_false z1
    have HC : Hid (x.trunc n = if dyB x.a then ((aft x).fail (dyK x.a), 10) else ((aft x).cut n.toNat, 0)) := by
      show _ = _
      unfold St.trunc
      rw [if_neg (by rw [hxd]; simp [hneg, hgt])]
      exact oper_is x hxd id (fun y => y.cut n.toNat) 0
    have hsa : (aft x).s ≤ (aft x).b.length := hsyn
    have hsl2 := sq_len (aft x) hsa
    have hab : (aft x).b = x.b := rfl
    rw [hab] at hsl2
    have HSA := hide hsa
    have HSL2 := hide hsl2
    obtain ⟨dy, hdy⟩ : ∃ d, d = dyB x.a := ⟨_, rfl⟩
    rw [← hdy] at HD HC
    obtain ⟨m, hm⟩ : ∃ m : Nat, n = (m : Int) := ⟨n.toNat, by omega⟩
    subst hm
    have hmm : ((m : Int)).toNat = m := by omega
    rw [hmm] at HC
    have HXL : Hid (m ≤ x.b.length) := by show _ ≤ _; omega
    have HXS : Hid (NA = x.s) := hsl.2
    have hNAb : NA ≤ 140737488355328 := by omega
    have hNTb : NT ≤ 140737488355328 := by omega
    have HSL := hide hsl
    clear h0 hd hxd hNA hNT hsa hab hdy hmm hsl2 hneg hgt hsl
    subst e1 e2
    go_enter Tryd.func37, Tryd.ntmps37
    go_wp2_with fail
    go_quiet (fail)
    go_wp2_with fail
    refine (HD.out _ ⟨nq, rfl⟩).mono ?_
    rintro r' w1 ⟨rfl, F1, hD1, hf1, hs1⟩
    have HF1 : Hid (Fr F w w1) := ((Fr.refl F w).drewN nq).trans hf1 (fun i hi => Or.inl hi)
    have HS1 : Hid (∀ k ∈ F1, k ∈ F ∨ w.heap.size ≤ k) := hs1
    have HD1 := hide hD1
    clear hf1 hs1 HD
    cases dy with
    | true =>
      have HFA := hide (fail_any w1 p F1 (sq (aft x)) (dyK x.a) hD1 (by have := HSL2.out; omega))
      rw [← fail_sq _ _ HSA.out] at HFA
      clear hD1
      go_wp2_with fail
      refine HFA.out.mono ?_
      rintro r' w2 ⟨rfl, hm⟩
      have HM := hide (Mq.trans HF1.out HS1.out hm)
      clear hm HFA
      go_wp2
      go_ret
      exact ⟨by rw [HC.out]; rfl, by rw [HC.out]; exact HM.out⟩
    | false =>
      obtain ⟨vs, vt, va, rfl, hL⟩ := hD1
      obtain ⟨os, cs, e1, hcs⟩ := own_slice hL.safe
      obtain ⟨ot, ct, e2, hct⟩ := own_slice hL.tail
      have d0 : w1.cell? ⟨p, 0, none⟩ = some vs := cell_of hL.cell 0
      have d1 : w1.cell? ⟨p, 1, none⟩ = some vt := cell_of hL.cell 1
      have hA2 : (sq (aft x)).A.length = NA := by rw [HSL2.out.2]; exact HXS.out.symm
      have hT2 : (sq (aft x)).T.length = NT := by have := HSL2.out; have := HSL.out; omega
      have HL := hide hL
      rw [hA2] at e1 hcs
      rw [hT2] at e2 hct
      by_cases hlt : m < x.s
      · have y0 : (m : Int) < (NA : Int) := by have := HXS.out; omega
        have y0' : decide ((m : Int) < (NA : Int)) = true := decide_eq_true y0
        have HFR := hide (fresh_any w1 (.slice os m cs) ((sq (aft x)).A.take m) (rd_take (l := (sq (aft x)).A) (by rw [hA2]; have := rd_own hL.safe; rw [e1] at this; exact this) m (by omega) cs) (by rw [List.length_take]; omega))
        have HCUT : Hid (sq ((aft x).cut m) = ⟨(sq (aft x)).A.take m, [], (aft x).r, (aft x).a, (aft x).d⟩) := cut_less _ _ hlt
        have y1 : (m : Int) ≤ (cs : Int) := by omega
        have y2 : (0 : Int) ≤ (m : Int) := by omega
        clear hL hA2 hT2 hlt
        subst e1 e2
        go_wp2_with fail
        refine HFR.out.mono ?_
        rintro r' w2 ⟨v2, rfl, hown, b2⟩
        obtain ⟨q0, f0, q1, f1, hM⟩ := HL.out.newS b2 hown
        obtain ⟨o', c', e3, _⟩ := own_slice hown
        obtain ⟨N, hN⟩ : ∃ N, N = ((sq (aft x)).A.take m).length := ⟨_, rfl⟩
        rw [← hN] at e3
        have HM : Hid (Mq w p F (sq ((aft x).cut m)) ((w2.setCell ⟨p, 0, none⟩ v2).setCell ⟨p, 1, none⟩ (.slice none 0 0))) := by
          show Mq _ _ _ _ _
          rw [HCUT.out]
          exact Mq.trans HF1.out HS1.out hM
        clear hown b2 hM HFR hN
        subst e3
        go_wp2
        go_ret
        exact ⟨by rw [HC.out]; rfl, by rw [HC.out]; exact HM.out⟩
      · have y0 : ¬ (m : Int) < (NA : Int) := by have := HXS.out; omega
        have y0' : decide ((m : Int) < (NA : Int)) = false := decide_eq_false y0
        obtain ⟨j, hj⟩ : ∃ j, j = m - x.s := ⟨_, rfl⟩
        have hjn : (m : Int) - (NA : Int) = (j : Int) := by have := HXS.out; omega
        have hjT : j ≤ NT := by have := HXL.out; have := HXS.out; have := HSL.out; omega
        have HFR : Hid (Calls Tryd.prog 19 #[.slice ot j ct] w1.drew fun r' w' => ∃ v, r' = .returned v ∧ w'.ownsRow w1.drew.heap.size 5 1 v ((sq (aft x)).T.take j).length (((sq (aft x)).T.take j).map B) ∧ Below w1.drew.heap.size w1.drew w') := by
          refine fresh_any _ (.slice ot j ct) ((sq (aft x)).T.take j) ?_ (by rw [List.length_take]; omega)
          refine Rd.below (rd_take (l := (sq (aft x)).T) (c := ct) ?_ j (by omega) ct) (Below.refl _ _).drew
          rw [hT2]
          have := rd_own hL.tail
          rw [e2] at this
          exact this
        have HCUT : Hid (sq ((aft x).cut m) = ⟨(sq (aft x)).A, (sq (aft x)).T.take j, (aft x).r, (aft x).a, (aft x).d⟩) := by
          have := cut_more (aft x) m (by show x.s ≤ m; omega)
          rw [hj]
          exact this
        have y1 : (j : Int) ≤ (ct : Int) := by omega
        have y2 : (0 : Int) ≤ (j : Int) := by omega
        have hwr : IntKind.i64.wrap ((m : Int) - (NA : Int)) = (j : Int) := by rw [hjn, IntKind.wrap_i64]; omega
        clear hL hA2 hT2 hlt hj hjn
        subst e1 e2
        go_wp2_with fail
        go_region_law ((refine step_callsE (by rfl) (by simp [go_sem]) HFR.out ?_; rintro v2 w2 ⟨hown, b2⟩; have hb2 : Below w1.heap.size w1 w2 := (Below.refl _ _).drew.trans b2; obtain ⟨q1, f1, hM⟩ := HL.out.newT hb2 hown; obtain ⟨o', c', e3, _⟩ := own_slice hown; obtain ⟨N, hN⟩ : ∃ N, N = ((sq (aft x)).T.take j).length := ⟨_, rfl⟩; rw [← hN] at e3; have HM : Hid (Mq w p F (sq ((aft x).cut m)) (w2.setCell ⟨p, 1, none⟩ v2)) := (by show Mq _ _ _ _ _; rw [HCUT.out]; exact Mq.trans HF1.out HS1.out hM); clear hown b2 hb2 hM hN; subst e3))
        all_goals
          go_wp2
          go_ret
          exact ⟨by rw [HC.out]; rfl, by rw [HC.out]; exact HM.out⟩
end Go.Proofs.YtkamnkldgeaaaaaDoor.dr
