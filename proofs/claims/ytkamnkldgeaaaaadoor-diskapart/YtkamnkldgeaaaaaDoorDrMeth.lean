import Derived.Test.YtkamnkldgeaaaaaDoorDrSt
namespace Go.Proofs.YtkamnkldgeaaaaaDoor.dr
open Go.ChangeShapes Go.WideShapes Go.ChangeAt Go.RowKit Go.Proofs.YtkamnkldgeaaaaaDoor.common Go.Proofs.YtkamnkldgeaaaaaDoor.dk

theorem Dq.mem {w : World} {p : Nat} {F : List Nat} {x : Sq} (h : Dq w p F x) : p ∈ F := by
  obtain ⟨vs, vt, va, rfl, _⟩ := h
  exact fq_p _ _ _ _
theorem Dq.c3 {w : World} {p : Nat} {F : List Nat} {x : Sq} (h : Dq w p F x) : w.cell? ⟨p, 3, none⟩ = some (.bool x.d) := by
  obtain ⟨vs, vt, va, rfl, h⟩ := h
  exact cell_of h.cell 3
theorem Dq.stay {w : World} {p : Nat} {F : List Nat} {x : Sq} (h : Dq w p F x) {w' : World} (hb : Below w.heap.size w w') : Mq w p F x w' := ⟨F, h.below hb, Fr.of hb, fun _ hk => Or.inl hk⟩

set_option maxRecDepth 100000 in
set_option maxHeartbeats 1600000 in
theorem dcrash_any (w : World) (p : Nat) (F : List Nat) (x : St) (k : Int) (h : Dq w p F (sq x)) (hx : Fine x) :
    Calls Tryd.prog 39 #[ptr p, .int .i64 k] w fun r' w' => r' = .returned (.tuple #[]) ∧ Mq w p F (sq (x.crash k)) w' := by
  have c3 := h.c3
  have hsl := sq_len x hx.ok.syn
  have HF := hide (fail_any w p F (sq x) k h (by have := hx.ok.most; omega))
  rw [← fail_sq x k hx.ok.syn] at HF
  have HS := hide (h.stay (Below.refl _ _))
  have hd : (sq x).d = x.d := rfl
  rw [hd] at c3
  cases hxd : x.d with
  | true =>
    rw [hxd] at c3
    have HC : Hid (x.crash k = x) := by show _ = _; unfold St.crash; rw [hxd]; rfl
    clear h hsl hd hxd HF
    go_enter Tryd.func39, Tryd.ntmps39
    go_wp2
    go_end0
    exact ⟨rfl, by rw [HC.out]; exact HS.out⟩
  | false =>
    rw [hxd] at c3
    have HC : Hid (x.crash k = x.fail k) := by show _ = _; unfold St.crash; rw [hxd]; rfl
    clear h hsl hd hxd HS
    go_enter Tryd.func39, Tryd.ntmps39
    go_wp2_with fail
    refine HF.out.mono ?_
    rintro r' w1 ⟨rfl, hm⟩
    have HM := hide hm
    clear hm HF
    go_wp2
    go_end0
    exact ⟨rfl, by rw [HC.out]; exact HM.out⟩

set_option maxRecDepth 100000 in
set_option maxHeartbeats 1600000 in
theorem dlook_any (w : World) (p : Nat) (F : List Nat) (x : St) (h : Dq w p F (sq x)) (hx : Fine x) :
    Calls Tryd.prog 42 #[ptr p] w fun r' w' => ∃ v, r' = .returned (.tuple #[v, .int .i64 (x.s : Int)]) ∧ w'.ownsRow w.heap.size 5 1 v x.b.length (x.b.map B) ∧ Below w.heap.size w w' := by
  have hsl := sq_len x hx.ok.syn
  have HA := hide (all_any w p F (sq x) h (by have := hx.ok.most; omega))
  rw [sq_all] at HA
  obtain ⟨vs, vt, va, rfl, h⟩ := h
  obtain ⟨os, cs, e, _⟩ := own_slice h.safe
  rw [hsl.2] at e
  have hpl : p < w.heap.size := (Array.getElem?_eq_some_iff.1 h.cell).1
  have HH := hide h
  clear h hsl
  subst e
  go_enter Tryd.func42, Tryd.ntmps42
  go_wp2_with fail
  refine HA.out.mono ?_
  rintro r' w1 ⟨v, rfl, hown, b1⟩
  have c0 : w1.cell? ⟨p, 0, none⟩ = some (.slice os x.s cs) := cell_of ((b1.block p hpl).trans HH.out.cell) 0
  obtain ⟨o1, c1, rfl, _⟩ := own_slice hown
  have HO := hide hown
  have HB := hide b1
  clear hown b1 HA
  go_wp2_with fail
  go_quiet (fail)
  go_wp2
  go_ret2
  exact ⟨_, rfl, HO.out, bdN HB.out _⟩

set_option maxRecDepth 100000 in
set_option maxHeartbeats 3200000 in
theorem dsync_any (w : World) (p : Nat) (F : List Nat) (x : St) (h : Dq w p F (sq x)) (hx : Fine x) (hb : (x.a.length + 1) * 16 ≤ 140737488355328) :
    Calls Tryd.prog 35 #[ptr p] w fun r' w' => r' = .returned (.int .i64 (x.syncs.2 : Int)) ∧ Mq w p F (sq x.syncs.1) w' := by
  have c3 := h.c3
  have hd : (sq x).d = x.d := rfl
  rw [hd] at c3
  have hsl := sq_len x hx.ok.syn
  have hmost := hx.ok.most
  cases hxd : x.d with
  | true =>
    rw [hxd] at c3
    have HC : Hid (x.syncs = (x, 10)) := oper_dead x hxd _ _ _
    have HS := hide (h.stay (Below.refl _ _))
    clear h hsl hd hxd
    go_enter Tryd.func35, Tryd.ntmps35
    go_wp2
    go_ret
    exact ⟨by rw [HC.out]; rfl, by rw [HC.out]; exact HS.out⟩
  | false =>
    rw [hxd] at c3
    have HD := hide (dies_any w p F x h hxd hb hx)
    have HC : Hid (x.syncs = if dyB x.a then ((aft x).fail (dyK x.a), 10) else ((aft x).sync, 0)) := oper_is x hxd id St.sync 0
    have hsa : (aft x).s ≤ (aft x).b.length := hx.ok.syn
    have hsl2 := sq_len (aft x) hsa
    have hab : (aft x).b = x.b := rfl
    rw [hab] at hsl2
    have HSA := hide hsa
    clear h hd hxd hsl hsa hab
    cases hdy : dyB x.a with
    | true =>
      rw [hdy] at HD HC
      clear hdy
      go_enter Tryd.func35, Tryd.ntmps35
      go_wp2_with fail
      refine HD.out.mono ?_
      rintro r' w1 ⟨rfl, F1, hD1, hf1, hs1⟩
      have HFA := hide (fail_any w1 p F1 (sq (aft x)) (dyK x.a) hD1 (by omega))
      rw [← fail_sq _ _ HSA.out] at HFA
      have HF1 := hide hf1
      have HS1 := hide hs1
      clear hD1 hf1 hs1 HD
      go_wp2_with fail
      refine HFA.out.mono ?_
      rintro r' w2 ⟨rfl, hm⟩
      have HM := hide (Mq.trans HF1.out HS1.out hm)
      clear hm HFA
      go_wp2
      go_ret
      exact ⟨by rw [HC.out]; rfl, by rw [HC.out]; exact HM.out⟩
    | false =>
      rw [hdy] at HD HC
      clear hdy
      go_enter Tryd.func35, Tryd.ntmps35
      go_wp2_with fail
      refine HD.out.mono ?_
      rintro r' w1 ⟨rfl, F1, hD1, hf1, hs1⟩
      obtain ⟨vs, vt, va, rfl, hL⟩ := hD1
      have b1d : Below w1.heap.size w1 w1.drew := (Below.refl _ _).drew
      obtain ⟨os, cs, e1, _⟩ := own_slice hL.safe
      obtain ⟨ot, ct, e2, _⟩ := own_slice hL.tail
      obtain ⟨v', W', hrun, hown, hfr, hat⟩ := append_rd w1.drew 0 vs (sq (aft x)).A (own_below hL.safe b1d) ot ct (sq (aft x)).T (by
        have := (rd_own hL.tail).below b1d
        rw [e2] at this
        exact this) (by omega) (Nat.zero_le _)
      obtain ⟨q0, f0, q1, hL', hfr', hat'⟩ := hL.growS b1d hown hfr hat
      have c0 : w1.cell? ⟨p, 0, none⟩ = some vs := cell_of hL.cell 0
      have c1 : w1.cell? ⟨p, 1, none⟩ = some vt := cell_of hL.cell 1
      have y1 : (W'.setCell ⟨p, 0, none⟩ v').cell? ⟨p, 1, none⟩ = some vt := cell_of hL'.cell 1
      have g1 : (W'.setCell ⟨p, 0, none⟩ v').frozen? ⟨p, 1, none⟩ = false := free_of hL'.cell 1
      have HM : Hid (Mq w p F (sq (aft x).sync) ((W'.setCell ⟨p, 0, none⟩ v').setCell ⟨p, 1, none⟩ (.slice none 0 0))) := by
        show Mq _ _ _ _ _
        rw [sync_sq]
        refine Mq.trans hf1 hs1 ⟨fq p v' (.slice none 0 0) va, ⟨v', _, va, rfl, hL'.set (y := ⟨(sq (aft x)).A ++ (sq (aft x)).T, [], (aft x).r, (aft x).a, (aft x).d⟩) (dq_set1 hL'.cell _) (fun i hi => set_other _ _ _ _ hi) hL'.safe (World.ownsRow_nil _ _ _ _) hL'.arms (fun b _ hb => by cases hb)⟩, hfr'.set ⟨p, 1, none⟩ _ (Or.inl (fq_p _ _ _ _)), fun i hi => ?_⟩
        rcases fq_cases hi with rfl | h5 | h5 | h5
        · exact Or.inl (fq_p _ _ _ _)
        · rcases hat' with e | ⟨g', e, hg'⟩
          · exact Or.inl (fq_s (e ▸ h5))
          · rw [e] at h5; cases h5; exact Or.inr hg'
        · cases h5
        · exact Or.inl (fq_a h5)
      obtain ⟨o', c', e3, _⟩ := own_slice hown
      obtain ⟨N1, hN1⟩ : ∃ N, N = (sq (aft x)).A.length := ⟨_, rfl⟩
      obtain ⟨N2, hN2⟩ : ∃ N, N = (sq (aft x)).T.length := ⟨_, rfl⟩
      obtain ⟨N3, hN3⟩ : ∃ N, N = ((sq (aft x)).A ++ (sq (aft x)).T).length := ⟨_, rfl⟩
      rw [← hN1] at e1
      rw [← hN2] at e2 hrun
      rw [← hN3] at e3
      clear hL hown hfr hat hL' hfr' hat' hf1 hs1 b1d HD hN1 hN2 hN3 hsl2
      subst e1 e2 e3
      go_wp2_with fail
      go_region_law ((refine step_append_runR rfl _ _ 25 25 rfl _ _ rfl rfl _ _ hrun ?_))
      all_goals
        go_wp2
        go_ret
        exact ⟨by rw [HC.out]; rfl, by rw [HC.out]; exact HM.out⟩

set_option maxRecDepth 100000 in
set_option maxHeartbeats 3200000 in
theorem dread_any (w : World) (p : Nat) (F : List Nat) (x : St) (h : Dq w p F (sq x)) (hx : Fine x) (hb : (x.a.length + 1) * 16 ≤ 140737488355328) :
    Calls Tryd.prog 36 #[ptr p] w fun r' w' => ∃ v F', r' = .returned (.tuple #[v, .int .i64 (x.reads.2 : Int)]) ∧ w'.ownsRow w.heap.size 5 1 v x.readL.length (x.readL.map B) ∧ (∀ b, v.ownBlock = some b → b ∉ F') ∧ Dq w' p F' (sq x.reads.1) ∧ Fr F w w' ∧ ∀ k ∈ F', k ∈ F ∨ w.heap.size ≤ k := by
  have c3 := h.c3
  have hd : (sq x).d = x.d := rfl
  rw [hd] at c3
  have hmost := hx.ok.most
  cases hxd : x.d with
  | true =>
    rw [hxd] at c3
    have HC : Hid (x.reads = (x, 10)) := oper_dead x hxd _ _ _
    have HL : Hid (x.readL = []) := by show _ = _; unfold St.readL; rw [HC.out]; rfl
    have HS := hide h
    clear h hd hxd
    go_enter Tryd.func36, Tryd.ntmps36
    go_wp2
    go_ret2
    exact ⟨.slice none 0 0, F, by rw [HC.out]; rfl, by rw [HL.out]; exact World.ownsRow_nil _ _ _ _, fun b hb => (by cases hb), by rw [HC.out]; exact HS.out, Fr.refl _ _, fun _ hk => Or.inl hk⟩
  | false =>
    rw [hxd] at c3
    have HD := hide (dies_any w p F x h hxd hb hx)
    have HC : Hid (x.reads = if dyB x.a then ((aft x).fail (dyK x.a), 10) else (aft x, 0)) := oper_is x hxd id id 0
    have hsa : (aft x).s ≤ (aft x).b.length := hx.ok.syn
    have hsl2 := sq_len (aft x) hsa
    have hab : (aft x).b = x.b := rfl
    rw [hab] at hsl2
    have HSA := hide hsa
    clear h hd hxd hsa hab
    cases hdy : dyB x.a with
    | true =>
      rw [hdy] at HD HC
      have HL : Hid (x.readL = []) := by show _ = _; unfold St.readL; rw [HC.out]; rfl
      clear hdy
      go_enter Tryd.func36, Tryd.ntmps36
      go_wp2_with fail
      refine HD.out.mono ?_
      rintro r' w1 ⟨rfl, F1, hD1, hf1, hs1⟩
      have HFA := hide (fail_any w1 p F1 (sq (aft x)) (dyK x.a) hD1 (by omega))
      rw [← fail_sq _ _ HSA.out] at HFA
      have HF1 := hide hf1
      have HS1 := hide hs1
      clear hD1 hf1 hs1 HD
      go_wp2_with fail
      refine HFA.out.mono ?_
      rintro r' w2 ⟨rfl, hm⟩
      have HM := hide (Mq.trans HF1.out HS1.out hm)
      clear hm HFA
      go_wp2
      go_ret2
      obtain ⟨F9, m1, m2, m3⟩ := HM.out
      exact ⟨.slice none 0 0, F9, by rw [HC.out]; rfl, by rw [HL.out]; exact World.ownsRow_nil _ _ _ _, fun b hb => (by cases hb), by rw [HC.out]; exact m1, m2, m3⟩
    | false =>
      rw [hdy] at HD HC
      have HL : Hid (x.readL = x.b) := by show _ = _; unfold St.readL; rw [HC.out]; rfl
      clear hdy
      go_enter Tryd.func36, Tryd.ntmps36
      go_wp2_with fail
      refine HD.out.mono ?_
      rintro r' w1 ⟨rfl, F1, hD1, hf1, hs1⟩
      have HAL := hide (all_any w1 p F1 (sq (aft x)) hD1 (by omega))
      rw [sq_all] at HAL
      have HF1 := hide hf1
      have HS1 := hide hs1
      have HD1 := hide hD1
      clear hD1 hf1 hs1 HD
      go_wp2_with fail
      refine HAL.out.mono ?_
      rintro r' w2 ⟨v, rfl, hown, b2⟩
      have HO : Hid (w2.ownsRow w1.heap.size 5 1 v x.b.length (x.b.map B)) := hown
      have hsz := HF1.out.size
      obtain ⟨o1, c1, rfl, _⟩ := own_slice hown
      have HB2 := hide b2
      have hbl : (aft x).b = x.b := rfl
      rw [hbl]
      clear hown b2 HAL
      go_wp2
      go_ret2
      refine ⟨_, F1, by rw [HC.out]; rfl, by rw [HL.out]; exact own_mono2 HO.out hsz, fun b hb hm => ?_, by rw [HC.out]; exact HD1.out.below HB2.out, HF1.out.next HB2.out, HS1.out⟩
      have h5 := own_ge HO.out b hb
      have h6 := HD1.out.lt b hm
      omega
end Go.Proofs.YtkamnkldgeaaaaaDoor.dr
