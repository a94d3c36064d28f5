import Derived.Test.YtkamnkldgeaaaaaDoorDrOps
namespace Go.Proofs.YtkamnkldgeaaaaaDoor.dr
open Go.ChangeShapes Go.WideShapes Go.ChangeAt Go.RowKit Go.Proofs.YtkamnkldgeaaaaaDoor.common Go.Proofs.YtkamnkldgeaaaaaDoor.dk

/-- an append as a step of a region that draws its order -/
theorem step_append_runR {P : Program} {ops : Array Oper} {o : Oper} {a : Act} {w : World} {K : Act → World → Prop} {Q : Exit → Act → World → Prop} {E : Prop} (hgd : o.guard = none) (s x : Operand) (t tx : TypeId)
    (ho : o.op = .call { callee := .builtin .append, args := #[s, x], argTypes := #[t, tx] }) (vs vx : Value) (hs : a.eval s = vs) (hx : a.eval x = vx) (v' : Value) (w' : World)
    (hr : (Builtin.append_ #[t, tx] o.type #[vs, vx]).run P w = .ok v' w') (h : K (a.put o.dst v') w') : if Region.wanted o (yielded ops a.tmps) = true then Oper.wp P o a w K Q else E := by
  have hw : Region.wanted o (yielded ops a.tmps) = true := by simp [Region.wanted, hgd]
  rw [if_pos hw]
  unfold Oper.wp execOp
  simp only [ho, resolve, invoke, builtin, Sem.run_bind, Sem.run_pure, Result.andThen_ok, List.map_toArray, List.map_cons, List.map_nil, hs, hx, hr]
  exact h
def Sq.fail (x : Sq) (k : Int) : Sq := ⟨x.A ++ x.T.take k.toNat, [], x.r, x.a, true⟩
theorem New_one (w : World) (c : UInt8) : Rd ((w.alloc (.cells #[B c] 5)).drew) (.slice (some ⟨w.heap.size, 0, none⟩) 1 1) [c] := by
  have h : Nw (w.alloc (.cells #[B c] 5)).drew w.heap.size [c] := heap_alloc_new w _
  exact h.rd 1
set_option maxRecDepth 100000 in
/-- the row of what lasts is grown, the value goes into its cell -/
theorem Lq.growS {w W W' : World} {p : Nat} {vs vt va v' : Value} {x : Sq} {l : List UInt8} (h : Lq w p vs vt va x) (hb : Below w.heap.size w W) (ho : W'.ownsRow 0 5 1 v' l.length (l.map B)) (hf : Fr vs.ownBlock.toList W W') (hat : v'.ownBlock = vs.ownBlock ∨ ∃ g, v'.ownBlock = some g ∧ W.heap.size ≤ g) :
    W'.cell? ⟨p, 0, none⟩ = some vs ∧ W'.frozen? ⟨p, 0, none⟩ = false ∧ W'.cell? ⟨p, 1, none⟩ = some vt ∧ Lq (W'.setCell ⟨p, 0, none⟩ v') p v' vt va ⟨l, x.T, x.r, x.a, x.d⟩ ∧ Fr (fq p vs vt va) w (W'.setCell ⟨p, 0, none⟩ v') ∧ (v'.ownBlock = vs.ownBlock ∨ ∃ g, v'.ownBlock = some g ∧ w.heap.size ≤ g) := by
  have ha := h.apt
  have hpl : p < w.heap.size := (Array.getElem?_eq_some_iff.1 h.cell).1
  have hfr : Fr vs.ownBlock.toList w W' := (Fr.of hb).trans hf (fun i hi => Or.inl hi)
  have hc : W'.heap[p]? = some (.cells (dqc vs vt x.r x.d va) 58) := (hfr.block p hpl (fun hm => ha.ps p (by simpa using hm) rfl)).trans h.cell
  have ht : W'.ownsRow 0 5 1 vt x.T.length (x.T.map B) := own_keepK h.tail fun g hg => hfr.block g (own_at h.tail g hg).1 (fun hm => h.sep g (by simpa using hm) hg)
  have hr : W'.ownsRow 0 77 2 va x.a.length (acs x.a) := own_keepK h.arms fun g hg => hfr.block g (own_at h.arms g hg).1 (fun hm => ha.sa g (by simpa using hm) hg)
  have hat' : v'.ownBlock = vs.ownBlock ∨ ∃ g, v'.ownBlock = some g ∧ w.heap.size ≤ g := by
    rcases hat with e | ⟨g, e, hg⟩
    · exact Or.inl e
    · exact Or.inr ⟨g, e, Nat.le_trans hb.size hg⟩
  have hs' : ∀ b, v'.ownBlock = some b → vt.ownBlock ≠ some b := fun b hv hb => by
    rcases hat' with e | ⟨g, e, hg⟩
    · exact h.sep b (e ▸ hv) hb
    · rw [e] at hv
      cases hv
      have := (own_at h.tail _ hb).1
      omega
  have hL : Lq W' p vs vt va ⟨x.A, x.T, x.r, x.a, x.d⟩ ∨ True := Or.inr trivial
  refine ⟨cell_of hc 0, free_of hc 0, cell_of hc 1, ⟨set_of hc 0 _, own_keepK ho fun g hg => set_other _ _ _ _ ?_, own_keepK ht fun g hg => set_other _ _ _ _ ?_, own_keepK hr fun g hg => set_other _ _ _ _ ?_, hs'⟩, (hfr.mono fun k hk => fq_s (by simpa using hk)).set ⟨p, 0, none⟩ _ (Or.inl (fq_p _ _ _ _)), hat'⟩
  · show g ≠ p
    rcases hat' with e | ⟨g', e, hg'⟩
    · exact ha.ps g (e ▸ hg)
    · rw [e] at hg; cases hg; omega
  · exact ha.pt g hg
  · exact ha.pa g hg

theorem dq_set1 {w : World} {p : Nat} {vs vt va : Value} {r : Nat} {d : Bool} (h : w.heap[p]? = some (.cells (dqc vs vt r d va) 58)) (v : Value) : (w.setCell ⟨p, 1, none⟩ v).heap[p]? = some (.cells (dqc vs v r d va) 58) := set_of h 1 v
theorem dq_set3 {w : World} {p : Nat} {vs vt va : Value} {r : Nat} {d : Bool} (h : w.heap[p]? = some (.cells (dqc vs vt r d va) 58)) (b : Bool) : (w.setCell ⟨p, 3, none⟩ (.bool b)).heap[p]? = some (.cells (dqc vs vt r b va) 58) := set_of h 3 _
theorem dq_set4 {w : World} {p : Nat} {vs vt va : Value} {r : Nat} {d : Bool} (h : w.heap[p]? = some (.cells (dqc vs vt r d va) 58)) (v : Value) : (w.setCell ⟨p, 4, none⟩ v).heap[p]? = some (.cells (dqc vs vt r d v) 58) := set_of h 4 v
set_option maxRecDepth 100000 in
/-- the tail is let go, the disk is dead -/
theorem Lq.end {w0 w : World} {p : Nat} {vs vt va : Value} {x : Sq} {F : List Nat} (h : Lq w p vs vt va x) (hf : Fr F w0 w) (hF : ∀ k ∈ fq p vs vt va, k ∈ F ∨ w0.heap.size ≤ k) :
    w.frozen? ⟨p, 1, none⟩ = false ∧ (w.setCell ⟨p, 1, none⟩ (.slice none 0 0)).cell? ⟨p, 3, none⟩ = some (.bool x.d) ∧ (w.setCell ⟨p, 1, none⟩ (.slice none 0 0)).frozen? ⟨p, 3, none⟩ = false ∧ Mq w0 p F ⟨x.A, [], x.r, x.a, true⟩ ((w.setCell ⟨p, 1, none⟩ (.slice none 0 0)).setCell ⟨p, 3, none⟩ (.bool true)) := by
  have h1 := dq_set1 h.cell (.slice none 0 0)
  have hp := hF p (fq_p _ _ _ _)
  refine ⟨free_of h.cell 1, cell_of h1 3, free_of h1 3, fq p vs (.slice none 0 0) va, ⟨vs, _, va, rfl, h.set (dq_set3 h1 true) (fun k hk => ?_) h.safe (World.ownsRow_nil _ _ _ _) h.arms (fun b _ hb => by cases hb)⟩, (hf.set ⟨p, 1, none⟩ _ hp).set ⟨p, 3, none⟩ _ hp, fun k hk => ?_⟩
  · rw [set_other _ _ _ _ hk, set_other _ _ _ _ hk]
  · rcases fq_cases hk with rfl | h5 | h5 | h5
    · exact hp
    · exact hF k (fq_s h5)
    · cases h5
    · exact hF k (fq_a h5)

set_option maxRecDepth 100000 in
set_option maxHeartbeats 3200000 in
theorem fail_any (w : World) (p : Nat) (F : List Nat) (x : Sq) (k : Int) (h : Dq w p F x) (hA : x.A.length + x.T.length ≤ 140737488355328) :
    Calls Tryd.prog 26 #[ptr p, .int .i64 k] w fun r' w' => r' = .returned (.tuple #[]) ∧ Mq w p F (x.fail k) w' := by
  obtain ⟨vs0, vt, va, rfl, h⟩ := h
  obtain ⟨ot, ct, e2, _⟩ := own_slice h.tail
  have HRT : Hid (∀ b, vt.ownBlock = some b → b < w.heap.size) := fun b hb => (own_at h.tail b hb).1
  subst e2
  have HH := hide h
  clear h
  go_enter Tryd.func26, Tryd.ntmps26
  go_wp2
  go_loopw [4] (fun i wr => ∃ (j : Nat) (vs : Value), j ≤ x.T.length ∧ j ≤ k.toNat ∧ i = .int .i64 j ∧ Hid (Lq wr p vs (.slice ot x.T.length ct) va ⟨x.A ++ x.T.take j, x.T, x.r, x.a, x.d⟩ ∧ Fr (fq p vs0 (.slice ot x.T.length ct) va) w wr ∧ (vs.ownBlock = vs0.ownBlock ∨ ∃ g, vs.ownBlock = some g ∧ w.heap.size ≤ g))) (fun i _ => x.T.length - (intOf i).toNat)
  case atStart => exact ⟨0, vs0, Nat.zero_le _, Nat.zero_le _, rfl, by rw [List.take_zero, List.append_nil]; exact HH.out, Fr.refl _ _, Or.inl rfl⟩
  case round =>
    obtain ⟨j, vs, hj, hjk, rfl, HS⟩ := hrel
    have hL := HS.out.1
    have c1 : wr.cell? ⟨p, 1, none⟩ = some (.slice ot x.T.length ct) := cell_of hL.cell 1
    by_cases hlt : j < x.T.length
    · by_cases hlk : (j : Int) < k
      · have z1 : decide ((j : Int) < (x.T.length : Int)) = true := by rw [decide_eq_true_eq]; omega
        have z1' : (j : Int) < (x.T.length : Int) := by omega
        have z2 : decide ((j : Int) < k) = true := decide_eq_true hlk
        have z0 : (0 : Int) ≤ (j : Int) := Int.natCast_nonneg _
        obtain ⟨gt, o1, rfl, h1⟩ := (rd_own hL.tail).cell (by show 0 < x.T.length; omega)
        have t1 : wr.cell? ⟨gt, o1 + j, none⟩ = some (B x.T[j]) := h1 j hlt
        have hgt : gt < wr.heap.size := World.block_lt_of_cell? _ _ t1
        have hpl : p < wr.heap.size := (Array.getElem?_eq_some_iff.1 hL.cell).1
        have HSN := hide (take_snocL x.T j hlt)
        generalize x.T[j] = c at *
        have b1 : Below wr.heap.size wr (wr.alloc (.cells #[B c] 5)) := (Below.refl _ _).alloc (Nat.le_refl _) _
        have b1d : Below wr.heap.size wr (wr.alloc (.cells #[B c] 5)).drew := b1.drew
        have c0 : wr.cell? ⟨p, 0, none⟩ = some vs := cell_of hL.cell 0
        have c0a : (wr.alloc (.cells #[B c] 5)).cell? ⟨p, 0, none⟩ = some vs := cell_of ((b1.block p hpl).trans hL.cell) 0
        have c1a : (wr.alloc (.cells #[B c] 5)).cell? ⟨p, 1, none⟩ = some (.slice (some ⟨gt, o1, none⟩) x.T.length ct) := cell_of ((b1.block p hpl).trans hL.cell) 1
        have t1a : (wr.alloc (.cells #[B c] 5)).cell? ⟨gt, o1 + j, none⟩ = some (B c) := by rw [World.cell?_of_block (b1.block gt hgt)]; exact t1
        have hlen : (x.A ++ x.T.take j).length ≤ 140737488355328 := by rw [List.length_append, List.length_take]; omega
        obtain ⟨v', W', hrun, hown, hfr, hat⟩ := append_rd _ 0 vs (x.A ++ x.T.take j) (own_below hL.safe b1d) (some ⟨wr.heap.size, 0, none⟩) 1 [c] (New_one wr c) (by show _ + 1 ≤ _; omega) (Nat.zero_le _)
        obtain ⟨q0, f0, _, hL', hfr', hat'⟩ := hL.growS b1d hown hfr hat
        have HL' : Hid (Lq (W'.setCell ⟨p, 0, none⟩ v') p v' (.slice (some ⟨gt, o1, none⟩) x.T.length ct) va ⟨x.A ++ x.T.take (j + 1), x.T, x.r, x.a, x.d⟩) := by
          show Lq _ _ _ _ _ _
          rw [HSN.out, ← List.append_assoc]
          exact hL'
        have HF' : Hid (Fr (fq p vs0 (.slice (some ⟨gt, o1, none⟩) x.T.length ct) va) w (W'.setCell ⟨p, 0, none⟩ v')) := HS.out.2.1.trans hfr' (fun i hi => by
          rcases fq_cases hi with rfl | h5 | h5 | h5
          · exact Or.inl (fq_p _ _ _ _)
          · rcases HS.out.2.2 with e | ⟨g, e, hg⟩
            · exact Or.inl (fq_s (e ▸ h5))
            · rw [e] at h5; cases h5; exact Or.inr hg
          · exact Or.inl (fq_t h5)
          · exact Or.inl (fq_a h5))
        have HA' : Hid (v'.ownBlock = vs0.ownBlock ∨ ∃ g, v'.ownBlock = some g ∧ w.heap.size ≤ g) := by
          rcases hat' with e | ⟨g, e, hg⟩
          · rcases HS.out.2.2 with e2 | ⟨g, e2, hg⟩
            · exact Or.inl (e.trans e2)
            · exact Or.inr ⟨g, e.trans e2, hg⟩
          · exact Or.inr ⟨g, e, Nat.le_trans HS.out.2.1.size hg⟩
        obtain ⟨os, cs, e1, _⟩ := own_slice hL.safe
        obtain ⟨o', c', e3, _⟩ := own_slice hown
        obtain ⟨N, hN⟩ : ∃ N, N = (x.A ++ x.T.take j).length := ⟨_, rfl⟩
        obtain ⟨N', hN'⟩ : ∃ N, N = (x.A ++ x.T.take j ++ [c]).length := ⟨_, rfl⟩
        have e1' : vs = .slice os N cs := by rw [hN]; exact e1
        rw [← hN'] at e3
        clear hL hown hfr hat hL' hfr' hat' h1 b1 b1d hlen HS e1 hN hN' HSN HRT
        subst e1' e3
        go_wp2_with fail
        go_region_law ((refine step_append_runR rfl _ _ 25 25 rfl _ _ rfl rfl _ _ hrun ?_))
        all_goals
          go_wp2
          go_roundw
          case rel => exact ⟨j + 1, _, by omega, by omega, by go_num, HL'.out, HF'.out, HA'.out⟩
          case measure => simp [intOf]; omega
      · have z1 : decide ((j : Int) < (x.T.length : Int)) = true := by rw [decide_eq_true_eq]; omega
        have z1' : (j : Int) < (x.T.length : Int) := by omega
        have z2 : decide ((j : Int) < k) = false := decide_eq_false hlk
        have hF9 : ∀ i ∈ fq p vs (.slice ot x.T.length ct) va, i ∈ fq p vs0 (.slice ot x.T.length ct) va ∨ w.heap.size ≤ i := fun i hi => by
          rcases fq_cases hi with rfl | h5 | h5 | h5
          · exact Or.inl (fq_p _ _ _ _)
          · rcases HS.out.2.2 with e | ⟨g, e, hg⟩
            · exact Or.inl (fq_s (e ▸ h5))
            · rw [e] at h5; cases h5; exact Or.inr hg
          · exact Or.inl (fq_t h5)
          · exact Or.inl (fq_a h5)
        obtain ⟨f1, q3, f3, hM⟩ := hL.end HS.out.2.1 hF9
        have HM : Hid (Mq w p (fq p vs0 (.slice ot x.T.length ct) va) (x.fail k) ((wr.setCell ⟨p, 1, none⟩ (.slice none 0 0)).setCell ⟨p, 3, none⟩ (.bool true))) := by
          have e5 : x.T.take j = x.T.take k.toNat := congrArg (fun n => x.T.take n) (by omega)
          show Mq _ _ _ _ _
          unfold Sq.fail
          rw [← e5]
          exact hM
        clear hL hM hF9 HS HRT HH
        go_wp2
        go_end0
        exact ⟨rfl, HM.out⟩
    · have z1 : decide ((j : Int) < (x.T.length : Int)) = false := by rw [decide_eq_false_iff_not]; omega
      have z1' : ¬ (j : Int) < (x.T.length : Int) := by omega
      have hF9 : ∀ i ∈ fq p vs (.slice ot x.T.length ct) va, i ∈ fq p vs0 (.slice ot x.T.length ct) va ∨ w.heap.size ≤ i := fun i hi => by
        rcases fq_cases hi with rfl | h5 | h5 | h5
        · exact Or.inl (fq_p _ _ _ _)
        · rcases HS.out.2.2 with e | ⟨g, e, hg⟩
          · exact Or.inl (fq_s (e ▸ h5))
          · rw [e] at h5; cases h5; exact Or.inr hg
        · exact Or.inl (fq_t h5)
        · exact Or.inl (fq_a h5)
      obtain ⟨f1, q3, f3, hM⟩ := hL.end HS.out.2.1 hF9
      have HM : Hid (Mq w p (fq p vs0 (.slice ot x.T.length ct) va) (x.fail k) ((wr.setCell ⟨p, 1, none⟩ (.slice none 0 0)).setCell ⟨p, 3, none⟩ (.bool true))) := by
        have e5 : x.T.take j = x.T.take k.toNat := by rw [List.take_of_length_le (by omega), List.take_of_length_le (by omega)]
        show Mq _ _ _ _ _
        unfold Sq.fail
        rw [← e5]
        exact hM
      clear hL hM hF9 HS HRT HH
      go_wp2
      go_end0
      exact ⟨rfl, HM.out⟩
end Go.Proofs.YtkamnkldgeaaaaaDoor.dr
