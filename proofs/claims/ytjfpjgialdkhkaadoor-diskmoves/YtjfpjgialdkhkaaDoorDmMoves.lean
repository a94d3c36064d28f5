import Derived.Test.YtjfpjgialdkhkaaDoorDmMv1
import Derived.Test.YtjfpjgialdkhkaaDoorDmMv2
namespace Go.Proofs.YtjfpjgialdkhkaaDoor.dk
open Go.ChangeShapes Go.WideShapes Go.ChangeAt Go.RowKit Go.Proofs.YtjfpjgialdkhkaaDoor.common

theorem fail_of (Y : St) (hY : Y.s ≤ Y.b.length) (k : Int) : (Y.fail k).d = true ∧ (Y.fail k).s = (Y.fail k).b.length ∧ Y.s ≤ (Y.fail k).b.length ∧ (Y.fail k).b.length ≤ Y.b.length ∧ (Y.fail k).b = Y.b.take (Y.fail k).b.length ∧ (Y.fail k).a = Y.a := by
  obtain ⟨h1, h2⟩ := St.left_le Y k hY
  have hl : (Y.fail k).b.length = Y.left k := by show (Y.b.take (Y.left k)).length = _; rw [List.length_take]; omega
  exact ⟨rfl, hl.symm, by rw [hl]; exact h1, by rw [hl]; exact h2, by rw [hl]; rfl, rfl⟩
theorem op_four {s : Sp} (ho : opB s = true) : s.k = 1 ∨ s.k = 2 ∨ s.k = 3 ∨ s.k = 4 := by
  unfold opB at ho
  simp at ho
  omega
theorem step_dead (x : St) (s : Sp) (hd : x.d = true) (ho : opB s = true) : x.step s = (x, ⟨[], 0, 10⟩) := by
  have hop : ∀ dying on err, x.oper dying on err = (x, 10) := fun dying on err => by unfold St.oper; rw [if_pos hd]
  rcases op_four ho with hk | hk | hk | hk
  · unfold St.step; rw [if_pos hk]; unfold St.append; rw [hop]
  · unfold St.step; rw [if_neg (by omega), if_pos hk]; unfold St.syncs; rw [hop]
  · unfold St.step; rw [if_neg (by omega), if_neg (by omega), if_pos hk]; unfold St.readL St.reads; rw [hop]; rfl
  · unfold St.step; rw [if_neg (by omega), if_neg (by omega), if_neg (by omega), if_pos hk]; unfold St.trunc; rw [hd, hop]; rfl

theorem mv_died {base : Nat} {w : World} {e : Nat → Addr} {p : Nat} {F : List Nat} {x : St} {j : Nat} (h : Run base w e p F x j) (hj : (j + 1) * 16 ≤ 140737488355328) (hj2 : (j + 1 + 1) * 16 ≤ 140737488355328) (s : Sp) (ht : s.t.size ≤ reachBytes) (h1 : s.n ≤ 9223372036854775807) (h2 : -9223372036854775808 ≤ s.m) (h3 : s.m ≤ 9223372036854775807) (hd : x.d = false) (ho : opB s = true)
    (Y : St) (kk : Int) (hst : x.step s = (Y.fail kk, ⟨[], 0, 10⟩)) (hYs : Y.s = x.s) (hYa : Y.a.length + 1 = x.a.length) (hYb : (s.k = 1 ∧ x.b.length + s.t.size ≤ x.r ∧ Y.b = x.b ++ s.t.data.toList) ∨ ((s.k = 1 → x.r < x.b.length + s.t.size) ∧ Y.b = x.b)) :
    Calls Tryd.prog 12 #[ptr p, spv s, .int .i64 (x.r : Int), .int .i64 (x.a.length : Int)] w fun r' w' => Mvd base w e p F (Y.fail kk) j r' w' := by
  have hsy := h.fine.ok.syn
  have hrm := h.fine.ok.room
  have hmo := h.fine.ok.most
  have hYl : Y.s ≤ Y.b.length := by
    rcases hYb with ⟨_, _, q⟩ | ⟨_, q⟩ <;> rw [q, hYs]
    · rw [List.length_append]; omega
    · exact hsy
  obtain ⟨f1, f2, f3, f4, f5, f6⟩ := fail_of Y hYl kk
  have hn : (x.a.length : Int) = ((Y.fail kk).a.length : Int) + 1 := by rw [f6]; omega
  have hrb : s.t.size ≤ 140737488355328 := by unfold reachBytes at ht; omega
  rw [hn]
  refine moves_died h hj hj2 s ht h1 h2 h3 _ 0 hst hd ho (fun Z F' ow cw og cg on cn hD hw hn => ?_)
  rcases hYb with ⟨q1, q2, q3⟩ | ⟨q1, q2⟩
  · exact died_fit Z p F' _ hD f1 f2 x (by rw [← hYs]; exact f3) hrm (by omega) s q1 q2 ow cw hw og cg 0 10 on cn hn (by rw [← q3]; exact f4) (by rw [← q3]; exact f5)
  · exact died_not Z p F' _ hD f1 f2 x (by rw [← hYs]; exact f3) hrm (by omega) s hrb q1 ow cw hw og cg 0 10 on cn hn (by rw [← q2]; exact f4) (by rw [← q2]; exact f5)

theorem moves_any {base : Nat} {w : World} {e : Nat → Addr} {p : Nat} {F : List Nat} {x : St} {j : Nat} (h : Run base w e p F x j) (hj : (j + 1) * 16 ≤ 140737488355328) (hj2 : (j + 1 + 1) * 16 ≤ 140737488355328) (s : Sp) (ht : s.t.size ≤ reachBytes) (h1 : s.n ≤ 9223372036854775807) (h2 : -9223372036854775808 ≤ s.m) (h3 : s.m ≤ 9223372036854775807) :
    Calls Tryd.prog 12 #[ptr p, spv s, .int .i64 (x.r : Int), .int .i64 (x.a.length : Int)] w fun r' w' => Mvd base w e p F (x.step s).1 j r' w' := by
  have hsy := h.fine.ok.syn
  have hrm := h.fine.ok.room
  have hmo := h.fine.ok.most
  have hts : s.t.data.toList.length = s.t.size := by rw [Array.length_toList]; rfl
  have hrb : s.t.size ≤ 140737488355328 := by unfold reachBytes at ht; omega
  have hm' : x.b.length ≤ 140737488355328 := by omega
  cases ho : opB s with
  | true =>
    cases hd : x.d with
    | true =>
      have hst := step_dead x s hd ho
      rw [hst]
      exact moves_opdead h hj hj2 s ht h1 h2 h3 x hst rfl rfl hd ho hd rfl
    | false =>
      rcases op_four ho with hk | hk | hk | hk
      · have hst : x.step s = ((x.append s.t.data.toList).1, ⟨[], 0, (x.append s.t.data.toList).2⟩) := by unfold St.step; rw [if_pos hk]
        have hfi : x.fits s.t.data.toList = decide (x.b.length + s.t.size ≤ x.r) := by unfold St.fits; rw [hts]
        rcases oper_three x (fun y => y.put s.t.data.toList) (fun y => y.put s.t.data.toList) (if x.fits s.t.data.toList then 0 else 9) hd with ⟨kk, r, ha, e1⟩ | ⟨a', hl, e1⟩
        · have e2 : x.append s.t.data.toList = ((St.put ⟨x.b, x.s, x.r, r, false⟩ s.t.data.toList).fail kk, 10) := e1
          rw [e2] at hst
          dsimp only at hst
          rw [hst]
          refine mv_died h hj hj2 s ht h1 h2 h3 hd ho _ kk hst ?_ ?_ ?_
          · unfold St.put; split <;> rfl
          · rw [ha]; unfold St.put; split <;> rfl
          · by_cases hf : x.b.length + s.t.size ≤ x.r
            · refine Or.inl ⟨hk, hf, ?_⟩
              unfold St.put St.fits
              rw [if_pos (by simpa [hts] using hf)]
            · refine Or.inr ⟨fun _ => by omega, ?_⟩
              unfold St.put St.fits
              rw [if_neg (by simpa [hts] using hf)]
        · have e2 : x.append s.t.data.toList = (St.put ⟨x.b, x.s, x.r, a', false⟩ s.t.data.toList, if x.fits s.t.data.toList then 0 else 9) := e1
          rw [e2] at hst
          dsimp only at hst
          by_cases hf : x.b.length + s.t.size ≤ x.r
          · have e3 : St.put ⟨x.b, x.s, x.r, a', false⟩ s.t.data.toList = ⟨x.b ++ s.t.data.toList, x.s, x.r, a', false⟩ := by unfold St.put St.fits; rw [if_pos (by simpa [hts] using hf)]
            rw [e3, if_pos (by rw [hfi]; exact decide_eq_true hf)] at hst
            rw [hst]
            exact moves_went h hj hj2 s ht h1 h2 h3 _ [] 0 0 hst hd ho (fun Z ow cw og cg on cn hw hc hg hn => went_put Z x hrm hm' hsy s hrb hk hf ow cw hw hc og cg hg on cn _ _ rfl rfl hn) rfl rfl hl
          · have e3 : St.put ⟨x.b, x.s, x.r, a', false⟩ s.t.data.toList = ⟨x.b, x.s, x.r, a', false⟩ := by unfold St.put St.fits; rw [if_neg (by simpa [hts] using hf)]
            rw [e3, if_neg (by rw [hfi]; simpa using hf)] at hst
            rw [hst]
            exact moves_went h hj hj2 s ht h1 h2 h3 _ [] 0 9 hst hd ho (fun Z ow cw og cg on cn hw hc hg hn => went_full Z x hrm hm' hsy s hrb hk (by omega) ow cw hw hc og cg hg on cn _ _ rfl rfl hn) rfl rfl hl
      · have hst : x.step s = (x.syncs.1, ⟨[], 0, x.syncs.2⟩) := by unfold St.step; rw [if_neg (by omega), if_pos hk]
        rcases oper_three x id St.sync 0 hd with ⟨kk, r, ha, e1⟩ | ⟨a', hl, e1⟩
        · have e2 : x.syncs = (St.fail ⟨x.b, x.s, x.r, r, false⟩ kk, 10) := e1
          rw [e2] at hst
          dsimp only at hst
          rw [hst]
          exact mv_died h hj hj2 s ht h1 h2 h3 hd ho _ kk hst rfl (by rw [ha]; rfl) (Or.inr ⟨fun q => by omega, rfl⟩)
        · have e2 : x.syncs = (⟨x.b, x.b.length, x.r, a', false⟩, 0) := e1
          rw [e2] at hst
          dsimp only at hst
          rw [hst]
          exact moves_went h hj hj2 s ht h1 h2 h3 _ [] 0 0 hst hd ho (fun Z ow cw og cg on cn hw hc hg hn => went_sync Z x hrm hm' hsy s hrb hk ow cw hw hc og cg hg on cn _ _ rfl rfl hn) rfl rfl hl
      · have hst : x.step s = (x.reads.1, ⟨x.readL, 0, x.reads.2⟩) := by unfold St.step; rw [if_neg (by omega), if_neg (by omega), if_pos hk]
        rcases oper_three x id id 0 hd with ⟨kk, r, ha, e1⟩ | ⟨a', hl, e1⟩
        · have e2 : x.reads = (St.fail ⟨x.b, x.s, x.r, r, false⟩ kk, 10) := e1
          have e3 : x.readL = [] := by unfold St.readL; rw [e2]; rfl
          rw [e2, e3] at hst
          dsimp only at hst
          rw [hst]
          exact mv_died h hj hj2 s ht h1 h2 h3 hd ho _ kk hst rfl (by rw [ha]; rfl) (Or.inr ⟨fun q => by omega, rfl⟩)
        · have e2 : x.reads = (⟨x.b, x.s, x.r, a', false⟩, 0) := e1
          have e3 : x.readL = x.b := by unfold St.readL; rw [e2]; rfl
          rw [e2, e3] at hst
          dsimp only at hst
          rw [hst]
          exact moves_went h hj hj2 s ht h1 h2 h3 _ x.b 0 0 hst hd ho (fun Z ow cw og cg on cn hw hc hg hn => went_read Z x hrm hm' hsy s hrb hk ow cw hw hc og cg hg on cn _ _ rfl rfl hn) rfl rfl hl
      · have hst : x.step s = ((x.trunc s.n).1, ⟨[], 0, (x.trunc s.n).2⟩) := by unfold St.step; rw [if_neg (by omega), if_neg (by omega), if_neg (by omega), if_pos hk]
        by_cases hn0 : s.n < 0
        · have e2 : x.trunc s.n = (x, 1) := by unfold St.trunc; rw [if_pos (by simp [hd, hn0])]
          rw [e2] at hst
          dsimp only at hst
          rw [hst]
          exact moves_went h hj hj2 s ht h1 h2 h3 _ [] 0 1 hst hd ho (fun Z ow cw og cg on cn hw hc hg hn => went_neg Z x hrm hm' hsy s hrb hk hn0 ow cw hw hc og cg hg on cn _ _ rfl rfl hn) rfl hd rfl
        · by_cases hn1 : (x.b.length : Int) < s.n
          · have e2 : x.trunc s.n = (x, 1) := by unfold St.trunc; rw [if_pos (by simp [hd, hn1])]
            rw [e2] at hst
            dsimp only at hst
            rw [hst]
            exact moves_went h hj hj2 s ht h1 h2 h3 _ [] 0 1 hst hd ho (fun Z ow cw og cg on cn hw hc hg hn => went_over Z x hrm hm' hsy s hrb hk hn1 ow cw hw hc og cg hg on cn _ _ rfl rfl hn) rfl hd rfl
          · have e0 : x.trunc s.n = x.oper id (fun y => y.cut s.n.toNat) 0 := by unfold St.trunc; rw [if_neg (by simp [hn0, hn1])]
            rcases oper_three x id (fun y => y.cut s.n.toNat) 0 hd with ⟨kk, r, ha, e1⟩ | ⟨a', hl, e1⟩
            · have e2 : x.trunc s.n = (St.fail ⟨x.b, x.s, x.r, r, false⟩ kk, 10) := e0.trans e1
              rw [e2] at hst
              dsimp only at hst
              rw [hst]
              exact mv_died h hj hj2 s ht h1 h2 h3 hd ho _ kk hst rfl (by rw [ha]; rfl) (Or.inr ⟨fun q => by omega, rfl⟩)
            · have e2 : x.trunc s.n = (⟨x.b.take s.n.toNat, min x.s s.n.toNat, x.r, a', false⟩, 0) := e0.trans e1
              rw [e2] at hst
              dsimp only at hst
              rw [hst]
              refine moves_went h hj hj2 s ht h1 h2 h3 _ [] 0 0 hst hd ho (fun Z ow cw og cg on cn hw hc hg hn => ?_) rfl rfl hl
              obtain ⟨k0, o0, n0, m0, t0⟩ := s
              dsimp only at hk hn0 hn1 hn hrb ⊢
              obtain ⟨m, rfl⟩ : ∃ m : Nat, n0 = (m : Int) := ⟨n0.toNat, by omega⟩
              exact went_cut Z x hrm hm' hsy k0 o0 m0 t0 m hrb hk (by omega) ow cw hw hc og cg hg on cn _ _ rfl rfl hn
  | false =>
    have hno : ¬ (1 ≤ s.k ∧ s.k ≤ 4) := fun q => by
      unfold opB at ho
      simp [q.1, q.2] at ho
    by_cases k6 : s.k = 6
    · have hst : x.step s = (x.crash s.n, ⟨[], 0, 0⟩) := by unfold St.step; simp [k6]
      cases hd : x.d with
      | true =>
        have e2 : x.crash s.n = x := by unfold St.crash; rw [if_pos hd]
        rw [e2] at hst
        rw [hst]
        exact moves_crashD h hj hj2 s ht h1 h2 h3 x [] 0 0 hst rfl rfl hd ho k6 hd rfl
      | false =>
        have e2 : x.crash s.n = x.fail s.n := by unfold St.crash; rw [if_neg (by rw [hd]; decide)]
        rw [e2] at hst
        rw [hst]
        exact moves_crashA h hj hj2 s ht h1 h2 h3 _ [] 0 0 hst hd ho k6 rfl (fun Z F' ow cw on cn hD hw hc hn => crashed_any Z p F' x s.n hD hsy (by omega) ow cw hw hc on cn hn)
    by_cases k8 : s.k = 8
    · have hst : x.step s = (x.revive, ⟨[], 0, 0⟩) := by unfold St.step; simp [k8]
      rw [hst]
      cases hd : x.d with
      | true => exact moves_reviveT h hj hj2 s ht h1 h2 h3 _ [] 0 0 hst rfl rfl hd ho k8 rfl rfl
      | false => exact moves_reviveF h hj hj2 s ht h1 h2 h3 _ [] 0 0 hst rfl rfl hd ho k8 rfl rfl
    by_cases k5 : s.k = 5
    · have hst : x.step s = (x.arm s.n s.m, ⟨[], 0, 0⟩) := by unfold St.step; simp [k5]
      have hal : (x.arm s.n s.m).a.length = x.a.length + 1 := by show (x.a ++ [_]).length = _; rw [List.length_append]; rfl
      rw [hst]
      cases hd : x.d with
      | true => exact moves_armT h hj hj2 s ht h1 h2 h3 _ [] 0 0 hst rfl rfl hd ho k5 hd hal
      | false => exact moves_armF h hj hj2 s ht h1 h2 h3 _ [] 0 0 hst rfl rfl hd ho k5 hd hal
    by_cases k9 : s.k = 9
    · have hst : x.step s = (x, ⟨x.b, x.s, 0⟩) := by unfold St.step; simp [k9]
      rw [hst]
      cases hd : x.d with
      | true => exact moves_lookT h hj hj2 s ht h1 h2 h3 _ _ _ _ hst rfl rfl hd ho k9 rfl rfl rfl hd rfl
      | false => exact moves_lookF h hj hj2 s ht h1 h2 h3 _ _ _ _ hst rfl rfl hd ho k9 rfl rfl rfl hd rfl
    by_cases k7 : s.k = 7
    · have hst : x.step s = (x, ⟨[], x.deadN, 0⟩) := by unfold St.step; simp [k7]
      rw [hst]
      cases hd : x.d with
      | true => exact moves_deadT h hj hj2 s ht h1 h2 h3 _ _ _ _ hst rfl rfl hd ho k7 (by unfold St.deadN; rw [hd]; rfl) hd rfl
      | false => exact moves_deadF h hj hj2 s ht h1 h2 h3 _ _ _ _ hst rfl rfl hd ho k7 (by unfold St.deadN; rw [hd]; rfl) hd rfl
    · have hst : x.step s = (x, ⟨[], 0, 0⟩) := by
        unfold St.step
        rw [if_neg (by omega), if_neg (by omega), if_neg (by omega), if_neg (by omega), if_neg k5, if_neg k6, if_neg k7, if_neg k8, if_neg k9]
      rw [hst]
      cases hd : x.d with
      | true => exact moves_otherT h hj hj2 s ht h1 h2 h3 _ _ _ _ hst rfl rfl hd ho k6 k8 k5 k9 k7 rfl
      | false => exact moves_otherF h hj hj2 s ht h1 h2 h3 _ _ _ _ hst rfl rfl hd ho k6 k8 k5 k9 k7 rfl
end Go.Proofs.YtjfpjgialdkhkaaDoor.dk
