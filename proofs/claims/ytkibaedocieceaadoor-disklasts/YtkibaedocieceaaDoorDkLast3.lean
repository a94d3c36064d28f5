import Derived.Test.YtkibaedocieceaaDoorDkLast2
namespace Go.Proofs.YtkibaedocieceaaDoor.dk
open Go.ChangeShapes Go.WideShapes Go.ChangeAt Go.RowKit Go.Proofs.YtkibaedocieceaaDoor.common

theorem oper_cases (x : St) (hd : x.d = false) : (∃ y : St, y.b = x.b ∧ y.s = x.s ∧ y.r = x.r ∧ y.a.length = x.a.length ∧ ∀ dying on err, x.oper dying on err = (on y, err)) ∨ ∃ (y : St) (k : Int), y.b = x.b ∧ y.s = x.s ∧ y.r = x.r ∧ y.a.length + 1 = x.a.length ∧ ∀ dying on err, x.oper dying on err = ((dying y).fail k, 10) := by
  cases ha : x.a with
  | nil => exact Or.inl ⟨x, rfl, rfl, rfl, by rw [ha], fun dying on err => by unfold St.oper; rw [hd, ha]; rfl⟩
  | cons a r =>
    obtain ⟨n, k⟩ := a
    cases n with
    | zero => exact Or.inr ⟨⟨x.b, x.s, x.r, r, false⟩, k, rfl, rfl, rfl, rfl, fun dying on err => by unfold St.oper; rw [hd, ha]; rfl⟩
    | succ n => exact Or.inl ⟨⟨x.b, x.s, x.r, (n, k) :: r, false⟩, rfl, rfl, rfl, rfl, fun dying on err => by unfold St.oper; rw [hd, ha]; rfl⟩
/-- what is left where the power fails -/
theorem fail_facts (x Y : St) (q : List UInt8) (hs : x.s ≤ x.b.length) (hb : Y.b = x.b ++ q ∨ Y.b = x.b) (hys : Y.s = x.s) (k : Int) : (Y.fail k).s = (Y.fail k).b.length ∧ (x.b.take x.s).length ≤ (Y.fail k).b.length ∧ x.b.take x.s = (Y.fail k).b.take (x.b.take x.s).length ∧ (Y.fail k).b.length ≤ (x.b ++ q).length ∧ (Y.fail k).b = (x.b ++ q).take (Y.fail k).b.length := by
  have hl : x.b.length ≤ Y.b.length := by
    rcases hb with hb | hb <;> rw [hb]
    · rw [List.length_append]; omega
    · exact Nat.le_refl _
  have ht : (x.b ++ q).take Y.b.length = Y.b := by
    rcases hb with hb | hb <;> rw [hb]
    · exact List.take_length
    · exact List.take_left' rfl
  have hle : Y.b.length ≤ (x.b ++ q).length := by
    rcases hb with hb | hb <;> rw [hb]
    · exact Nat.le_refl _
    · rw [List.length_append]; omega
  have hL := Y.left_le k (by omega)
  have e1 : (Y.fail k).b = Y.b.take (Y.left k) := rfl
  have e2 : (Y.fail k).s = Y.left k := rfl
  have e3 : (Y.fail k).b.length = Y.left k := by rw [e1, List.length_take]; omega
  have e4 : (x.b.take x.s).length = x.s := by rw [List.length_take]; omega
  have e5 : Y.b.take x.s = x.b.take x.s := by
    rcases hb with hb | hb <;> rw [hb]
    exact List.take_append_of_le_length hs
  refine ⟨by rw [e2, e3], by rw [e3, e4]; omega, ?_, by rw [e3]; omega, ?_⟩
  · rw [e4, e1, List.take_take, show min x.s (Y.left k) = x.s by omega, e5]
  · rw [e3, e1, ← ht, List.take_take]
    congr 1
    omega

set_option maxHeartbeats 1600000 in
theorem lasts_any (base : Nat) (W0 w : World) (e : Nat → Addr) (p h : Nat) (F H : List Nat) (x : St) (j : Nat) (t : Jt base W0 w e p h F H x (x.b.take x.s) x.b (x.a.length : Int) j) (hs : base ≤ w.heap.size) (hj : (j + 1) * 16 ≤ 140737488355328) (hj2 : (j + 1 + 1) * 16 ≤ 140737488355328) (s : Sp) (ht : s.t.size ≤ reachBytes) (h1 : s.n ≤ 9223372036854775807) (h2 : -9223372036854775808 ≤ s.m) (h3 : s.m ≤ 9223372036854775807) (hM : x.b.length ≤ 1073741824) (k4 : ¬ s.k = 4) :
    Calls Tryd.prog 25 #[ptr h, ptr p, spv s, .bool x.d, .bool (decide (s.k = 1) && !x.fits s.t.data.toList)] w fun r' w' => LastE base W0 e p h (x.step s).1 j r' w' := by
  have hsy := t.run.fine.ok.syn
  have hrb : reachBytes = 140737488351232 := rfl
  have hxl : x.b.length + s.t.size ≤ 140738562097152 := by rw [hrb] at ht; omega
  have hxe : x.b.length + (⟨#[]⟩ : ByteArray).size ≤ 140738562097152 := by show x.b.length + 0 ≤ _; omega
  by_cases k1 : s.k = 1
  · have hst : x.step s = ((x.append s.t.data.toList).1, ⟨[], 0, (x.append s.t.data.toList).2⟩) := by unfold St.step; rw [if_pos k1]
    cases hd : x.d with
    | true => exact lasts_dead1 base W0 w e p h F H x j t hs hj hj2 s ht h1 h2 h3 k1 _ (by rw [hst]; unfold St.append St.oper; rw [hd]; rfl)
    | false =>
      rcases oper_cases x hd with ⟨y, hb, hsn, hr, hal, ho⟩ | ⟨y, kp, hb, hsn, hr, hal, ho⟩
      · have hfe : y.fits s.t.data.toList = x.fits s.t.data.toList := by unfold St.fits; rw [hb, hr]
        cases hf : x.fits s.t.data.toList with
        | true =>
          rw [show (decide (s.k = 1) && !true) = false by simp]
          have hput : y.put s.t.data.toList = ⟨y.b ++ s.t.data.toList, y.s, y.r, y.a, y.d⟩ := by unfold St.put; rw [hfe, hf]; rfl
          exact lasts_app base W0 w e p h F H x j t hs hj hj2 s ht h1 h2 h3 k1 hxl (y.put s.t.data.toList) (by rw [hput]; show y.b ++ _ = _; rw [hb]) (by rw [hput]; exact hsn) (by rw [hput]; exact hal) (by rw [hst]; unfold St.append; rw [ho, hf]; rfl)
        | false =>
          rw [show (decide (s.k = 1) && !false) = true by simp [k1]]
          have hput : y.put s.t.data.toList = y := by unfold St.put; rw [hfe, hf]; rfl
          exact lasts_full base W0 w e p h F H x j t hs hj hj2 s ht h1 h2 h3 k1 (y.put s.t.data.toList) (by rw [hput]; exact hb) (by rw [hput]; exact hsn) (by rw [hput]; exact hal) (by rw [hst]; unfold St.append; rw [ho, hf]; rfl)
      · have hY : (y.put s.t.data.toList).b = x.b ++ s.t.data.toList ∨ (y.put s.t.data.toList).b = x.b := by
          unfold St.put
          split
          · left; show y.b ++ _ = _; rw [hb]
          · right; exact hb
        have hYs : (y.put s.t.data.toList).s = x.s := by unfold St.put; split <;> exact hsn
        obtain ⟨f1, f2, f3, f4, f5⟩ := fail_facts x (y.put s.t.data.toList) s.t.data.toList hsy hY hYs kp
        exact lasts_dies1 base W0 w e p h F H x j t hs hj hj2 s ht h1 h2 h3 k1 _ _ f1 f2 f3 f4 f5 hxl (by show (y.put s.t.data.toList).a.length + 1 = _; rw [put_arms]; exact hal) (by rw [hst]; unfold St.append; rw [ho])
  rw [show (decide (s.k = 1) && !x.fits s.t.data.toList) = false by rw [decide_eq_false k1]; rfl]
  by_cases k2 : s.k = 2
  · have hst : x.step s = (x.syncs.1, ⟨[], 0, x.syncs.2⟩) := by unfold St.step; rw [if_neg k1, if_pos k2]
    cases hd : x.d with
    | true => exact lasts_dead2 base W0 w e p h F H x j t hs hj hj2 s ht h1 h2 h3 k2 _ (by rw [hst]; unfold St.syncs St.oper; rw [hd]; rfl)
    | false =>
      rcases oper_cases x hd with ⟨y, hb, hsn, hr, hal, ho⟩ | ⟨y, kp, hb, hsn, hr, hal, ho⟩
      · exact lasts_sync base W0 w e p h F H x j t hs hj hj2 s ht h1 h2 h3 k2 y.sync hb (by show y.b.length = _; rw [hb]) hal (by rw [hst]; unfold St.syncs; rw [ho])
      · obtain ⟨f1, f2, f3, f4, f5⟩ := fail_facts x y (⟨#[]⟩ : ByteArray).data.toList hsy (Or.inr hb) hsn kp
        exact lasts_dies2 base W0 w e p h F H x j t hs hj hj2 s ht h1 h2 h3 k2 _ _ f1 f2 f3 f4 f5 hxe hal (by rw [hst]; unfold St.syncs; rw [ho]; rfl)
  by_cases k3 : s.k = 3
  · have hst : x.step s = (x.reads.1, ⟨x.readL, 0, x.reads.2⟩) := by unfold St.step; rw [if_neg k1, if_neg k2, if_pos k3]
    cases hd : x.d with
    | true => exact lasts_dead3 base W0 w e p h F H x j t hs hj hj2 s ht h1 h2 h3 k3 _ (by rw [hst]; have hrd : x.reads = (x, 10) := by { unfold St.reads St.oper; rw [hd]; rfl }; unfold St.readL; rw [hrd]; rfl)
    | false =>
      rcases oper_cases x hd with ⟨y, hb, hsn, hr, hal, ho⟩ | ⟨y, kp, hb, hsn, hr, hal, ho⟩
      · have hrd : x.reads = (y, 0) := ho id id 0
        exact lasts_read base W0 w e p h F H x j t hs hj hj2 s ht h1 h2 h3 k3 y hb hsn hal (by rw [hst]; unfold St.readL; rw [hrd]; rfl)
      · have hrd : x.reads = (y.fail kp, 10) := ho id id 0
        obtain ⟨f1, f2, f3, f4, f5⟩ := fail_facts x y (⟨#[]⟩ : ByteArray).data.toList hsy (Or.inr hb) hsn kp
        exact lasts_dies3 base W0 w e p h F H x j t hs hj hj2 s ht h1 h2 h3 k3 _ _ f1 f2 f3 f4 f5 hxe hal (by rw [hst]; unfold St.readL; rw [hrd]; rfl)
  have hop : opB s = false := by
    unfold opB
    by_cases hk0 : 1 ≤ s.k
    · rw [decide_eq_false (show ¬ s.k ≤ 4 by omega)]; simp
    · rw [decide_eq_false hk0]; rfl
  by_cases k5 : s.k = 5
  · have hst : x.step s = (x.arm s.n s.m, ⟨[], 0, 0⟩) := by unfold St.step; rw [if_neg k1, if_neg k2, if_neg k3, if_neg k4, if_pos k5]
    cases hd : x.d with
    | true => exact lasts_5true base W0 w e p h F H x j t hs hj hj2 s ht h1 h2 h3 k5 hop hst
    | false => exact lasts_5false base W0 w e p h F H x j t hs hj hj2 s ht h1 h2 h3 k5 hst
  by_cases k6 : s.k = 6
  · have hst : x.step s = (x.crash s.n, ⟨[], 0, 0⟩) := by unfold St.step; rw [if_neg k1, if_neg k2, if_neg k3, if_neg k4, if_neg k5, if_pos k6]
    cases hd : x.d with
    | true => exact lasts_6true base W0 w e p h F H x j t hs hj hj2 s ht h1 h2 h3 k6 hop (by rw [hst]; unfold St.crash; rw [hd]; rfl)
    | false =>
      obtain ⟨f1, f2, f3, f4, f5⟩ := fail_facts x x (⟨#[]⟩ : ByteArray).data.toList hsy (Or.inr rfl) rfl s.n
      exact lasts_6false base W0 w e p h F H x j t hs hj hj2 s ht h1 h2 h3 k6 _ f1 f2 f3 f4 f5 hxe rfl (by rw [hst]; unfold St.crash; rw [hd]; rfl)
  by_cases k7 : s.k = 7
  · have hst : x.step s = (x, ⟨[], x.deadN, 0⟩) := by unfold St.step; rw [if_neg k1, if_neg k2, if_neg k3, if_neg k4, if_neg k5, if_neg k6, if_pos k7]
    cases hd : x.d with
    | true => exact lasts_7true base W0 w e p h F H x j t hs hj hj2 s ht h1 h2 h3 k7 hop hst
    | false => exact lasts_7false base W0 w e p h F H x j t hs hj hj2 s ht h1 h2 h3 k7 hst
  by_cases k8 : s.k = 8
  · have hst : x.step s = (x.revive, ⟨[], 0, 0⟩) := by unfold St.step; rw [if_neg k1, if_neg k2, if_neg k3, if_neg k4, if_neg k5, if_neg k6, if_neg k7, if_pos k8]
    cases hd : x.d with
    | true => exact lasts_8true base W0 w e p h F H x j t hs hj hj2 s ht h1 h2 h3 k8 hop hst
    | false => exact lasts_8false base W0 w e p h F H x j t hs hj hj2 s ht h1 h2 h3 k8 hst
  by_cases k9 : s.k = 9
  · have hst : x.step s = (x, ⟨x.b, x.s, 0⟩) := by unfold St.step; rw [if_neg k1, if_neg k2, if_neg k3, if_neg k4, if_neg k5, if_neg k6, if_neg k7, if_neg k8, if_pos k9]
    cases hd : x.d with
    | true => exact lasts_9true base W0 w e p h F H x j t hs hj hj2 s ht h1 h2 h3 k9 hop hst
    | false => exact lasts_9false base W0 w e p h F H x j t hs hj hj2 s ht h1 h2 h3 k9 hst
  · have hst : x.step s = (x, ⟨[], 0, 0⟩) := by unfold St.step; rw [if_neg k1, if_neg k2, if_neg k3, if_neg k4, if_neg k5, if_neg k6, if_neg k7, if_neg k8, if_neg k9]
    cases hd : x.d with
    | true => exact lasts_0true base W0 w e p h F H x j t hs hj hj2 s ht h1 h2 h3 k1 k2 k3 k5 k6 k9 hop hst
    | false => exact lasts_0false base W0 w e p h F H x j t hs hj hj2 s ht h1 h2 h3 k1 k2 k3 k5 k6 k9 hst
end Go.Proofs.YtkibaedocieceaaDoor.dk
