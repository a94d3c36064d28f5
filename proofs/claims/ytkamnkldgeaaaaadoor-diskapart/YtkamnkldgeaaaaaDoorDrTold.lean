import Derived.Test.YtkamnkldgeaaaaaDoorDrTrunc
import Derived.Test.YtkamnkldgeaaaaaDoorDkAct
namespace Go.Proofs.YtkamnkldgeaaaaaDoor.dr
open Go.ChangeShapes Go.WideShapes Go.ChangeAt Go.RowKit Go.Proofs.YtkamnkldgeaaaaaDoor.common Go.Proofs.YtkamnkldgeaaaaaDoor.dk

/-- bytes that were answered: a row of one's own, no part of the disk -/
def AnsQ (w : World) (F' : List Nat) (v : Value) (l : List UInt8) (w' : World) : Prop := w'.ownsRow w.heap.size 5 1 v l.length (l.map B) ∧ ∀ b, v.ownBlock = some b → b ∉ F'
theorem ansQ_nil (w : World) (F' : List Nat) (w' : World) : AnsQ w F' (.slice none 0 0) [] w' := ⟨World.ownsRow_nil _ _ _ _, fun b hb => (by cases hb)⟩
/-- how a step ends -/
def ActsQ (w : World) (p : Nat) (F : List Nat) (y : St) (a : An) (r' : Ending) (w' : World) : Prop :=
  ∃ v F', r' = .returned (sdv v a.n a.e) ∧ AnsQ w F' v a.l w' ∧ Dq w' p F' (sq y) ∧ Fr F w w' ∧ ∀ k ∈ F', k ∈ F ∨ w.heap.size ≤ k
theorem actsQ_fin {w V w1 : World} {p : Nat} {F F' : List Nat} {y : St} {v : Value} {l : List UInt8} {R : Nat} (hV : Below w.heap.size w V) (hR : w.heap.size ≤ R) (hRV : R < V.heap.size) (hA : AnsQ V F' v l w1) (hD : Dq w1 p F' (sq y)) (hf : Fr F V w1) (hF : ∀ k ∈ F, k < w.heap.size) (hs : ∀ k ∈ F', k ∈ F ∨ V.heap.size ≤ k) (n : Int) (m : Nat) :
    ActsQ w p F y ⟨l, n, m⟩ (.returned (sdv v n m)) (((w1.setCell ⟨R, 0, none⟩ v).setCell ⟨R, 1, none⟩ (.int .i64 n)).setCell ⟨R, 2, none⟩ (.int .i64 (m : Int))) := by
  have hRF : R ∉ F' := fun hm => by
    rcases hs R hm with h | h
    · have := hF R h; omega
    · omega
  have hvs := hV.size
  have hk : ∀ k, k ≠ R → (((w1.setCell ⟨R, 0, none⟩ v).setCell ⟨R, 1, none⟩ (.int .i64 n)).setCell ⟨R, 2, none⟩ (.int .i64 (m : Int))).heap[k]? = w1.heap[k]? := fun k hk => by
    rw [set_other _ _ _ _ hk, set_other _ _ _ _ hk, set_other _ _ _ _ hk]
  refine ⟨v, F', rfl, ⟨own_keepK (own_mono2 hA.1 hV.size) fun g hg => hk g ?_, hA.2⟩, hD.keep fun k hk1 => hk k (fun e => hRF (e ▸ hk1)), ?_, fun k hk => ?_⟩
  · have := own_ge hA.1 g hg
    omega
  · have f1 : Fr F w w1 := (Fr.of hV).trans hf (fun i hi => Or.inl hi)
    exact ((f1.set _ _ (Or.inr hR)).set _ _ (Or.inr hR)).set _ _ (Or.inr hR)
  · rcases hs k hk with h | h
    · exact Or.inl h
    · exact Or.inr (by omega)
/-- what a step asks for -/
structure CanQ (w : World) (p : Nat) (F : List Nat) (x : St) (s : Sp) : Prop where
  disk : Dq w p F (sq x)
  fine : Fine x
  text : s.t.size ≤ reachBytes
  room : (x.a.length + 1) * 16 ≤ 140737488355328
theorem CanQ.v {w V : World} {p : Nat} {F : List Nat} {x : St} {s : Sp} (h : CanQ w p F x s) (hb : Below w.heap.size w V) : CanQ V p F x s := ⟨h.disk.below hb, h.fine, h.text, h.room⟩

set_option maxRecDepth 100000 in
set_option maxHeartbeats 1600000 in
theorem told_1 (w : World) (p : Nat) (F : List Nat) (x : St) (s : Sp) (h : CanQ w p F x s) (hk : s.k = 1) :
    Calls Tryd.prog 14 #[ptr p, spv s] w fun r' w' => ActsQ w p F (x.step s).1 (x.step s).2 r' w' := by
  obtain ⟨V, hVV⟩ : ∃ V, V = (w.alloc (.cells #[.int .i64 s.k, .int .i64 s.o, .int .i64 s.n, .int .i64 s.m, .string s.t] 38)).alloc (.cells #[.slice none 0 0, .int .i64 0, .int .i64 0] 45) := ⟨_, rfl⟩
  have h2 : Two w V s := by rw [hVV]; exact two_of w s
  have HT := hide h2
  have HV := hide hVV
  have HC := hide (h.v h2.below)
  have HLT := hide h.disk.lt
  have HRN : Hid (w.heap.size + 1 ∉ F) := fun hm => by have := h.disk.lt _ hm; omega
  have s0 : V.cell? ⟨w.heap.size, 0, none⟩ = some (.int .i64 s.k) := cell_of h2.step 0
  have s2 : V.cell? ⟨w.heap.size, 2, none⟩ = some (.int .i64 s.n) := cell_of h2.step 2
  have s3 : V.cell? ⟨w.heap.size, 3, none⟩ = some (.int .i64 s.m) := cell_of h2.step 3
  have s4 : V.cell? ⟨w.heap.size, 4, none⟩ = some (.string s.t) := cell_of h2.step 4
  have r0 : V.cell? ⟨w.heap.size + 1, 0, none⟩ = some (.slice none 0 0) := cell_of h2.said 0
  have r1 : V.cell? ⟨w.heap.size + 1, 0 + 1, none⟩ = some (.int .i64 0) := cell_of h2.said 1
  have r2 : V.cell? ⟨w.heap.size + 1, 0 + 2, none⟩ = some (.int .i64 0) := cell_of h2.said 2
  have q0 : V.frozen? ⟨w.heap.size + 1, 0, none⟩ = false := free_of h2.said 0
  have q1 : V.frozen? ⟨w.heap.size + 1, 0 + 1, none⟩ = false := free_of h2.said 1
  have q2 : V.frozen? ⟨w.heap.size + 1, 0 + 2, none⟩ = false := free_of h2.said 2
  have HST : Hid (x.step s = ((x.append s.t.data.toList).1, ⟨[], 0, (x.append s.t.data.toList).2⟩)) := by show _ = _; unfold St.step; rw [if_pos hk]
  rw [hk] at s0 HV
  clear h h2 hVV
  have HBY := hide (kitw.bytes_any s.t V HC.out.text)
  go_enter Tryd.func14, Tryd.ntmps14
  go_wp2_with fail
  rw [← HV.out]
  refine HBY.out.mono ?_
  rintro r' wb ⟨v, rfl, ob, nb, bb⟩
  have hAP := dappend_any wb p F x (HC.out.disk.below bb) HC.out.fine HC.out.room v s.t.data.toList (rd_own (by rw [Array.length_toList]; exact ob)) (fun _ a n c hv => by
    rcases ob.2 with ⟨e1, _⟩ | ⟨g, cap, cur, e1, e2, e3, _⟩
    · rw [hv] at e1; cases e1
    · rw [hv] at e1; cases e1
      exact ⟨fun hm => absurd (HC.out.disk.lt _ hm) (Nat.not_lt.2 e2), (Array.getElem?_eq_some_iff.1 e3).1⟩) (by rw [Array.length_toList]; have := HC.out.text; unfold reachBytes at this; show s.t.size ≤ _; omega)
  have HAP := hide hAP
  have HBB := hide bb
  obtain ⟨ob1, cb1, rfl⟩ : ∃ o c, v = .slice o s.t.size c := by
    rcases ob.2 with ⟨e1, e2⟩ | ⟨g, cap, cur, e1, _⟩
    · exact ⟨none, 0, by rw [e1, e2]⟩
    · exact ⟨_, cap, e1⟩
  clear hAP ob nb bb HBY
  go_wp2_with fail
  refine HAP.out.mono ?_
  rintro r' w1 ⟨rfl, m1⟩
  obtain ⟨F1, hD1, hf0, hs0⟩ := m1
  have hf1 : Fr F V w1 := (Fr.of HBB.out).trans hf0 (fun i hi => Or.inl hi)
  have hs1 : ∀ k ∈ F1, k ∈ F ∨ V.heap.size ≤ k := fun k hk => (hs0 k hk).elim Or.inl (fun h => Or.inr (Nat.le_trans HBB.out.size h))
  have HD := hide hD1
  have HF1 := hide hf1
  have HS := hide hs1
  have hR := hf1.block (w.heap.size + 1) (by rw [HT.out.size]; omega) HRN.out
  have hR2 := hR.trans HT.out.said
  have HR := hide hR2
  have t0 : w1.cell? ⟨w.heap.size + 1, 0, none⟩ = some (.slice none 0 0) := cell_of hR2 0
  have t1 : w1.cell? ⟨w.heap.size + 1, 0 + 1, none⟩ = some (.int .i64 0) := cell_of hR2 1
  have t2 : w1.cell? ⟨w.heap.size + 1, 0 + 2, none⟩ = some (.int .i64 0) := cell_of hR2 2
  have p0 : w1.frozen? ⟨w.heap.size + 1, 0, none⟩ = false := free_of hR2 0
  have p1 : w1.frozen? ⟨w.heap.size + 1, 0 + 1, none⟩ = false := free_of hR2 1
  have p2 : w1.frozen? ⟨w.heap.size + 1, 0 + 2, none⟩ = false := free_of hR2 2
  have HA : Hid (AnsQ V F1 (.slice none 0 0) [] w1) := ansQ_nil _ _ _
  generalize (x.append s.t.data.toList).2 = n at *
  clear hR hR2 hf0 hf1 hs0 hs1 hD1 s0 s2 s3 s4 r0 r1 r2 q0 q1 q2 HAP HBB
  go_wp2
  refine bodyPost_ret (results_c rfl _ rfl (range_of (l := [(.slice none 0 0), .int .i64 0, .int .i64 (n : Int)]) (put_three HR.out (.slice none 0 0) (.int .i64 0) (.int .i64 (n : Int)))) Tryd.underlying45 rfl sizeSaid) rfl ?_
  rw [HST.out]
  exact actsQ_fin HT.out.below (Nat.le_succ _) (by rw [HT.out.size]; omega) HA.out HD.out HF1.out HLT.out HS.out _ _

set_option maxRecDepth 100000 in
set_option maxHeartbeats 1600000 in
theorem told_2 (w : World) (p : Nat) (F : List Nat) (x : St) (s : Sp) (h : CanQ w p F x s) (hk : s.k = 2) :
    Calls Tryd.prog 14 #[ptr p, spv s] w fun r' w' => ActsQ w p F (x.step s).1 (x.step s).2 r' w' := by
  obtain ⟨V, hVV⟩ : ∃ V, V = (w.alloc (.cells #[.int .i64 s.k, .int .i64 s.o, .int .i64 s.n, .int .i64 s.m, .string s.t] 38)).alloc (.cells #[.slice none 0 0, .int .i64 0, .int .i64 0] 45) := ⟨_, rfl⟩
  have h2 : Two w V s := by rw [hVV]; exact two_of w s
  have HT := hide h2
  have HV := hide hVV
  have HC := hide (h.v h2.below)
  have HLT := hide h.disk.lt
  have HRN : Hid (w.heap.size + 1 ∉ F) := fun hm => by have := h.disk.lt _ hm; omega
  have s0 : V.cell? ⟨w.heap.size, 0, none⟩ = some (.int .i64 s.k) := cell_of h2.step 0
  have s2 : V.cell? ⟨w.heap.size, 2, none⟩ = some (.int .i64 s.n) := cell_of h2.step 2
  have s3 : V.cell? ⟨w.heap.size, 3, none⟩ = some (.int .i64 s.m) := cell_of h2.step 3
  have s4 : V.cell? ⟨w.heap.size, 4, none⟩ = some (.string s.t) := cell_of h2.step 4
  have r0 : V.cell? ⟨w.heap.size + 1, 0, none⟩ = some (.slice none 0 0) := cell_of h2.said 0
  have r1 : V.cell? ⟨w.heap.size + 1, 0 + 1, none⟩ = some (.int .i64 0) := cell_of h2.said 1
  have r2 : V.cell? ⟨w.heap.size + 1, 0 + 2, none⟩ = some (.int .i64 0) := cell_of h2.said 2
  have q0 : V.frozen? ⟨w.heap.size + 1, 0, none⟩ = false := free_of h2.said 0
  have q1 : V.frozen? ⟨w.heap.size + 1, 0 + 1, none⟩ = false := free_of h2.said 1
  have q2 : V.frozen? ⟨w.heap.size + 1, 0 + 2, none⟩ = false := free_of h2.said 2
  have HST : Hid (x.step s = (x.syncs.1, ⟨[], 0, x.syncs.2⟩)) := by show _ = _; unfold St.step; rw [if_neg (by rw [hk]; decide), if_pos hk]
  rw [hk] at s0 HV
  clear h h2 hVV
  have HM := hide (dsync_any V p F x HC.out.disk HC.out.fine HC.out.room)
  go_enter Tryd.func14, Tryd.ntmps14
  go_wp2_with fail
  rw [← HV.out]
  refine HM.out.mono ?_
  rintro r' w1 ⟨rfl, m1⟩
  obtain ⟨F1, hD1, hf1, hs1⟩ := m1
  have HD := hide hD1
  have HF1 := hide hf1
  have HS := hide hs1
  have hR := hf1.block (w.heap.size + 1) (by rw [HT.out.size]; omega) HRN.out
  have hR2 := hR.trans HT.out.said
  have HR := hide hR2
  have t0 : w1.cell? ⟨w.heap.size + 1, 0, none⟩ = some (.slice none 0 0) := cell_of hR2 0
  have t1 : w1.cell? ⟨w.heap.size + 1, 0 + 1, none⟩ = some (.int .i64 0) := cell_of hR2 1
  have t2 : w1.cell? ⟨w.heap.size + 1, 0 + 2, none⟩ = some (.int .i64 0) := cell_of hR2 2
  have p0 : w1.frozen? ⟨w.heap.size + 1, 0, none⟩ = false := free_of hR2 0
  have p1 : w1.frozen? ⟨w.heap.size + 1, 0 + 1, none⟩ = false := free_of hR2 1
  have p2 : w1.frozen? ⟨w.heap.size + 1, 0 + 2, none⟩ = false := free_of hR2 2
  have HA : Hid (AnsQ V F1 (.slice none 0 0) [] w1) := ansQ_nil _ _ _
  generalize x.syncs.2 = n at *
  clear hR hR2 hf1 hs1 hD1 s0 s2 s3 s4 r0 r1 r2 q0 q1 q2 HM
  go_wp2
  refine bodyPost_ret (results_c rfl _ rfl (range_of (l := [(.slice none 0 0), .int .i64 0, .int .i64 (n : Int)]) (put_three HR.out (.slice none 0 0) (.int .i64 0) (.int .i64 (n : Int)))) Tryd.underlying45 rfl sizeSaid) rfl ?_
  rw [HST.out]
  exact actsQ_fin HT.out.below (Nat.le_succ _) (by rw [HT.out.size]; omega) HA.out HD.out HF1.out HLT.out HS.out _ _

set_option maxRecDepth 100000 in
set_option maxHeartbeats 1600000 in
theorem told_4 (w : World) (p : Nat) (F : List Nat) (x : St) (s : Sp) (h : CanQ w p F x s) (hk : s.k = 4) :
    Calls Tryd.prog 14 #[ptr p, spv s] w fun r' w' => ActsQ w p F (x.step s).1 (x.step s).2 r' w' := by
  obtain ⟨V, hVV⟩ : ∃ V, V = (w.alloc (.cells #[.int .i64 s.k, .int .i64 s.o, .int .i64 s.n, .int .i64 s.m, .string s.t] 38)).alloc (.cells #[.slice none 0 0, .int .i64 0, .int .i64 0] 45) := ⟨_, rfl⟩
  have h2 : Two w V s := by rw [hVV]; exact two_of w s
  have HT := hide h2
  have HV := hide hVV
  have HC := hide (h.v h2.below)
  have HLT := hide h.disk.lt
  have HRN : Hid (w.heap.size + 1 ∉ F) := fun hm => by have := h.disk.lt _ hm; omega
  have s0 : V.cell? ⟨w.heap.size, 0, none⟩ = some (.int .i64 s.k) := cell_of h2.step 0
  have s2 : V.cell? ⟨w.heap.size, 2, none⟩ = some (.int .i64 s.n) := cell_of h2.step 2
  have s3 : V.cell? ⟨w.heap.size, 3, none⟩ = some (.int .i64 s.m) := cell_of h2.step 3
  have s4 : V.cell? ⟨w.heap.size, 4, none⟩ = some (.string s.t) := cell_of h2.step 4
  have r0 : V.cell? ⟨w.heap.size + 1, 0, none⟩ = some (.slice none 0 0) := cell_of h2.said 0
  have r1 : V.cell? ⟨w.heap.size + 1, 0 + 1, none⟩ = some (.int .i64 0) := cell_of h2.said 1
  have r2 : V.cell? ⟨w.heap.size + 1, 0 + 2, none⟩ = some (.int .i64 0) := cell_of h2.said 2
  have q0 : V.frozen? ⟨w.heap.size + 1, 0, none⟩ = false := free_of h2.said 0
  have q1 : V.frozen? ⟨w.heap.size + 1, 0 + 1, none⟩ = false := free_of h2.said 1
  have q2 : V.frozen? ⟨w.heap.size + 1, 0 + 2, none⟩ = false := free_of h2.said 2
  have HST : Hid (x.step s = ((x.trunc s.n).1, ⟨[], 0, (x.trunc s.n).2⟩)) := by show _ = _; unfold St.step; rw [if_neg (by rw [hk]; decide), if_neg (by rw [hk]; decide), if_neg (by rw [hk]; decide), if_pos hk]
  rw [hk] at s0 HV
  clear h h2 hVV
  have HM := hide (dtrunc_any V p F x s.n HC.out.disk HC.out.fine HC.out.room)
  go_enter Tryd.func14, Tryd.ntmps14
  go_wp2_with fail
  rw [← HV.out]
  refine HM.out.mono ?_
  rintro r' w1 ⟨rfl, m1⟩
  obtain ⟨F1, hD1, hf1, hs1⟩ := m1
  have HD := hide hD1
  have HF1 := hide hf1
  have HS := hide hs1
  have hR := hf1.block (w.heap.size + 1) (by rw [HT.out.size]; omega) HRN.out
  have hR2 := hR.trans HT.out.said
  have HR := hide hR2
  have t0 : w1.cell? ⟨w.heap.size + 1, 0, none⟩ = some (.slice none 0 0) := cell_of hR2 0
  have t1 : w1.cell? ⟨w.heap.size + 1, 0 + 1, none⟩ = some (.int .i64 0) := cell_of hR2 1
  have t2 : w1.cell? ⟨w.heap.size + 1, 0 + 2, none⟩ = some (.int .i64 0) := cell_of hR2 2
  have p0 : w1.frozen? ⟨w.heap.size + 1, 0, none⟩ = false := free_of hR2 0
  have p1 : w1.frozen? ⟨w.heap.size + 1, 0 + 1, none⟩ = false := free_of hR2 1
  have p2 : w1.frozen? ⟨w.heap.size + 1, 0 + 2, none⟩ = false := free_of hR2 2
  have HA : Hid (AnsQ V F1 (.slice none 0 0) [] w1) := ansQ_nil _ _ _
  generalize (x.trunc s.n).2 = n at *
  clear hR hR2 hf1 hs1 hD1 s0 s2 s3 s4 r0 r1 r2 q0 q1 q2 HM
  go_wp2
  refine bodyPost_ret (results_c rfl _ rfl (range_of (l := [(.slice none 0 0), .int .i64 0, .int .i64 (n : Int)]) (put_three HR.out (.slice none 0 0) (.int .i64 0) (.int .i64 (n : Int)))) Tryd.underlying45 rfl sizeSaid) rfl ?_
  rw [HST.out]
  exact actsQ_fin HT.out.below (Nat.le_succ _) (by rw [HT.out.size]; omega) HA.out HD.out HF1.out HLT.out HS.out _ _

set_option maxRecDepth 100000 in
set_option maxHeartbeats 1600000 in
theorem told_3 (w : World) (p : Nat) (F : List Nat) (x : St) (s : Sp) (h : CanQ w p F x s) (hk : s.k = 3) :
    Calls Tryd.prog 14 #[ptr p, spv s] w fun r' w' => ActsQ w p F (x.step s).1 (x.step s).2 r' w' := by
  obtain ⟨V, hVV⟩ : ∃ V, V = (w.alloc (.cells #[.int .i64 s.k, .int .i64 s.o, .int .i64 s.n, .int .i64 s.m, .string s.t] 38)).alloc (.cells #[.slice none 0 0, .int .i64 0, .int .i64 0] 45) := ⟨_, rfl⟩
  have h2 : Two w V s := by rw [hVV]; exact two_of w s
  have HT := hide h2
  have HV := hide hVV
  have HC := hide (h.v h2.below)
  have HLT := hide h.disk.lt
  have HRN : Hid (w.heap.size + 1 ∉ F) := fun hm => by have := h.disk.lt _ hm; omega
  have s0 : V.cell? ⟨w.heap.size, 0, none⟩ = some (.int .i64 s.k) := cell_of h2.step 0
  have s2 : V.cell? ⟨w.heap.size, 2, none⟩ = some (.int .i64 s.n) := cell_of h2.step 2
  have s3 : V.cell? ⟨w.heap.size, 3, none⟩ = some (.int .i64 s.m) := cell_of h2.step 3
  have s4 : V.cell? ⟨w.heap.size, 4, none⟩ = some (.string s.t) := cell_of h2.step 4
  have r0 : V.cell? ⟨w.heap.size + 1, 0, none⟩ = some (.slice none 0 0) := cell_of h2.said 0
  have r1 : V.cell? ⟨w.heap.size + 1, 0 + 1, none⟩ = some (.int .i64 0) := cell_of h2.said 1
  have r2 : V.cell? ⟨w.heap.size + 1, 0 + 2, none⟩ = some (.int .i64 0) := cell_of h2.said 2
  have q0 : V.frozen? ⟨w.heap.size + 1, 0, none⟩ = false := free_of h2.said 0
  have q1 : V.frozen? ⟨w.heap.size + 1, 0 + 1, none⟩ = false := free_of h2.said 1
  have q2 : V.frozen? ⟨w.heap.size + 1, 0 + 2, none⟩ = false := free_of h2.said 2
  have HST : Hid (x.step s = (x.reads.1, ⟨x.readL, 0, x.reads.2⟩)) := by show _ = _; unfold St.step; rw [if_neg (by rw [hk]; decide), if_neg (by rw [hk]; decide), if_pos hk]
  rw [hk] at s0 HV
  clear h h2 hVV
  have HM := hide (dread_any V p F x HC.out.disk HC.out.fine HC.out.room)
  go_enter Tryd.func14, Tryd.ntmps14
  go_wp2_with fail
  rw [← HV.out]
  refine HM.out.mono ?_
  rintro r' w1 ⟨v, F1, rfl, hA1, hA2, hD1, hf1, hs1⟩
  have HA : Hid (AnsQ V F1 v x.readL w1) := ⟨hA1, hA2⟩
  have HD := hide hD1
  have HF1 := hide hf1
  have HS := hide hs1
  have hR := hf1.block (w.heap.size + 1) (by rw [HT.out.size]; omega) HRN.out
  have hR2 := hR.trans HT.out.said
  have HR := hide hR2
  have t0 : w1.cell? ⟨w.heap.size + 1, 0, none⟩ = some (.slice none 0 0) := cell_of hR2 0
  have t1 : w1.cell? ⟨w.heap.size + 1, 0 + 1, none⟩ = some (.int .i64 0) := cell_of hR2 1
  have t2 : w1.cell? ⟨w.heap.size + 1, 0 + 2, none⟩ = some (.int .i64 0) := cell_of hR2 2
  have p0 : w1.frozen? ⟨w.heap.size + 1, 0, none⟩ = false := free_of hR2 0
  have p1 : w1.frozen? ⟨w.heap.size + 1, 0 + 1, none⟩ = false := free_of hR2 1
  have p2 : w1.frozen? ⟨w.heap.size + 1, 0 + 2, none⟩ = false := free_of hR2 2
  obtain ⟨ov, cv, rfl, _⟩ := own_slice hA1
  generalize x.reads.2 = n at *
  generalize x.readL.length = nv at *
  clear hR hR2 hf1 hs1 hD1 hA1 hA2 s0 s2 s3 s4 r0 r1 r2 q0 q1 q2 HM
  go_wp2
  refine bodyPost_ret (results_c rfl _ rfl (range_of (l := [(.slice ov nv cv), .int .i64 0, .int .i64 (n : Int)]) (put_three HR.out (.slice ov nv cv) (.int .i64 0) (.int .i64 (n : Int)))) Tryd.underlying45 rfl sizeSaid) rfl ?_
  rw [HST.out]
  exact actsQ_fin HT.out.below (Nat.le_succ _) (by rw [HT.out.size]; omega) HA.out HD.out HF1.out HLT.out HS.out _ _

set_option maxRecDepth 100000 in
set_option maxHeartbeats 1600000 in
theorem told_5 (w : World) (p : Nat) (F : List Nat) (x : St) (s : Sp) (h : CanQ w p F x s) (hk : s.k = 5) :
    Calls Tryd.prog 14 #[ptr p, spv s] w fun r' w' => ActsQ w p F (x.step s).1 (x.step s).2 r' w' := by
  obtain ⟨V, hVV⟩ : ∃ V, V = (w.alloc (.cells #[.int .i64 s.k, .int .i64 s.o, .int .i64 s.n, .int .i64 s.m, .string s.t] 38)).alloc (.cells #[.slice none 0 0, .int .i64 0, .int .i64 0] 45) := ⟨_, rfl⟩
  have h2 : Two w V s := by rw [hVV]; exact two_of w s
  have HT := hide h2
  have HV := hide hVV
  have HC := hide (h.v h2.below)
  have HLT := hide h.disk.lt
  have HRN : Hid (w.heap.size + 1 ∉ F) := fun hm => by have := h.disk.lt _ hm; omega
  have s0 : V.cell? ⟨w.heap.size, 0, none⟩ = some (.int .i64 s.k) := cell_of h2.step 0
  have s2 : V.cell? ⟨w.heap.size, 2, none⟩ = some (.int .i64 s.n) := cell_of h2.step 2
  have s3 : V.cell? ⟨w.heap.size, 3, none⟩ = some (.int .i64 s.m) := cell_of h2.step 3
  have s4 : V.cell? ⟨w.heap.size, 4, none⟩ = some (.string s.t) := cell_of h2.step 4
  have r0 : V.cell? ⟨w.heap.size + 1, 0, none⟩ = some (.slice none 0 0) := cell_of h2.said 0
  have r1 : V.cell? ⟨w.heap.size + 1, 0 + 1, none⟩ = some (.int .i64 0) := cell_of h2.said 1
  have r2 : V.cell? ⟨w.heap.size + 1, 0 + 2, none⟩ = some (.int .i64 0) := cell_of h2.said 2
  have q0 : V.frozen? ⟨w.heap.size + 1, 0, none⟩ = false := free_of h2.said 0
  have q1 : V.frozen? ⟨w.heap.size + 1, 0 + 1, none⟩ = false := free_of h2.said 1
  have q2 : V.frozen? ⟨w.heap.size + 1, 0 + 2, none⟩ = false := free_of h2.said 2
  have HST : Hid (x.step s = (x.arm s.n s.m, ⟨[], 0, 0⟩)) := by show _ = _; unfold St.step; rw [if_neg (by rw [hk]; decide), if_neg (by rw [hk]; decide), if_neg (by rw [hk]; decide), if_neg (by rw [hk]; decide), if_pos hk]
  rw [hk] at s0 HV
  clear h h2 hVV
  have HM := hide (darm_any V p F x s.n s.m HC.out.disk HC.out.room)
  go_enter Tryd.func14, Tryd.ntmps14
  go_wp2_with fail
  rw [← HV.out]
  refine HM.out.mono ?_
  rintro r' w1 ⟨rfl, m1⟩
  obtain ⟨F1, hD1, hf1, hs1⟩ := m1
  have HD := hide hD1
  have HF1 := hide hf1
  have HS := hide hs1
  have hR := hf1.block (w.heap.size + 1) (by rw [HT.out.size]; omega) HRN.out
  have hR2 := hR.trans HT.out.said
  have HR := hide hR2
  have t0 : w1.cell? ⟨w.heap.size + 1, 0, none⟩ = some (.slice none 0 0) := cell_of hR2 0
  have t1 : w1.cell? ⟨w.heap.size + 1, 0 + 1, none⟩ = some (.int .i64 0) := cell_of hR2 1
  have t2 : w1.cell? ⟨w.heap.size + 1, 0 + 2, none⟩ = some (.int .i64 0) := cell_of hR2 2
  have p0 : w1.frozen? ⟨w.heap.size + 1, 0, none⟩ = false := free_of hR2 0
  have p1 : w1.frozen? ⟨w.heap.size + 1, 0 + 1, none⟩ = false := free_of hR2 1
  have p2 : w1.frozen? ⟨w.heap.size + 1, 0 + 2, none⟩ = false := free_of hR2 2
  have HA : Hid (AnsQ V F1 (.slice none 0 0) [] w1) := ansQ_nil _ _ _
  clear hR hR2 hf1 hs1 hD1 s0 s2 s3 s4 r0 r1 r2 q0 q1 q2 HM
  go_wp2
  refine bodyPost_ret (results_c rfl _ rfl (range_of (l := [(.slice none 0 0), .int .i64 0, .int .i64 0]) (put_three HR.out (.slice none 0 0) (.int .i64 0) (.int .i64 0))) Tryd.underlying45 rfl sizeSaid) rfl ?_
  rw [HST.out]
  exact actsQ_fin HT.out.below (Nat.le_succ _) (by rw [HT.out.size]; omega) HA.out HD.out HF1.out HLT.out HS.out _ _

set_option maxRecDepth 100000 in
set_option maxHeartbeats 1600000 in
theorem told_6 (w : World) (p : Nat) (F : List Nat) (x : St) (s : Sp) (h : CanQ w p F x s) (hk : s.k = 6) :
    Calls Tryd.prog 14 #[ptr p, spv s] w fun r' w' => ActsQ w p F (x.step s).1 (x.step s).2 r' w' := by
  obtain ⟨V, hVV⟩ : ∃ V, V = (w.alloc (.cells #[.int .i64 s.k, .int .i64 s.o, .int .i64 s.n, .int .i64 s.m, .string s.t] 38)).alloc (.cells #[.slice none 0 0, .int .i64 0, .int .i64 0] 45) := ⟨_, rfl⟩
  have h2 : Two w V s := by rw [hVV]; exact two_of w s
  have HT := hide h2
  have HV := hide hVV
  have HC := hide (h.v h2.below)
  have HLT := hide h.disk.lt
  have HRN : Hid (w.heap.size + 1 ∉ F) := fun hm => by have := h.disk.lt _ hm; omega
  have s0 : V.cell? ⟨w.heap.size, 0, none⟩ = some (.int .i64 s.k) := cell_of h2.step 0
  have s2 : V.cell? ⟨w.heap.size, 2, none⟩ = some (.int .i64 s.n) := cell_of h2.step 2
  have s3 : V.cell? ⟨w.heap.size, 3, none⟩ = some (.int .i64 s.m) := cell_of h2.step 3
  have s4 : V.cell? ⟨w.heap.size, 4, none⟩ = some (.string s.t) := cell_of h2.step 4
  have r0 : V.cell? ⟨w.heap.size + 1, 0, none⟩ = some (.slice none 0 0) := cell_of h2.said 0
  have r1 : V.cell? ⟨w.heap.size + 1, 0 + 1, none⟩ = some (.int .i64 0) := cell_of h2.said 1
  have r2 : V.cell? ⟨w.heap.size + 1, 0 + 2, none⟩ = some (.int .i64 0) := cell_of h2.said 2
  have q0 : V.frozen? ⟨w.heap.size + 1, 0, none⟩ = false := free_of h2.said 0
  have q1 : V.frozen? ⟨w.heap.size + 1, 0 + 1, none⟩ = false := free_of h2.said 1
  have q2 : V.frozen? ⟨w.heap.size + 1, 0 + 2, none⟩ = false := free_of h2.said 2
  have HST : Hid (x.step s = (x.crash s.n, ⟨[], 0, 0⟩)) := by show _ = _; unfold St.step; rw [if_neg (by rw [hk]; decide), if_neg (by rw [hk]; decide), if_neg (by rw [hk]; decide), if_neg (by rw [hk]; decide), if_neg (by rw [hk]; decide), if_pos hk]
  rw [hk] at s0 HV
  clear h h2 hVV
  have HM := hide (dcrash_any V p F x s.n HC.out.disk HC.out.fine)
  go_enter Tryd.func14, Tryd.ntmps14
  go_wp2_with fail
  rw [← HV.out]
  refine HM.out.mono ?_
  rintro r' w1 ⟨rfl, m1⟩
  obtain ⟨F1, hD1, hf1, hs1⟩ := m1
  have HD := hide hD1
  have HF1 := hide hf1
  have HS := hide hs1
  have hR := hf1.block (w.heap.size + 1) (by rw [HT.out.size]; omega) HRN.out
  have hR2 := hR.trans HT.out.said
  have HR := hide hR2
  have t0 : w1.cell? ⟨w.heap.size + 1, 0, none⟩ = some (.slice none 0 0) := cell_of hR2 0
  have t1 : w1.cell? ⟨w.heap.size + 1, 0 + 1, none⟩ = some (.int .i64 0) := cell_of hR2 1
  have t2 : w1.cell? ⟨w.heap.size + 1, 0 + 2, none⟩ = some (.int .i64 0) := cell_of hR2 2
  have p0 : w1.frozen? ⟨w.heap.size + 1, 0, none⟩ = false := free_of hR2 0
  have p1 : w1.frozen? ⟨w.heap.size + 1, 0 + 1, none⟩ = false := free_of hR2 1
  have p2 : w1.frozen? ⟨w.heap.size + 1, 0 + 2, none⟩ = false := free_of hR2 2
  have HA : Hid (AnsQ V F1 (.slice none 0 0) [] w1) := ansQ_nil _ _ _
  clear hR hR2 hf1 hs1 hD1 s0 s2 s3 s4 r0 r1 r2 q0 q1 q2 HM
  go_wp2
  refine bodyPost_ret (results_c rfl _ rfl (range_of (l := [(.slice none 0 0), .int .i64 0, .int .i64 0]) (put_three HR.out (.slice none 0 0) (.int .i64 0) (.int .i64 0))) Tryd.underlying45 rfl sizeSaid) rfl ?_
  rw [HST.out]
  exact actsQ_fin HT.out.below (Nat.le_succ _) (by rw [HT.out.size]; omega) HA.out HD.out HF1.out HLT.out HS.out _ _

set_option maxRecDepth 100000 in
set_option maxHeartbeats 1600000 in
theorem told_8 (w : World) (p : Nat) (F : List Nat) (x : St) (s : Sp) (h : CanQ w p F x s) (hk : s.k = 8) :
    Calls Tryd.prog 14 #[ptr p, spv s] w fun r' w' => ActsQ w p F (x.step s).1 (x.step s).2 r' w' := by
  obtain ⟨V, hVV⟩ : ∃ V, V = (w.alloc (.cells #[.int .i64 s.k, .int .i64 s.o, .int .i64 s.n, .int .i64 s.m, .string s.t] 38)).alloc (.cells #[.slice none 0 0, .int .i64 0, .int .i64 0] 45) := ⟨_, rfl⟩
  have h2 : Two w V s := by rw [hVV]; exact two_of w s
  have HT := hide h2
  have HV := hide hVV
  have HC := hide (h.v h2.below)
  have HLT := hide h.disk.lt
  have HRN : Hid (w.heap.size + 1 ∉ F) := fun hm => by have := h.disk.lt _ hm; omega
  have s0 : V.cell? ⟨w.heap.size, 0, none⟩ = some (.int .i64 s.k) := cell_of h2.step 0
  have s2 : V.cell? ⟨w.heap.size, 2, none⟩ = some (.int .i64 s.n) := cell_of h2.step 2
  have s3 : V.cell? ⟨w.heap.size, 3, none⟩ = some (.int .i64 s.m) := cell_of h2.step 3
  have s4 : V.cell? ⟨w.heap.size, 4, none⟩ = some (.string s.t) := cell_of h2.step 4
  have r0 : V.cell? ⟨w.heap.size + 1, 0, none⟩ = some (.slice none 0 0) := cell_of h2.said 0
  have r1 : V.cell? ⟨w.heap.size + 1, 0 + 1, none⟩ = some (.int .i64 0) := cell_of h2.said 1
  have r2 : V.cell? ⟨w.heap.size + 1, 0 + 2, none⟩ = some (.int .i64 0) := cell_of h2.said 2
  have q0 : V.frozen? ⟨w.heap.size + 1, 0, none⟩ = false := free_of h2.said 0
  have q1 : V.frozen? ⟨w.heap.size + 1, 0 + 1, none⟩ = false := free_of h2.said 1
  have q2 : V.frozen? ⟨w.heap.size + 1, 0 + 2, none⟩ = false := free_of h2.said 2
  have HST : Hid (x.step s = (x.revive, ⟨[], 0, 0⟩)) := by show _ = _; unfold St.step; rw [if_neg (by rw [hk]; decide), if_neg (by rw [hk]; decide), if_neg (by rw [hk]; decide), if_neg (by rw [hk]; decide), if_neg (by rw [hk]; decide), if_neg (by rw [hk]; decide), if_neg (by rw [hk]; decide), if_pos hk]
  rw [hk] at s0 HV
  clear h h2 hVV
  have HM := hide (drevive_any V p F (sq x) HC.out.disk)
  go_enter Tryd.func14, Tryd.ntmps14
  go_wp2_with fail
  rw [← HV.out]
  refine HM.out.mono ?_
  rintro r' w1 ⟨rfl, m1⟩
  obtain ⟨F1, hD1, hf1, hs1⟩ := m1
  have HD := hide hD1
  have HF1 := hide hf1
  have HS := hide hs1
  have hR := hf1.block (w.heap.size + 1) (by rw [HT.out.size]; omega) HRN.out
  have hR2 := hR.trans HT.out.said
  have HR := hide hR2
  have t0 : w1.cell? ⟨w.heap.size + 1, 0, none⟩ = some (.slice none 0 0) := cell_of hR2 0
  have t1 : w1.cell? ⟨w.heap.size + 1, 0 + 1, none⟩ = some (.int .i64 0) := cell_of hR2 1
  have t2 : w1.cell? ⟨w.heap.size + 1, 0 + 2, none⟩ = some (.int .i64 0) := cell_of hR2 2
  have p0 : w1.frozen? ⟨w.heap.size + 1, 0, none⟩ = false := free_of hR2 0
  have p1 : w1.frozen? ⟨w.heap.size + 1, 0 + 1, none⟩ = false := free_of hR2 1
  have p2 : w1.frozen? ⟨w.heap.size + 1, 0 + 2, none⟩ = false := free_of hR2 2
  have HA : Hid (AnsQ V F1 (.slice none 0 0) [] w1) := ansQ_nil _ _ _
  clear hR hR2 hf1 hs1 hD1 s0 s2 s3 s4 r0 r1 r2 q0 q1 q2 HM
  go_wp2
  refine bodyPost_ret (results_c rfl _ rfl (range_of (l := [(.slice none 0 0), .int .i64 0, .int .i64 0]) (put_three HR.out (.slice none 0 0) (.int .i64 0) (.int .i64 0))) Tryd.underlying45 rfl sizeSaid) rfl ?_
  rw [HST.out]
  exact actsQ_fin HT.out.below (Nat.le_succ _) (by rw [HT.out.size]; omega) HA.out HD.out HF1.out HLT.out HS.out _ _

set_option maxRecDepth 100000 in
set_option maxHeartbeats 1600000 in
theorem told_7 (w : World) (p : Nat) (F : List Nat) (x : St) (s : Sp) (h : CanQ w p F x s) (hk : s.k = 7) :
    Calls Tryd.prog 14 #[ptr p, spv s] w fun r' w' => ActsQ w p F (x.step s).1 (x.step s).2 r' w' := by
  obtain ⟨V, hVV⟩ : ∃ V, V = (w.alloc (.cells #[.int .i64 s.k, .int .i64 s.o, .int .i64 s.n, .int .i64 s.m, .string s.t] 38)).alloc (.cells #[.slice none 0 0, .int .i64 0, .int .i64 0] 45) := ⟨_, rfl⟩
  have h2 : Two w V s := by rw [hVV]; exact two_of w s
  have HT := hide h2
  have HV := hide hVV
  have HC := hide (h.v h2.below)
  have HLT := hide h.disk.lt
  have HRN : Hid (w.heap.size + 1 ∉ F) := fun hm => by have := h.disk.lt _ hm; omega
  have s0 : V.cell? ⟨w.heap.size, 0, none⟩ = some (.int .i64 s.k) := cell_of h2.step 0
  have s2 : V.cell? ⟨w.heap.size, 2, none⟩ = some (.int .i64 s.n) := cell_of h2.step 2
  have s3 : V.cell? ⟨w.heap.size, 3, none⟩ = some (.int .i64 s.m) := cell_of h2.step 3
  have s4 : V.cell? ⟨w.heap.size, 4, none⟩ = some (.string s.t) := cell_of h2.step 4
  have r0 : V.cell? ⟨w.heap.size + 1, 0, none⟩ = some (.slice none 0 0) := cell_of h2.said 0
  have r1 : V.cell? ⟨w.heap.size + 1, 0 + 1, none⟩ = some (.int .i64 0) := cell_of h2.said 1
  have r2 : V.cell? ⟨w.heap.size + 1, 0 + 2, none⟩ = some (.int .i64 0) := cell_of h2.said 2
  have q0 : V.frozen? ⟨w.heap.size + 1, 0, none⟩ = false := free_of h2.said 0
  have q1 : V.frozen? ⟨w.heap.size + 1, 0 + 1, none⟩ = false := free_of h2.said 1
  have q2 : V.frozen? ⟨w.heap.size + 1, 0 + 2, none⟩ = false := free_of h2.said 2
  have HST : Hid (x.step s = (x, ⟨[], x.deadN, 0⟩)) := by show _ = _; unfold St.step; rw [if_neg (by rw [hk]; decide), if_neg (by rw [hk]; decide), if_neg (by rw [hk]; decide), if_neg (by rw [hk]; decide), if_neg (by rw [hk]; decide), if_neg (by rw [hk]; decide), if_pos hk]
  rw [hk] at s0 HV
  clear h h2 hVV
  have HM := hide (ddead_any V p F (sq x) HC.out.disk)
  have hsd : (sq x).d = x.d := rfl
  rw [hsd] at HM
  have HR := hide HT.out.said
  have HA : Hid (AnsQ V F (.slice none 0 0) [] V) := ansQ_nil _ _ _
  have HD := hide HC.out.disk
  have HF1 := hide (Fr.refl F V)
  have HS : Hid (∀ k ∈ F, k ∈ F ∨ V.heap.size ≤ k) := fun k hk => Or.inl hk
  unfold St.deadN at HST
  clear hsd
  cases hd : x.d with
  | true =>
    rw [hd] at HM HST
    rw [if_pos rfl] at HST
    go_enter Tryd.func14, Tryd.ntmps14
    go_wp2_with fail
    rw [← HV.out]
    refine HM.out.mono ?_
    rintro r' w1 ⟨rfl, h1⟩
    obtain rfl := h1.symm
    go_wp2
    refine bodyPost_ret (results_c rfl _ rfl (range_of (l := [(.slice none 0 0), .int .i64 1, .int .i64 0]) (put_three HR.out (.slice none 0 0) (.int .i64 1) (.int .i64 0))) Tryd.underlying45 rfl sizeSaid) rfl ?_
    rw [HST.out]
    exact actsQ_fin HT.out.below (Nat.le_succ _) (by rw [HT.out.size]; omega) HA.out HD.out HF1.out HLT.out HS.out _ _
  | false =>
    rw [hd] at HM HST
    rw [if_neg (by decide)] at HST
    go_enter Tryd.func14, Tryd.ntmps14
    go_wp2_with fail
    rw [← HV.out]
    refine HM.out.mono ?_
    rintro r' w1 ⟨rfl, h1⟩
    obtain rfl := h1.symm
    go_wp2
    refine bodyPost_ret (results_c rfl _ rfl (range_of (l := [(.slice none 0 0), .int .i64 0, .int .i64 0]) (put_three HR.out (.slice none 0 0) (.int .i64 0) (.int .i64 0))) Tryd.underlying45 rfl sizeSaid) rfl ?_
    rw [HST.out]
    exact actsQ_fin HT.out.below (Nat.le_succ _) (by rw [HT.out.size]; omega) HA.out HD.out HF1.out HLT.out HS.out _ _

set_option maxRecDepth 100000 in
set_option maxHeartbeats 1600000 in
theorem told_9 (w : World) (p : Nat) (F : List Nat) (x : St) (s : Sp) (h : CanQ w p F x s) (hk : s.k = 9) :
    Calls Tryd.prog 14 #[ptr p, spv s] w fun r' w' => ActsQ w p F (x.step s).1 (x.step s).2 r' w' := by
  obtain ⟨V, hVV⟩ : ∃ V, V = (w.alloc (.cells #[.int .i64 s.k, .int .i64 s.o, .int .i64 s.n, .int .i64 s.m, .string s.t] 38)).alloc (.cells #[.slice none 0 0, .int .i64 0, .int .i64 0] 45) := ⟨_, rfl⟩
  have h2 : Two w V s := by rw [hVV]; exact two_of w s
  have HT := hide h2
  have HV := hide hVV
  have HC := hide (h.v h2.below)
  have HLT := hide h.disk.lt
  have HRN : Hid (w.heap.size + 1 ∉ F) := fun hm => by have := h.disk.lt _ hm; omega
  have s0 : V.cell? ⟨w.heap.size, 0, none⟩ = some (.int .i64 s.k) := cell_of h2.step 0
  have s2 : V.cell? ⟨w.heap.size, 2, none⟩ = some (.int .i64 s.n) := cell_of h2.step 2
  have s3 : V.cell? ⟨w.heap.size, 3, none⟩ = some (.int .i64 s.m) := cell_of h2.step 3
  have s4 : V.cell? ⟨w.heap.size, 4, none⟩ = some (.string s.t) := cell_of h2.step 4
  have r0 : V.cell? ⟨w.heap.size + 1, 0, none⟩ = some (.slice none 0 0) := cell_of h2.said 0
  have r1 : V.cell? ⟨w.heap.size + 1, 0 + 1, none⟩ = some (.int .i64 0) := cell_of h2.said 1
  have r2 : V.cell? ⟨w.heap.size + 1, 0 + 2, none⟩ = some (.int .i64 0) := cell_of h2.said 2
  have q0 : V.frozen? ⟨w.heap.size + 1, 0, none⟩ = false := free_of h2.said 0
  have q1 : V.frozen? ⟨w.heap.size + 1, 0 + 1, none⟩ = false := free_of h2.said 1
  have q2 : V.frozen? ⟨w.heap.size + 1, 0 + 2, none⟩ = false := free_of h2.said 2
  have HST : Hid (x.step s = (x, ⟨x.b, x.s, 0⟩)) := by show _ = _; unfold St.step; rw [if_neg (by rw [hk]; decide), if_neg (by rw [hk]; decide), if_neg (by rw [hk]; decide), if_neg (by rw [hk]; decide), if_neg (by rw [hk]; decide), if_neg (by rw [hk]; decide), if_neg (by rw [hk]; decide), if_neg (by rw [hk]; decide), if_pos hk]
  rw [hk] at s0 HV
  clear h h2 hVV
  have HM := hide (dlook_any V p F x HC.out.disk HC.out.fine)
  go_enter Tryd.func14, Tryd.ntmps14
  go_wp2_with fail
  rw [← HV.out]
  refine HM.out.mono ?_
  rintro r' w1 ⟨v, rfl, hA1, b1⟩
  have hf1 : Fr F V w1 := Fr.of b1
  have HA : Hid (AnsQ V F v x.b w1) := ⟨hA1, fun b hb hm => by
    have h5 := own_ge hA1 b hb
    have h6 := HC.out.disk.lt b hm
    omega⟩
  have HD := hide (HC.out.disk.below b1)
  have HF1 := hide hf1
  have HS : Hid (∀ k ∈ F, k ∈ F ∨ V.heap.size ≤ k) := fun k hk => Or.inl hk
  have hR := hf1.block (w.heap.size + 1) (by rw [HT.out.size]; omega) HRN.out
  have hR2 := hR.trans HT.out.said
  have HR := hide hR2
  have t0 : w1.cell? ⟨w.heap.size + 1, 0, none⟩ = some (.slice none 0 0) := cell_of hR2 0
  have t1 : w1.cell? ⟨w.heap.size + 1, 0 + 1, none⟩ = some (.int .i64 0) := cell_of hR2 1
  have t2 : w1.cell? ⟨w.heap.size + 1, 0 + 2, none⟩ = some (.int .i64 0) := cell_of hR2 2
  have p0 : w1.frozen? ⟨w.heap.size + 1, 0, none⟩ = false := free_of hR2 0
  have p1 : w1.frozen? ⟨w.heap.size + 1, 0 + 1, none⟩ = false := free_of hR2 1
  have p2 : w1.frozen? ⟨w.heap.size + 1, 0 + 2, none⟩ = false := free_of hR2 2
  obtain ⟨ov, cv, rfl, _⟩ := own_slice hA1
  generalize x.b.length = nv at *
  clear hR hR2 hf1 b1 hA1 s0 s2 s3 s4 r0 r1 r2 q0 q1 q2 HM
  go_wp2
  refine bodyPost_ret (results_c rfl _ rfl (range_of (l := [(.slice ov nv cv), .int .i64 (x.s : Int), .int .i64 0]) (put_three HR.out (.slice ov nv cv) (.int .i64 (x.s : Int)) (.int .i64 0))) Tryd.underlying45 rfl sizeSaid) rfl ?_
  rw [HST.out]
  exact actsQ_fin HT.out.below (Nat.le_succ _) (by rw [HT.out.size]; omega) HA.out HD.out HF1.out HLT.out HS.out _ _

set_option maxRecDepth 100000 in
set_option maxHeartbeats 1600000 in
theorem told_0 (w : World) (p : Nat) (F : List Nat) (x : St) (s : Sp) (h : CanQ w p F x s) (h1 : s.k ≠ 1) (h2 : s.k ≠ 2) (h3 : s.k ≠ 3) (h4 : s.k ≠ 4) (h5 : s.k ≠ 5) (h6 : s.k ≠ 6) (h7 : s.k ≠ 7) (h8 : s.k ≠ 8) (h9 : s.k ≠ 9) :
    Calls Tryd.prog 14 #[ptr p, spv s] w fun r' w' => ActsQ w p F (x.step s).1 (x.step s).2 r' w' := by
  obtain ⟨V, hVV⟩ : ∃ V, V = (w.alloc (.cells #[.int .i64 s.k, .int .i64 s.o, .int .i64 s.n, .int .i64 s.m, .string s.t] 38)).alloc (.cells #[.slice none 0 0, .int .i64 0, .int .i64 0] 45) := ⟨_, rfl⟩
  have hTw : Two w V s := by rw [hVV]; exact two_of w s
  have HT := hide hTw
  have HV := hide hVV
  have HC := hide (h.v hTw.below)
  have HLT := hide h.disk.lt
  have HRN : Hid (w.heap.size + 1 ∉ F) := fun hm => by have := h.disk.lt _ hm; omega
  have s0 : V.cell? ⟨w.heap.size, 0, none⟩ = some (.int .i64 s.k) := cell_of hTw.step 0
  have s2 : V.cell? ⟨w.heap.size, 2, none⟩ = some (.int .i64 s.n) := cell_of hTw.step 2
  have s3 : V.cell? ⟨w.heap.size, 3, none⟩ = some (.int .i64 s.m) := cell_of hTw.step 3
  have s4 : V.cell? ⟨w.heap.size, 4, none⟩ = some (.string s.t) := cell_of hTw.step 4
  have r0 : V.cell? ⟨w.heap.size + 1, 0, none⟩ = some (.slice none 0 0) := cell_of hTw.said 0
  have r1 : V.cell? ⟨w.heap.size + 1, 0 + 1, none⟩ = some (.int .i64 0) := cell_of hTw.said 1
  have r2 : V.cell? ⟨w.heap.size + 1, 0 + 2, none⟩ = some (.int .i64 0) := cell_of hTw.said 2
  have q0 : V.frozen? ⟨w.heap.size + 1, 0, none⟩ = false := free_of hTw.said 0
  have q1 : V.frozen? ⟨w.heap.size + 1, 0 + 1, none⟩ = false := free_of hTw.said 1
  have q2 : V.frozen? ⟨w.heap.size + 1, 0 + 2, none⟩ = false := free_of hTw.said 2
  have HST : Hid (x.step s = (x, ⟨[], 0, 0⟩)) := by show _ = _; unfold St.step; rw [if_neg h1, if_neg h2, if_neg h3, if_neg h4, if_neg h5, if_neg h6, if_neg h7, if_neg h8, if_neg h9]
  have e1 : (s.k == 1) = false := beq_false_of_ne h1
  have e2 : (s.k == 2) = false := beq_false_of_ne h2
  have e3 : (s.k == 3) = false := beq_false_of_ne h3
  have e4 : (s.k == 4) = false := beq_false_of_ne h4
  have e5 : (s.k == 5) = false := beq_false_of_ne h5
  have e6 : (s.k == 6) = false := beq_false_of_ne h6
  have e7 : (s.k == 7) = false := beq_false_of_ne h7
  have e8 : (s.k == 8) = false := beq_false_of_ne h8
  have e9 : (s.k == 9) = false := beq_false_of_ne h9
  clear h hTw hVV
  have HR := hide HT.out.said
  have HD := hide HC.out.disk
  rw [HV.out] at s0 s2 s3 s4 r0 r1 r2 q0 q1 q2
  go_enter Tryd.func14, Tryd.ntmps14
  go_wp2
  rw [← HV.out]
  refine bodyPost_ret (results_c rfl _ rfl (range_of (l := [.slice none 0 0, .int .i64 0, .int .i64 0]) HR.out) Tryd.underlying45 rfl sizeSaid) rfl ?_
  rw [HST.out]
  exact ⟨.slice none 0 0, F, rfl, ansQ_nil _ _ _, HD.out, Fr.of HT.out.below, fun k hk => Or.inl hk⟩

theorem told_any (w : World) (p : Nat) (F : List Nat) (x : St) (s : Sp) (h : CanQ w p F x s) :
    Calls Tryd.prog 14 #[ptr p, spv s] w fun r' w' => ActsQ w p F (x.step s).1 (x.step s).2 r' w' := by
  by_cases h1 : s.k = 1
  · exact told_1 w p F x s h h1
  by_cases h2 : s.k = 2
  · exact told_2 w p F x s h h2
  by_cases h3 : s.k = 3
  · exact told_3 w p F x s h h3
  by_cases h4 : s.k = 4
  · exact told_4 w p F x s h h4
  by_cases h5 : s.k = 5
  · exact told_5 w p F x s h h5
  by_cases h6 : s.k = 6
  · exact told_6 w p F x s h h6
  by_cases h7 : s.k = 7
  · exact told_7 w p F x s h h7
  by_cases h8 : s.k = 8
  · exact told_8 w p F x s h h8
  by_cases h9 : s.k = 9
  · exact told_9 w p F x s h h9
  exact told_0 w p F x s h h1 h2 h3 h4 h5 h6 h7 h8 h9
end Go.Proofs.YtkamnkldgeaaaaaDoor.dr
