import Derived.Test.YtkamnkldgeaaaaaDoorDkMore
import Derived.Test.YtkamnkldgeaaaaaDoorKitB
namespace Go.Proofs.YtkamnkldgeaaaaaDoor.dk
open Go.ChangeShapes Go.WideShapes Go.ChangeAt Go.RowKit Go.Proofs.YtkamnkldgeaaaaaDoor.common

theorem put_three {w : World} {F : Nat} {t : TypeId} {x0 x1 x2 : Value} (h : w.heap[F]? = some (.cells #[x0, x1, x2] t)) (a0 a1 a2 : Value) : (((w.setCell ⟨F, 0, none⟩ a0).setCell ⟨F, 1, none⟩ a1).setCell ⟨F, 2, none⟩ a2).heap[F]? = some (.cells #[a0, a1, a2] t) := by
  have h0 : (w.setCell ⟨F, 0, none⟩ a0).heap[F]? = some (.cells #[a0, x1, x2] t) := set_of h 0 a0
  generalize w.setCell ⟨F, 0, none⟩ a0 = w0 at h0 ⊢
  have h1 : (w0.setCell ⟨F, 1, none⟩ a1).heap[F]? = some (.cells #[a0, a1, x2] t) := set_of h0 1 a1
  generalize w0.setCell ⟨F, 1, none⟩ a1 = w1 at h1 ⊢
  exact set_of h1 2 a2
theorem sizeSaid : (Tryd.prog.info? 45).map (·.size) = some 3 := by kernel_rfl
/-- a step as a value -/
abbrev spv (s : Sp) : Value := .agg #[.int .i64 s.k, .int .i64 s.o, .int .i64 s.n, .int .i64 s.m, .string s.t]
abbrev spc (s : Sp) : List Value := [.int .i64 s.k, .int .i64 s.o, .int .i64 s.n, .int .i64 s.m, .string s.t]
abbrev sdv (v : Value) (n : Int) (e : Nat) : Value := .agg #[v, .int .i64 n, .int .i64 (e : Int)]
/-- how a step ends -/
def Acts (w : World) (p : Nat) (F : List Nat) (y : St) (a : An) (r' : Ending) (w' : World) : Prop :=
  ∃ v F', r' = .returned (sdv v a.n a.e) ∧ Ans w F' v a.l w' ∧ Dk w' p F' y ∧ Fr F w w' ∧ ∀ k ∈ F', k ∈ F ∨ w.heap.size ≤ k
theorem num_errV (W : World) (e : Nat → Addr) (h : errw.Errs W e) (n : Nat) (hn : n = 0 ∨ n = 1 ∨ n = 9 ∨ n = 10) : Calls Tryd.prog 10 #[errV e n] W fun x w' => x = .returned (.int .i64 (n : Int)) ∧ w' = W := by
  rcases hn with rfl | rfl | rfl | rfl
  · exact errw.num_nil W
  · exact errw.num_0 W e h
  · exact errw.num_8 W e h
  · exact errw.num_9 W e h
theorem oper_err (x : St) (dying on : St → St) (err : Nat) (h : err = 0 ∨ err = 1 ∨ err = 9 ∨ err = 10) : (x.oper dying on err).2 = 0 ∨ (x.oper dying on err).2 = 1 ∨ (x.oper dying on err).2 = 9 ∨ (x.oper dying on err).2 = 10 := by
  rw [oper_gate]
  split
  · exact h
  · exact Or.inr (Or.inr (Or.inr rfl))
/-- the answer is written down -/
theorem acts_fin {w V w1 : World} {p : Nat} {F F' : List Nat} {y : St} {v : Value} {l : List UInt8} {R : Nat} (hV : Below w.heap.size w V) (hR : w.heap.size ≤ R) (hRV : R < V.heap.size) (hA : Ans V F' v l w1) (hD : Dk w1 p F' y) (hf : Fr F V w1) (hF : ∀ k ∈ F, k < w.heap.size) (hs : ∀ k ∈ F', k ∈ F ∨ V.heap.size ≤ k) (n : Int) (m : Nat) :
    Acts w p F y ⟨l, n, m⟩ (.returned (sdv v n m)) (((w1.setCell ⟨R, 0, none⟩ v).setCell ⟨R, 1, none⟩ (.int .i64 n)).setCell ⟨R, 2, none⟩ (.int .i64 (m : Int))) := by
  have hRF : R ∉ F' := fun hm => by
    rcases hs R hm with h | h
    · have := hF R h; omega
    · omega
  have hvs := hV.size
  have hk : ∀ k, k ≠ R → (((w1.setCell ⟨R, 0, none⟩ v).setCell ⟨R, 1, none⟩ (.int .i64 n)).setCell ⟨R, 2, none⟩ (.int .i64 (m : Int))).heap[k]? = w1.heap[k]? := fun k hk => by
    rw [set_other _ _ _ _ hk, set_other _ _ _ _ hk, set_other _ _ _ _ hk]
  refine ⟨v, F', rfl, ?_, hD.keep fun k hk1 => hk k (fun e => hRF (e ▸ hk1)), ?_, fun k hk => ?_⟩
  · rcases hA with ⟨h1, h2⟩ | ⟨g, h1, h2, h3, h4⟩
    · exact Or.inl ⟨h1, h2⟩
    · exact Or.inr ⟨g, h1, by omega, h3, (hk g (by omega)).trans h4⟩
  · have f1 : Fr F w w1 := (Fr.of hV).trans hf (fun i hi => Or.inl hi)
    exact ((f1.set _ _ (Or.inr hR)).set _ _ (Or.inr hR)).set _ _ (Or.inr hR)
  · rcases hs k hk with h | h
    · exact Or.inl h
    · exact Or.inr (by omega)
theorem Ans.below {w : World} {F' : List Nat} {v : Value} {l : List UInt8} {w1 w2 : World} (h : Ans w F' v l w1) (hb : Below w1.heap.size w1 w2) : Ans w F' v l w2 := by
  rcases h with h | ⟨g, h1, h2, h3, h4⟩
  · exact Or.inl h
  · exact Or.inr ⟨g, h1, h2, h3, h4.below hb⟩
theorem step_eq {x : St} {s : Sp} : x.step s = x.step s := rfl
/-- what a step asks for -/
structure Can (w : World) (K p : Nat) (F : List Nat) (x : St) (e : Nat → Addr) (s : Sp) : Prop where
  disk : Dk w p F x
  err : Er w K e
  low : ∀ k ∈ F, K ≤ k
  fine : Fine x
  text : s.t.size ≤ reachBytes
  room : (x.a.length + 1) * 16 ≤ 140737488355328
/-- the two blocks that act begins with -/
structure Two (w V : World) (s : Sp) : Prop where
  below : Below w.heap.size w V
  size : V.heap.size = w.heap.size + 2
  step : V.heap[w.heap.size]? = some (.cells #[.int .i64 s.k, .int .i64 s.o, .int .i64 s.n, .int .i64 s.m, .string s.t] 38)
  said : V.heap[w.heap.size + 1]? = some (.cells #[.slice none 0 0, .int .i64 0, .int .i64 0] 45)
theorem two_of (w : World) (s : Sp) : Two w ((w.alloc (.cells #[.int .i64 s.k, .int .i64 s.o, .int .i64 s.n, .int .i64 s.m, .string s.t] 38)).alloc (.cells #[.slice none 0 0, .int .i64 0, .int .i64 0] 45)) s := by
  refine ⟨((Below.refl _ _).alloc (Nat.le_refl _) _).alloc (by simp) _, by simp, ?_, ?_⟩
  · rw [heap_alloc_old _ _ (by simp)]; exact heap_alloc_new _ _
  · have := heap_alloc_new (w.alloc (.cells #[.int .i64 s.k, .int .i64 s.o, .int .i64 s.n, .int .i64 s.m, .string s.t] 38)) (.cells #[.slice none 0 0, .int .i64 0, .int .i64 0] 45)
    simpa using this
theorem Can.v {w V : World} {K p : Nat} {F : List Nat} {x : St} {e : Nat → Addr} {s : Sp} (h : Can w K p F x e s) (hb : Below w.heap.size w V) : Can V K p F x e s := ⟨h.disk.below hb, h.err.below hb, h.low, h.fine, h.text, h.room⟩

set_option maxRecDepth 100000 in
set_option maxHeartbeats 1600000 in
theorem act_1 (w : World) (K p : Nat) (F : List Nat) (x : St) (e : Nat → Addr) (s : Sp) (h : Can w K p F x e s) (hk : s.k = 1) :
    Calls Tryd.prog 12 #[ptr p, spv s] w fun r' w' => Acts w p F (x.step s).1 (x.step s).2 r' w' := by
  obtain ⟨V, hVV⟩ : ∃ V, V = (w.alloc (.cells #[.int .i64 s.k, .int .i64 s.o, .int .i64 s.n, .int .i64 s.m, .string s.t] 38)).alloc (.cells #[.slice none 0 0, .int .i64 0, .int .i64 0] 45) := ⟨_, rfl⟩
  have h2 : Two w V s := by rw [hVV]; exact two_of w s
  have HT := hide h2
  have HV := hide hVV
  have HC := hide (h.v h2.below)
  have HLT := hide h.disk.lt
  have HRN : Hid (w.heap.size + 1 ∉ F) := fun hm => by have := h.disk.lt _ hm; omega
  have s0 : V.cell? ⟨w.heap.size, 0, none⟩ = some (.int .i64 s.k) := cell_of h2.step 0
  have s2 : V.cell? ⟨w.heap.size, 2, none⟩ = some (.int .i64 s.n) := cell_of h2.step 2
  have s3 : V.cell? ⟨w.heap.size, 3, none⟩ = some (.int .i64 s.m) := cell_of h2.step 3
  have s4 : V.cell? ⟨w.heap.size, 4, none⟩ = some (.string s.t) := cell_of h2.step 4
  have r0 : V.cell? ⟨w.heap.size + 1, 0, none⟩ = some (.slice none 0 0) := cell_of h2.said 0
  have r1 : V.cell? ⟨w.heap.size + 1, 0 + 1, none⟩ = some (.int .i64 0) := cell_of h2.said 1
  have r2 : V.cell? ⟨w.heap.size + 1, 0 + 2, none⟩ = some (.int .i64 0) := cell_of h2.said 2
  have q0 : V.frozen? ⟨w.heap.size + 1, 0, none⟩ = false := free_of h2.said 0
  have q1 : V.frozen? ⟨w.heap.size + 1, 0 + 1, none⟩ = false := free_of h2.said 1
  have q2 : V.frozen? ⟨w.heap.size + 1, 0 + 2, none⟩ = false := free_of h2.said 2
  have HST : Hid (x.step s = ((x.append s.t.data.toList).1, ⟨[], 0, (x.append s.t.data.toList).2⟩)) := by show _ = _; unfold St.step; rw [if_pos hk]
  have HERR : Hid ((x.append s.t.data.toList).2 = 0 ∨ (x.append s.t.data.toList).2 = 1 ∨ (x.append s.t.data.toList).2 = 9 ∨ (x.append s.t.data.toList).2 = 10) := by refine oper_err _ _ _ _ ?_; split; exact Or.inl rfl; exact Or.inr (Or.inr (Or.inl rfl))
  rw [hk] at s0 HV
  clear h h2 hVV
  have HBY := hide (kitw.bytes_any s.t V HC.out.text)
  go_enter Tryd.func12, Tryd.ntmps12
  go_wp2_with fail
  rw [← HV.out]
  refine HBY.out.mono ?_
  rintro r' wb ⟨v, rfl, ob, nb, bb⟩
  have hAP := append_any wb K p F x (HC.out.disk.below bb) v s.t.data.toList (rd_own (by rw [Array.length_toList]; exact ob)) (fun _ a n c hv hm => by
    have h1 := HC.out.disk.lt _ hm
    rcases ob.2 with ⟨e1, _⟩ | ⟨g, cap, cur, e1, e2, _⟩
    · rw [hv] at e1; cases e1
    · rw [hv] at e1; cases e1; exact absurd h1 (Nat.not_lt.2 e2)) (fun _ a n c hv => by
    rcases ob.2 with ⟨e1, _⟩ | ⟨g, cap, cur, e1, e2, e3, _⟩
    · rw [hv] at e1; cases e1
    · rw [hv] at e1; cases e1; exact (Array.getElem?_eq_some_iff.1 e3).1) e (HC.out.err.below bb) HC.out.low HC.out.fine (by rw [Array.length_toList]; have := HC.out.text; unfold reachBytes at this; show s.t.size ≤ _; omega)
  have HAP := hide hAP
  have HBB := hide bb
  obtain ⟨ob1, cb1, rfl⟩ : ∃ o c, v = .slice o s.t.size c := by
    rcases ob.2 with ⟨e1, e2⟩ | ⟨g, cap, cur, e1, _⟩
    · exact ⟨none, 0, by rw [e1, e2]⟩
    · exact ⟨_, cap, e1⟩
  clear hAP ob nb bb HBY
  go_wp2_with fail
  refine HAP.out.mono ?_
  rintro r' w1 ⟨rfl, m1⟩
  obtain ⟨F1, hD1, hf0, hs0⟩ := m1
  have hf1 : Fr F V w1 := (Fr.of HBB.out).trans hf0 (fun i hi => Or.inl hi)
  have hs1 : ∀ k ∈ F1, k ∈ F ∨ V.heap.size ≤ k := fun k hk => (hs0 k hk).elim Or.inl (fun h => Or.inr (Nat.le_trans HBB.out.size h))
  have HD := hide hD1
  have HF1 := hide hf1
  have HS := hide hs1
  have hR := hf1.block (w.heap.size + 1) (by rw [HT.out.size]; omega) HRN.out
  have hR2 := hR.trans HT.out.said
  have HR := hide hR2
  have t0 : w1.cell? ⟨w.heap.size + 1, 0, none⟩ = some (.slice none 0 0) := cell_of hR2 0
  have t1 : w1.cell? ⟨w.heap.size + 1, 0 + 1, none⟩ = some (.int .i64 0) := cell_of hR2 1
  have t2 : w1.cell? ⟨w.heap.size + 1, 0 + 2, none⟩ = some (.int .i64 0) := cell_of hR2 2
  have p0 : w1.frozen? ⟨w.heap.size + 1, 0, none⟩ = false := free_of hR2 0
  have p1 : w1.frozen? ⟨w.heap.size + 1, 0 + 1, none⟩ = false := free_of hR2 1
  have p2 : w1.frozen? ⟨w.heap.size + 1, 0 + 2, none⟩ = false := free_of hR2 2
  have HA : Hid (Ans V F1 (.slice none 0 0) [] w1) := Or.inl ⟨rfl, rfl⟩
  have HN := hide (num_errV w1 e (HC.out.err.fr hf1 HC.out.low).errs _ HERR.out)
  generalize (x.append s.t.data.toList).2 = n at *
  clear hR hR2 hf0 hf1 hs0 hs1 hD1 s0 s2 s3 s4 r0 r1 r2 q0 q1 q2 HAP HBB HERR
  go_wp2_with fail
  refine HN.out.mono ?_
  rintro r' w2 ⟨rfl, h2⟩
  obtain rfl := h2.symm
  go_wp2
  refine bodyPost_ret (results_c rfl _ rfl (range_of (l := [(.slice none 0 0), .int .i64 0, .int .i64 (n : Int)]) (put_three HR.out (.slice none 0 0) (.int .i64 0) (.int .i64 (n : Int)))) Tryd.underlying45 rfl sizeSaid) rfl ?_
  rw [HST.out]
  exact acts_fin HT.out.below (Nat.le_succ _) (by rw [HT.out.size]; omega) HA.out HD.out HF1.out HLT.out HS.out _ _

set_option maxRecDepth 100000 in
set_option maxHeartbeats 1600000 in
theorem act_2 (w : World) (K p : Nat) (F : List Nat) (x : St) (e : Nat → Addr) (s : Sp) (h : Can w K p F x e s) (hk : s.k = 2) :
    Calls Tryd.prog 12 #[ptr p, spv s] w fun r' w' => Acts w p F (x.step s).1 (x.step s).2 r' w' := by
  obtain ⟨V, hVV⟩ : ∃ V, V = (w.alloc (.cells #[.int .i64 s.k, .int .i64 s.o, .int .i64 s.n, .int .i64 s.m, .string s.t] 38)).alloc (.cells #[.slice none 0 0, .int .i64 0, .int .i64 0] 45) := ⟨_, rfl⟩
  have h2 : Two w V s := by rw [hVV]; exact two_of w s
  have HT := hide h2
  have HV := hide hVV
  have HC := hide (h.v h2.below)
  have HLT := hide h.disk.lt
  have HRN : Hid (w.heap.size + 1 ∉ F) := fun hm => by have := h.disk.lt _ hm; omega
  have s0 : V.cell? ⟨w.heap.size, 0, none⟩ = some (.int .i64 s.k) := cell_of h2.step 0
  have s2 : V.cell? ⟨w.heap.size, 2, none⟩ = some (.int .i64 s.n) := cell_of h2.step 2
  have s3 : V.cell? ⟨w.heap.size, 3, none⟩ = some (.int .i64 s.m) := cell_of h2.step 3
  have s4 : V.cell? ⟨w.heap.size, 4, none⟩ = some (.string s.t) := cell_of h2.step 4
  have r0 : V.cell? ⟨w.heap.size + 1, 0, none⟩ = some (.slice none 0 0) := cell_of h2.said 0
  have r1 : V.cell? ⟨w.heap.size + 1, 0 + 1, none⟩ = some (.int .i64 0) := cell_of h2.said 1
  have r2 : V.cell? ⟨w.heap.size + 1, 0 + 2, none⟩ = some (.int .i64 0) := cell_of h2.said 2
  have q0 : V.frozen? ⟨w.heap.size + 1, 0, none⟩ = false := free_of h2.said 0
  have q1 : V.frozen? ⟨w.heap.size + 1, 0 + 1, none⟩ = false := free_of h2.said 1
  have q2 : V.frozen? ⟨w.heap.size + 1, 0 + 2, none⟩ = false := free_of h2.said 2
  have HST : Hid (x.step s = (x.syncs.1, ⟨[], 0, x.syncs.2⟩)) := by show _ = _; unfold St.step; rw [if_neg (by rw [hk]; decide), if_pos hk]
  have HERR : Hid (x.syncs.2 = 0 ∨ x.syncs.2 = 1 ∨ x.syncs.2 = 9 ∨ x.syncs.2 = 10) := by exact oper_err _ _ _ _ (Or.inl rfl)
  rw [hk] at s0 HV
  clear h h2 hVV
  have HM := hide (sync_any V K p F x HC.out.disk e HC.out.err.ed HC.out.low HC.out.fine)
  go_enter Tryd.func12, Tryd.ntmps12
  go_wp2_with fail
  rw [← HV.out]
  refine HM.out.mono ?_
  rintro r' w1 ⟨rfl, m1⟩
  obtain ⟨F1, hD1, hf1, hs1⟩ := m1
  have HD := hide hD1
  have HF1 := hide hf1
  have HS := hide hs1
  have hR := hf1.block (w.heap.size + 1) (by rw [HT.out.size]; omega) HRN.out
  have hR2 := hR.trans HT.out.said
  have HR := hide hR2
  have t0 : w1.cell? ⟨w.heap.size + 1, 0, none⟩ = some (.slice none 0 0) := cell_of hR2 0
  have t1 : w1.cell? ⟨w.heap.size + 1, 0 + 1, none⟩ = some (.int .i64 0) := cell_of hR2 1
  have t2 : w1.cell? ⟨w.heap.size + 1, 0 + 2, none⟩ = some (.int .i64 0) := cell_of hR2 2
  have p0 : w1.frozen? ⟨w.heap.size + 1, 0, none⟩ = false := free_of hR2 0
  have p1 : w1.frozen? ⟨w.heap.size + 1, 0 + 1, none⟩ = false := free_of hR2 1
  have p2 : w1.frozen? ⟨w.heap.size + 1, 0 + 2, none⟩ = false := free_of hR2 2
  have HA : Hid (Ans V F1 (.slice none 0 0) [] w1) := Or.inl ⟨rfl, rfl⟩
  have HN := hide (num_errV w1 e (HC.out.err.fr hf1 HC.out.low).errs _ HERR.out)
  generalize x.syncs.2 = n at *
  clear hR hR2 hf1 hs1 hD1 s0 s2 s3 s4 r0 r1 r2 q0 q1 q2 HM HERR
  go_wp2_with fail
  refine HN.out.mono ?_
  rintro r' w2 ⟨rfl, h2⟩
  obtain rfl := h2.symm
  go_wp2
  refine bodyPost_ret (results_c rfl _ rfl (range_of (l := [(.slice none 0 0), .int .i64 0, .int .i64 (n : Int)]) (put_three HR.out (.slice none 0 0) (.int .i64 0) (.int .i64 (n : Int)))) Tryd.underlying45 rfl sizeSaid) rfl ?_
  rw [HST.out]
  exact acts_fin HT.out.below (Nat.le_succ _) (by rw [HT.out.size]; omega) HA.out HD.out HF1.out HLT.out HS.out _ _

set_option maxRecDepth 100000 in
set_option maxHeartbeats 1600000 in
theorem act_4 (w : World) (K p : Nat) (F : List Nat) (x : St) (e : Nat → Addr) (s : Sp) (h : Can w K p F x e s) (hk : s.k = 4) :
    Calls Tryd.prog 12 #[ptr p, spv s] w fun r' w' => Acts w p F (x.step s).1 (x.step s).2 r' w' := by
  obtain ⟨V, hVV⟩ : ∃ V, V = (w.alloc (.cells #[.int .i64 s.k, .int .i64 s.o, .int .i64 s.n, .int .i64 s.m, .string s.t] 38)).alloc (.cells #[.slice none 0 0, .int .i64 0, .int .i64 0] 45) := ⟨_, rfl⟩
  have h2 : Two w V s := by rw [hVV]; exact two_of w s
  have HT := hide h2
  have HV := hide hVV
  have HC := hide (h.v h2.below)
  have HLT := hide h.disk.lt
  have HRN : Hid (w.heap.size + 1 ∉ F) := fun hm => by have := h.disk.lt _ hm; omega
  have s0 : V.cell? ⟨w.heap.size, 0, none⟩ = some (.int .i64 s.k) := cell_of h2.step 0
  have s2 : V.cell? ⟨w.heap.size, 2, none⟩ = some (.int .i64 s.n) := cell_of h2.step 2
  have s3 : V.cell? ⟨w.heap.size, 3, none⟩ = some (.int .i64 s.m) := cell_of h2.step 3
  have s4 : V.cell? ⟨w.heap.size, 4, none⟩ = some (.string s.t) := cell_of h2.step 4
  have r0 : V.cell? ⟨w.heap.size + 1, 0, none⟩ = some (.slice none 0 0) := cell_of h2.said 0
  have r1 : V.cell? ⟨w.heap.size + 1, 0 + 1, none⟩ = some (.int .i64 0) := cell_of h2.said 1
  have r2 : V.cell? ⟨w.heap.size + 1, 0 + 2, none⟩ = some (.int .i64 0) := cell_of h2.said 2
  have q0 : V.frozen? ⟨w.heap.size + 1, 0, none⟩ = false := free_of h2.said 0
  have q1 : V.frozen? ⟨w.heap.size + 1, 0 + 1, none⟩ = false := free_of h2.said 1
  have q2 : V.frozen? ⟨w.heap.size + 1, 0 + 2, none⟩ = false := free_of h2.said 2
  have HST : Hid (x.step s = ((x.trunc s.n).1, ⟨[], 0, (x.trunc s.n).2⟩)) := by show _ = _; unfold St.step; rw [if_neg (by rw [hk]; decide), if_neg (by rw [hk]; decide), if_neg (by rw [hk]; decide), if_pos hk]
  have HERR : Hid ((x.trunc s.n).2 = 0 ∨ (x.trunc s.n).2 = 1 ∨ (x.trunc s.n).2 = 9 ∨ (x.trunc s.n).2 = 10) := by unfold St.trunc; split; exact Or.inr (Or.inl rfl); exact oper_err _ _ _ _ (Or.inl rfl)
  rw [hk] at s0 HV
  clear h h2 hVV
  have HM := hide (trunc_any V K p F x HC.out.disk e HC.out.err.ed HC.out.low HC.out.fine s.n (fun hon => by obtain ⟨g1, g2, g3, _⟩ := gate_on x id hon; exact ⟨g1, g2, g3⟩))
  go_enter Tryd.func12, Tryd.ntmps12
  go_wp2_with fail
  rw [← HV.out]
  refine HM.out.mono ?_
  rintro r' w1 ⟨rfl, m1⟩
  obtain ⟨F1, hD1, hf1, hs1⟩ := m1
  have HD := hide hD1
  have HF1 := hide hf1
  have HS := hide hs1
  have hR := hf1.block (w.heap.size + 1) (by rw [HT.out.size]; omega) HRN.out
  have hR2 := hR.trans HT.out.said
  have HR := hide hR2
  have t0 : w1.cell? ⟨w.heap.size + 1, 0, none⟩ = some (.slice none 0 0) := cell_of hR2 0
  have t1 : w1.cell? ⟨w.heap.size + 1, 0 + 1, none⟩ = some (.int .i64 0) := cell_of hR2 1
  have t2 : w1.cell? ⟨w.heap.size + 1, 0 + 2, none⟩ = some (.int .i64 0) := cell_of hR2 2
  have p0 : w1.frozen? ⟨w.heap.size + 1, 0, none⟩ = false := free_of hR2 0
  have p1 : w1.frozen? ⟨w.heap.size + 1, 0 + 1, none⟩ = false := free_of hR2 1
  have p2 : w1.frozen? ⟨w.heap.size + 1, 0 + 2, none⟩ = false := free_of hR2 2
  have HA : Hid (Ans V F1 (.slice none 0 0) [] w1) := Or.inl ⟨rfl, rfl⟩
  have HN := hide (num_errV w1 e (HC.out.err.fr hf1 HC.out.low).errs _ HERR.out)
  generalize (x.trunc s.n).2 = n at *
  clear hR hR2 hf1 hs1 hD1 s0 s2 s3 s4 r0 r1 r2 q0 q1 q2 HM HERR
  go_wp2_with fail
  refine HN.out.mono ?_
  rintro r' w2 ⟨rfl, h2⟩
  obtain rfl := h2.symm
  go_wp2
  refine bodyPost_ret (results_c rfl _ rfl (range_of (l := [(.slice none 0 0), .int .i64 0, .int .i64 (n : Int)]) (put_three HR.out (.slice none 0 0) (.int .i64 0) (.int .i64 (n : Int)))) Tryd.underlying45 rfl sizeSaid) rfl ?_
  rw [HST.out]
  exact acts_fin HT.out.below (Nat.le_succ _) (by rw [HT.out.size]; omega) HA.out HD.out HF1.out HLT.out HS.out _ _

theorem gate_len (x : St) (h : x.Ok 140737488355328) : (x.gate id).b.length ≤ 281474976710656 := by
  have h1 := h.most
  unfold St.gate
  split
  · omega
  · split
    · omega
    · show (List.take _ x.b).length ≤ _
      rw [List.length_take]; omega
    · show x.b.length ≤ _; omega
theorem reads_l (x : St) : (if x.reads.2 = 0 then x.reads.1.b else []) = x.readL := by
  unfold St.readL St.reads
  rw [oper_gate]
  cases hon : x.on with
  | true =>
    rw [if_pos rfl]
    exact congrArg (fun l => if (0 : Nat) = 0 then l else []) (gate_on x id hon).1
  | false => rfl

set_option maxRecDepth 100000 in
set_option maxHeartbeats 1600000 in
theorem act_3 (w : World) (K p : Nat) (F : List Nat) (x : St) (e : Nat → Addr) (s : Sp) (h : Can w K p F x e s) (hk : s.k = 3) :
    Calls Tryd.prog 12 #[ptr p, spv s] w fun r' w' => Acts w p F (x.step s).1 (x.step s).2 r' w' := by
  obtain ⟨V, hVV⟩ : ∃ V, V = (w.alloc (.cells #[.int .i64 s.k, .int .i64 s.o, .int .i64 s.n, .int .i64 s.m, .string s.t] 38)).alloc (.cells #[.slice none 0 0, .int .i64 0, .int .i64 0] 45) := ⟨_, rfl⟩
  have h2 : Two w V s := by rw [hVV]; exact two_of w s
  have HT := hide h2
  have HV := hide hVV
  have HC := hide (h.v h2.below)
  have HLT := hide h.disk.lt
  have HRN : Hid (w.heap.size + 1 ∉ F) := fun hm => by have := h.disk.lt _ hm; omega
  have s0 : V.cell? ⟨w.heap.size, 0, none⟩ = some (.int .i64 s.k) := cell_of h2.step 0
  have s2 : V.cell? ⟨w.heap.size, 2, none⟩ = some (.int .i64 s.n) := cell_of h2.step 2
  have s3 : V.cell? ⟨w.heap.size, 3, none⟩ = some (.int .i64 s.m) := cell_of h2.step 3
  have s4 : V.cell? ⟨w.heap.size, 4, none⟩ = some (.string s.t) := cell_of h2.step 4
  have r0 : V.cell? ⟨w.heap.size + 1, 0, none⟩ = some (.slice none 0 0) := cell_of h2.said 0
  have r1 : V.cell? ⟨w.heap.size + 1, 0 + 1, none⟩ = some (.int .i64 0) := cell_of h2.said 1
  have r2 : V.cell? ⟨w.heap.size + 1, 0 + 2, none⟩ = some (.int .i64 0) := cell_of h2.said 2
  have q0 : V.frozen? ⟨w.heap.size + 1, 0, none⟩ = false := free_of h2.said 0
  have q1 : V.frozen? ⟨w.heap.size + 1, 0 + 1, none⟩ = false := free_of h2.said 1
  have q2 : V.frozen? ⟨w.heap.size + 1, 0 + 2, none⟩ = false := free_of h2.said 2
  have HST : Hid (x.step s = (x.reads.1, ⟨x.readL, 0, x.reads.2⟩)) := by show _ = _; unfold St.step; rw [if_neg (by rw [hk]; decide), if_neg (by rw [hk]; decide), if_pos hk]
  have HERR : Hid (x.reads.2 = 0 ∨ x.reads.2 = 1 ∨ x.reads.2 = 9 ∨ x.reads.2 = 10) := oper_err _ _ _ _ (Or.inl rfl)
  have HRL : Hid ((if x.reads.2 = 0 then x.reads.1.b else []) = x.readL) := reads_l x
  rw [hk] at s0 HV
  clear h h2 hVV
  have HM := hide (reads_any V K p F x HC.out.disk e HC.out.err.ed HC.out.low HC.out.fine (fun y hy => by rw [hy]; exact gate_len x HC.out.fine.ok))
  go_enter Tryd.func12, Tryd.ntmps12
  go_wp2_with fail
  rw [← HV.out]
  refine HM.out.mono ?_
  rintro r' w1 ⟨v, F1, rfl, hA1, hD1, hf1, hs1⟩
  rw [HRL.out] at hA1
  have HA := hide hA1
  have HD := hide hD1
  have HF1 := hide hf1
  have HS := hide hs1
  have hR := hf1.block (w.heap.size + 1) (by rw [HT.out.size]; omega) HRN.out
  have hR2 := hR.trans HT.out.said
  have HR := hide hR2
  have t0 : w1.cell? ⟨w.heap.size + 1, 0, none⟩ = some (.slice none 0 0) := cell_of hR2 0
  have t1 : w1.cell? ⟨w.heap.size + 1, 0 + 1, none⟩ = some (.int .i64 0) := cell_of hR2 1
  have t2 : w1.cell? ⟨w.heap.size + 1, 0 + 2, none⟩ = some (.int .i64 0) := cell_of hR2 2
  have p0 : w1.frozen? ⟨w.heap.size + 1, 0, none⟩ = false := free_of hR2 0
  have p1 : w1.frozen? ⟨w.heap.size + 1, 0 + 1, none⟩ = false := free_of hR2 1
  have p2 : w1.frozen? ⟨w.heap.size + 1, 0 + 2, none⟩ = false := free_of hR2 2
  have HN := hide (num_errV w1 e (HC.out.err.fr hf1 HC.out.low).errs _ HERR.out)
  obtain ⟨ov, nv, cv, rfl⟩ : ∃ o n c, v = .slice o n c := by
    rcases hA1 with ⟨e1, _⟩ | ⟨g, e1, _⟩
    · exact ⟨none, 0, 0, e1⟩
    · exact ⟨_, _, _, e1⟩
  generalize x.reads.2 = n at *
  clear hR hR2 hf1 hs1 hD1 hA1 s0 s2 s3 s4 r0 r1 r2 q0 q1 q2 HM HERR HRL
  go_wp2_with fail
  refine HN.out.mono ?_
  rintro r' w2 ⟨rfl, h2⟩
  obtain rfl := h2.symm
  go_wp2
  refine bodyPost_ret (results_c rfl _ rfl (range_of (l := [(.slice ov nv cv), .int .i64 0, .int .i64 (n : Int)]) (put_three HR.out (.slice ov nv cv) (.int .i64 0) (.int .i64 (n : Int)))) Tryd.underlying45 rfl sizeSaid) rfl ?_
  rw [HST.out]
  exact acts_fin HT.out.below (Nat.le_succ _) (by rw [HT.out.size]; omega) HA.out HD.out HF1.out HLT.out HS.out _ _

set_option maxRecDepth 100000 in
set_option maxHeartbeats 1600000 in
theorem act_5 (w : World) (K p : Nat) (F : List Nat) (x : St) (e : Nat → Addr) (s : Sp) (h : Can w K p F x e s) (hk : s.k = 5) :
    Calls Tryd.prog 12 #[ptr p, spv s] w fun r' w' => Acts w p F (x.step s).1 (x.step s).2 r' w' := by
  obtain ⟨V, hVV⟩ : ∃ V, V = (w.alloc (.cells #[.int .i64 s.k, .int .i64 s.o, .int .i64 s.n, .int .i64 s.m, .string s.t] 38)).alloc (.cells #[.slice none 0 0, .int .i64 0, .int .i64 0] 45) := ⟨_, rfl⟩
  have h2 : Two w V s := by rw [hVV]; exact two_of w s
  have HT := hide h2
  have HV := hide hVV
  have HC := hide (h.v h2.below)
  have HLT := hide h.disk.lt
  have HRN : Hid (w.heap.size + 1 ∉ F) := fun hm => by have := h.disk.lt _ hm; omega
  have s0 : V.cell? ⟨w.heap.size, 0, none⟩ = some (.int .i64 s.k) := cell_of h2.step 0
  have s2 : V.cell? ⟨w.heap.size, 2, none⟩ = some (.int .i64 s.n) := cell_of h2.step 2
  have s3 : V.cell? ⟨w.heap.size, 3, none⟩ = some (.int .i64 s.m) := cell_of h2.step 3
  have s4 : V.cell? ⟨w.heap.size, 4, none⟩ = some (.string s.t) := cell_of h2.step 4
  have r0 : V.cell? ⟨w.heap.size + 1, 0, none⟩ = some (.slice none 0 0) := cell_of h2.said 0
  have r1 : V.cell? ⟨w.heap.size + 1, 0 + 1, none⟩ = some (.int .i64 0) := cell_of h2.said 1
  have r2 : V.cell? ⟨w.heap.size + 1, 0 + 2, none⟩ = some (.int .i64 0) := cell_of h2.said 2
  have q0 : V.frozen? ⟨w.heap.size + 1, 0, none⟩ = false := free_of h2.said 0
  have q1 : V.frozen? ⟨w.heap.size + 1, 0 + 1, none⟩ = false := free_of h2.said 1
  have q2 : V.frozen? ⟨w.heap.size + 1, 0 + 2, none⟩ = false := free_of h2.said 2
  have HST : Hid (x.step s = (x.arm s.n s.m, ⟨[], 0, 0⟩)) := by show _ = _; unfold St.step; rw [if_neg (by rw [hk]; decide), if_neg (by rw [hk]; decide), if_neg (by rw [hk]; decide), if_neg (by rw [hk]; decide), if_pos hk]
  rw [hk] at s0 HV
  clear h h2 hVV
  have HM := hide (arm_any V p F x s.n s.m HC.out.disk HC.out.room)
  go_enter Tryd.func12, Tryd.ntmps12
  go_wp2_with fail
  rw [← HV.out]
  refine HM.out.mono ?_
  rintro r' w1 ⟨rfl, m1⟩
  obtain ⟨F1, hD1, hf1, hs1⟩ := m1
  have HD := hide hD1
  have HF1 := hide hf1
  have HS := hide hs1
  have hR := hf1.block (w.heap.size + 1) (by rw [HT.out.size]; omega) HRN.out
  have hR2 := hR.trans HT.out.said
  have HR := hide hR2
  have t0 : w1.cell? ⟨w.heap.size + 1, 0, none⟩ = some (.slice none 0 0) := cell_of hR2 0
  have t1 : w1.cell? ⟨w.heap.size + 1, 0 + 1, none⟩ = some (.int .i64 0) := cell_of hR2 1
  have t2 : w1.cell? ⟨w.heap.size + 1, 0 + 2, none⟩ = some (.int .i64 0) := cell_of hR2 2
  have p0 : w1.frozen? ⟨w.heap.size + 1, 0, none⟩ = false := free_of hR2 0
  have p1 : w1.frozen? ⟨w.heap.size + 1, 0 + 1, none⟩ = false := free_of hR2 1
  have p2 : w1.frozen? ⟨w.heap.size + 1, 0 + 2, none⟩ = false := free_of hR2 2
  have HA : Hid (Ans V F1 (.slice none 0 0) [] w1) := Or.inl ⟨rfl, rfl⟩
  clear hR hR2 hf1 hs1 hD1 s0 s2 s3 s4 r0 r1 r2 q0 q1 q2 HM
  go_wp2
  refine bodyPost_ret (results_c rfl _ rfl (range_of (l := [(.slice none 0 0), .int .i64 0, .int .i64 0]) (put_three HR.out (.slice none 0 0) (.int .i64 0) (.int .i64 0))) Tryd.underlying45 rfl sizeSaid) rfl ?_
  rw [HST.out]
  exact acts_fin HT.out.below (Nat.le_succ _) (by rw [HT.out.size]; omega) HA.out HD.out HF1.out HLT.out HS.out _ _

set_option maxRecDepth 100000 in
set_option maxHeartbeats 1600000 in
theorem act_6 (w : World) (K p : Nat) (F : List Nat) (x : St) (e : Nat → Addr) (s : Sp) (h : Can w K p F x e s) (hk : s.k = 6) :
    Calls Tryd.prog 12 #[ptr p, spv s] w fun r' w' => Acts w p F (x.step s).1 (x.step s).2 r' w' := by
  obtain ⟨V, hVV⟩ : ∃ V, V = (w.alloc (.cells #[.int .i64 s.k, .int .i64 s.o, .int .i64 s.n, .int .i64 s.m, .string s.t] 38)).alloc (.cells #[.slice none 0 0, .int .i64 0, .int .i64 0] 45) := ⟨_, rfl⟩
  have h2 : Two w V s := by rw [hVV]; exact two_of w s
  have HT := hide h2
  have HV := hide hVV
  have HC := hide (h.v h2.below)
  have HLT := hide h.disk.lt
  have HRN : Hid (w.heap.size + 1 ∉ F) := fun hm => by have := h.disk.lt _ hm; omega
  have s0 : V.cell? ⟨w.heap.size, 0, none⟩ = some (.int .i64 s.k) := cell_of h2.step 0
  have s2 : V.cell? ⟨w.heap.size, 2, none⟩ = some (.int .i64 s.n) := cell_of h2.step 2
  have s3 : V.cell? ⟨w.heap.size, 3, none⟩ = some (.int .i64 s.m) := cell_of h2.step 3
  have s4 : V.cell? ⟨w.heap.size, 4, none⟩ = some (.string s.t) := cell_of h2.step 4
  have r0 : V.cell? ⟨w.heap.size + 1, 0, none⟩ = some (.slice none 0 0) := cell_of h2.said 0
  have r1 : V.cell? ⟨w.heap.size + 1, 0 + 1, none⟩ = some (.int .i64 0) := cell_of h2.said 1
  have r2 : V.cell? ⟨w.heap.size + 1, 0 + 2, none⟩ = some (.int .i64 0) := cell_of h2.said 2
  have q0 : V.frozen? ⟨w.heap.size + 1, 0, none⟩ = false := free_of h2.said 0
  have q1 : V.frozen? ⟨w.heap.size + 1, 0 + 1, none⟩ = false := free_of h2.said 1
  have q2 : V.frozen? ⟨w.heap.size + 1, 0 + 2, none⟩ = false := free_of h2.said 2
  have HST : Hid (x.step s = (x.crash s.n, ⟨[], 0, 0⟩)) := by show _ = _; unfold St.step; rw [if_neg (by rw [hk]; decide), if_neg (by rw [hk]; decide), if_neg (by rw [hk]; decide), if_neg (by rw [hk]; decide), if_neg (by rw [hk]; decide), if_pos hk]
  rw [hk] at s0 HV
  clear h h2 hVV
  have HM := hide (crash_any V p F x s.n HC.out.disk HC.out.fine)
  go_enter Tryd.func12, Tryd.ntmps12
  go_wp2_with fail
  rw [← HV.out]
  refine HM.out.mono ?_
  rintro r' w1 ⟨rfl, m1⟩
  obtain ⟨F1, hD1, hf1, hs1⟩ := m1
  have HD := hide hD1
  have HF1 := hide hf1
  have HS := hide hs1
  have hR := hf1.block (w.heap.size + 1) (by rw [HT.out.size]; omega) HRN.out
  have hR2 := hR.trans HT.out.said
  have HR := hide hR2
  have t0 : w1.cell? ⟨w.heap.size + 1, 0, none⟩ = some (.slice none 0 0) := cell_of hR2 0
  have t1 : w1.cell? ⟨w.heap.size + 1, 0 + 1, none⟩ = some (.int .i64 0) := cell_of hR2 1
  have t2 : w1.cell? ⟨w.heap.size + 1, 0 + 2, none⟩ = some (.int .i64 0) := cell_of hR2 2
  have p0 : w1.frozen? ⟨w.heap.size + 1, 0, none⟩ = false := free_of hR2 0
  have p1 : w1.frozen? ⟨w.heap.size + 1, 0 + 1, none⟩ = false := free_of hR2 1
  have p2 : w1.frozen? ⟨w.heap.size + 1, 0 + 2, none⟩ = false := free_of hR2 2
  have HA : Hid (Ans V F1 (.slice none 0 0) [] w1) := Or.inl ⟨rfl, rfl⟩
  clear hR hR2 hf1 hs1 hD1 s0 s2 s3 s4 r0 r1 r2 q0 q1 q2 HM
  go_wp2
  refine bodyPost_ret (results_c rfl _ rfl (range_of (l := [(.slice none 0 0), .int .i64 0, .int .i64 0]) (put_three HR.out (.slice none 0 0) (.int .i64 0) (.int .i64 0))) Tryd.underlying45 rfl sizeSaid) rfl ?_
  rw [HST.out]
  exact acts_fin HT.out.below (Nat.le_succ _) (by rw [HT.out.size]; omega) HA.out HD.out HF1.out HLT.out HS.out _ _

set_option maxRecDepth 100000 in
set_option maxHeartbeats 1600000 in
theorem act_8 (w : World) (K p : Nat) (F : List Nat) (x : St) (e : Nat → Addr) (s : Sp) (h : Can w K p F x e s) (hk : s.k = 8) :
    Calls Tryd.prog 12 #[ptr p, spv s] w fun r' w' => Acts w p F (x.step s).1 (x.step s).2 r' w' := by
  obtain ⟨V, hVV⟩ : ∃ V, V = (w.alloc (.cells #[.int .i64 s.k, .int .i64 s.o, .int .i64 s.n, .int .i64 s.m, .string s.t] 38)).alloc (.cells #[.slice none 0 0, .int .i64 0, .int .i64 0] 45) := ⟨_, rfl⟩
  have h2 : Two w V s := by rw [hVV]; exact two_of w s
  have HT := hide h2
  have HV := hide hVV
  have HC := hide (h.v h2.below)
  have HLT := hide h.disk.lt
  have HRN : Hid (w.heap.size + 1 ∉ F) := fun hm => by have := h.disk.lt _ hm; omega
  have s0 : V.cell? ⟨w.heap.size, 0, none⟩ = some (.int .i64 s.k) := cell_of h2.step 0
  have s2 : V.cell? ⟨w.heap.size, 2, none⟩ = some (.int .i64 s.n) := cell_of h2.step 2
  have s3 : V.cell? ⟨w.heap.size, 3, none⟩ = some (.int .i64 s.m) := cell_of h2.step 3
  have s4 : V.cell? ⟨w.heap.size, 4, none⟩ = some (.string s.t) := cell_of h2.step 4
  have r0 : V.cell? ⟨w.heap.size + 1, 0, none⟩ = some (.slice none 0 0) := cell_of h2.said 0
  have r1 : V.cell? ⟨w.heap.size + 1, 0 + 1, none⟩ = some (.int .i64 0) := cell_of h2.said 1
  have r2 : V.cell? ⟨w.heap.size + 1, 0 + 2, none⟩ = some (.int .i64 0) := cell_of h2.said 2
  have q0 : V.frozen? ⟨w.heap.size + 1, 0, none⟩ = false := free_of h2.said 0
  have q1 : V.frozen? ⟨w.heap.size + 1, 0 + 1, none⟩ = false := free_of h2.said 1
  have q2 : V.frozen? ⟨w.heap.size + 1, 0 + 2, none⟩ = false := free_of h2.said 2
  have HST : Hid (x.step s = (x.revive, ⟨[], 0, 0⟩)) := by show _ = _; unfold St.step; rw [if_neg (by rw [hk]; decide), if_neg (by rw [hk]; decide), if_neg (by rw [hk]; decide), if_neg (by rw [hk]; decide), if_neg (by rw [hk]; decide), if_neg (by rw [hk]; decide), if_neg (by rw [hk]; decide), if_pos hk]
  rw [hk] at s0 HV
  clear h h2 hVV
  have HM := hide (revive_any V p F x HC.out.disk)
  go_enter Tryd.func12, Tryd.ntmps12
  go_wp2_with fail
  rw [← HV.out]
  refine HM.out.mono ?_
  rintro r' w1 ⟨rfl, m1⟩
  obtain ⟨F1, hD1, hf1, hs1⟩ := m1
  have HD := hide hD1
  have HF1 := hide hf1
  have HS := hide hs1
  have hR := hf1.block (w.heap.size + 1) (by rw [HT.out.size]; omega) HRN.out
  have hR2 := hR.trans HT.out.said
  have HR := hide hR2
  have t0 : w1.cell? ⟨w.heap.size + 1, 0, none⟩ = some (.slice none 0 0) := cell_of hR2 0
  have t1 : w1.cell? ⟨w.heap.size + 1, 0 + 1, none⟩ = some (.int .i64 0) := cell_of hR2 1
  have t2 : w1.cell? ⟨w.heap.size + 1, 0 + 2, none⟩ = some (.int .i64 0) := cell_of hR2 2
  have p0 : w1.frozen? ⟨w.heap.size + 1, 0, none⟩ = false := free_of hR2 0
  have p1 : w1.frozen? ⟨w.heap.size + 1, 0 + 1, none⟩ = false := free_of hR2 1
  have p2 : w1.frozen? ⟨w.heap.size + 1, 0 + 2, none⟩ = false := free_of hR2 2
  have HA : Hid (Ans V F1 (.slice none 0 0) [] w1) := Or.inl ⟨rfl, rfl⟩
  clear hR hR2 hf1 hs1 hD1 s0 s2 s3 s4 r0 r1 r2 q0 q1 q2 HM
  go_wp2
  refine bodyPost_ret (results_c rfl _ rfl (range_of (l := [(.slice none 0 0), .int .i64 0, .int .i64 0]) (put_three HR.out (.slice none 0 0) (.int .i64 0) (.int .i64 0))) Tryd.underlying45 rfl sizeSaid) rfl ?_
  rw [HST.out]
  exact acts_fin HT.out.below (Nat.le_succ _) (by rw [HT.out.size]; omega) HA.out HD.out HF1.out HLT.out HS.out _ _

set_option maxRecDepth 100000 in
set_option maxHeartbeats 1600000 in
theorem act_7 (w : World) (K p : Nat) (F : List Nat) (x : St) (e : Nat → Addr) (s : Sp) (h : Can w K p F x e s) (hk : s.k = 7) :
    Calls Tryd.prog 12 #[ptr p, spv s] w fun r' w' => Acts w p F (x.step s).1 (x.step s).2 r' w' := by
  obtain ⟨V, hVV⟩ : ∃ V, V = (w.alloc (.cells #[.int .i64 s.k, .int .i64 s.o, .int .i64 s.n, .int .i64 s.m, .string s.t] 38)).alloc (.cells #[.slice none 0 0, .int .i64 0, .int .i64 0] 45) := ⟨_, rfl⟩
  have h2 : Two w V s := by rw [hVV]; exact two_of w s
  have HT := hide h2
  have HV := hide hVV
  have HC := hide (h.v h2.below)
  have HLT := hide h.disk.lt
  have HRN : Hid (w.heap.size + 1 ∉ F) := fun hm => by have := h.disk.lt _ hm; omega
  have s0 : V.cell? ⟨w.heap.size, 0, none⟩ = some (.int .i64 s.k) := cell_of h2.step 0
  have s2 : V.cell? ⟨w.heap.size, 2, none⟩ = some (.int .i64 s.n) := cell_of h2.step 2
  have s3 : V.cell? ⟨w.heap.size, 3, none⟩ = some (.int .i64 s.m) := cell_of h2.step 3
  have s4 : V.cell? ⟨w.heap.size, 4, none⟩ = some (.string s.t) := cell_of h2.step 4
  have r0 : V.cell? ⟨w.heap.size + 1, 0, none⟩ = some (.slice none 0 0) := cell_of h2.said 0
  have r1 : V.cell? ⟨w.heap.size + 1, 0 + 1, none⟩ = some (.int .i64 0) := cell_of h2.said 1
  have r2 : V.cell? ⟨w.heap.size + 1, 0 + 2, none⟩ = some (.int .i64 0) := cell_of h2.said 2
  have q0 : V.frozen? ⟨w.heap.size + 1, 0, none⟩ = false := free_of h2.said 0
  have q1 : V.frozen? ⟨w.heap.size + 1, 0 + 1, none⟩ = false := free_of h2.said 1
  have q2 : V.frozen? ⟨w.heap.size + 1, 0 + 2, none⟩ = false := free_of h2.said 2
  have HST : Hid (x.step s = (x, ⟨[], x.deadN, 0⟩)) := by show _ = _; unfold St.step; rw [if_neg (by rw [hk]; decide), if_neg (by rw [hk]; decide), if_neg (by rw [hk]; decide), if_neg (by rw [hk]; decide), if_neg (by rw [hk]; decide), if_neg (by rw [hk]; decide), if_pos hk]
  rw [hk] at s0 HV
  clear h h2 hVV
  have HM := hide (dead_any V p F x HC.out.disk)
  have HR := hide HT.out.said
  have HA : Hid (Ans V F (.slice none 0 0) [] V) := Or.inl ⟨rfl, rfl⟩
  have HD := hide HC.out.disk
  have HF1 := hide (Fr.refl F V)
  have HS : Hid (∀ k ∈ F, k ∈ F ∨ V.heap.size ≤ k) := fun k hk => Or.inl hk
  unfold St.deadN at HST
  cases hd : x.d with
  | true =>
    rw [hd] at HM HST
    rw [if_pos rfl] at HST
    go_enter Tryd.func12, Tryd.ntmps12
    go_wp2_with fail
    rw [← HV.out]
    refine HM.out.mono ?_
    rintro r' w1 ⟨rfl, h1⟩
    obtain rfl := h1.symm
    go_wp2
    refine bodyPost_ret (results_c rfl _ rfl (range_of (l := [(.slice none 0 0), .int .i64 1, .int .i64 0]) (put_three HR.out (.slice none 0 0) (.int .i64 1) (.int .i64 0))) Tryd.underlying45 rfl sizeSaid) rfl ?_
    rw [HST.out]
    exact acts_fin HT.out.below (Nat.le_succ _) (by rw [HT.out.size]; omega) HA.out HD.out HF1.out HLT.out HS.out _ _
  | false =>
    rw [hd] at HM HST
    rw [if_neg (by decide)] at HST
    go_enter Tryd.func12, Tryd.ntmps12
    go_wp2_with fail
    rw [← HV.out]
    refine HM.out.mono ?_
    rintro r' w1 ⟨rfl, h1⟩
    obtain rfl := h1.symm
    go_wp2
    refine bodyPost_ret (results_c rfl _ rfl (range_of (l := [(.slice none 0 0), .int .i64 0, .int .i64 0]) (put_three HR.out (.slice none 0 0) (.int .i64 0) (.int .i64 0))) Tryd.underlying45 rfl sizeSaid) rfl ?_
    rw [HST.out]
    exact acts_fin HT.out.below (Nat.le_succ _) (by rw [HT.out.size]; omega) HA.out HD.out HF1.out HLT.out HS.out _ _

set_option maxRecDepth 100000 in
set_option maxHeartbeats 1600000 in
theorem act_9 (w : World) (K p : Nat) (F : List Nat) (x : St) (e : Nat → Addr) (s : Sp) (h : Can w K p F x e s) (hk : s.k = 9) :
    Calls Tryd.prog 12 #[ptr p, spv s] w fun r' w' => Acts w p F (x.step s).1 (x.step s).2 r' w' := by
  obtain ⟨V, hVV⟩ : ∃ V, V = (w.alloc (.cells #[.int .i64 s.k, .int .i64 s.o, .int .i64 s.n, .int .i64 s.m, .string s.t] 38)).alloc (.cells #[.slice none 0 0, .int .i64 0, .int .i64 0] 45) := ⟨_, rfl⟩
  have h2 : Two w V s := by rw [hVV]; exact two_of w s
  have HT := hide h2
  have HV := hide hVV
  have HC := hide (h.v h2.below)
  have HLT := hide h.disk.lt
  have HRN : Hid (w.heap.size + 1 ∉ F) := fun hm => by have := h.disk.lt _ hm; omega
  have s0 : V.cell? ⟨w.heap.size, 0, none⟩ = some (.int .i64 s.k) := cell_of h2.step 0
  have s2 : V.cell? ⟨w.heap.size, 2, none⟩ = some (.int .i64 s.n) := cell_of h2.step 2
  have s3 : V.cell? ⟨w.heap.size, 3, none⟩ = some (.int .i64 s.m) := cell_of h2.step 3
  have s4 : V.cell? ⟨w.heap.size, 4, none⟩ = some (.string s.t) := cell_of h2.step 4
  have r0 : V.cell? ⟨w.heap.size + 1, 0, none⟩ = some (.slice none 0 0) := cell_of h2.said 0
  have r1 : V.cell? ⟨w.heap.size + 1, 0 + 1, none⟩ = some (.int .i64 0) := cell_of h2.said 1
  have r2 : V.cell? ⟨w.heap.size + 1, 0 + 2, none⟩ = some (.int .i64 0) := cell_of h2.said 2
  have q0 : V.frozen? ⟨w.heap.size + 1, 0, none⟩ = false := free_of h2.said 0
  have q1 : V.frozen? ⟨w.heap.size + 1, 0 + 1, none⟩ = false := free_of h2.said 1
  have q2 : V.frozen? ⟨w.heap.size + 1, 0 + 2, none⟩ = false := free_of h2.said 2
  have HST : Hid (x.step s = (x, ⟨x.b, x.s, 0⟩)) := by show _ = _; unfold St.step; rw [if_neg (by rw [hk]; decide), if_neg (by rw [hk]; decide), if_neg (by rw [hk]; decide), if_neg (by rw [hk]; decide), if_neg (by rw [hk]; decide), if_neg (by rw [hk]; decide), if_neg (by rw [hk]; decide), if_neg (by rw [hk]; decide), if_pos hk]
  rw [hk] at s0 HV
  clear h h2 hVV
  have HM := hide (look_any V p F x HC.out.disk (by have := HC.out.fine.ok.most; omega))
  go_enter Tryd.func12, Tryd.ntmps12
  go_wp2_with fail
  rw [← HV.out]
  refine HM.out.mono ?_
  rintro r' w1 ⟨v, rfl, hA1, b1⟩
  have hf1 : Fr F V w1 := Fr.of b1
  have HA := hide hA1
  have HD := hide (HC.out.disk.below b1)
  have HF1 := hide hf1
  have HS : Hid (∀ k ∈ F, k ∈ F ∨ V.heap.size ≤ k) := fun k hk => Or.inl hk
  have hR := hf1.block (w.heap.size + 1) (by rw [HT.out.size]; omega) HRN.out
  have hR2 := hR.trans HT.out.said
  have HR := hide hR2
  have t0 : w1.cell? ⟨w.heap.size + 1, 0, none⟩ = some (.slice none 0 0) := cell_of hR2 0
  have t1 : w1.cell? ⟨w.heap.size + 1, 0 + 1, none⟩ = some (.int .i64 0) := cell_of hR2 1
  have t2 : w1.cell? ⟨w.heap.size + 1, 0 + 2, none⟩ = some (.int .i64 0) := cell_of hR2 2
  have p0 : w1.frozen? ⟨w.heap.size + 1, 0, none⟩ = false := free_of hR2 0
  have p1 : w1.frozen? ⟨w.heap.size + 1, 0 + 1, none⟩ = false := free_of hR2 1
  have p2 : w1.frozen? ⟨w.heap.size + 1, 0 + 2, none⟩ = false := free_of hR2 2
  obtain ⟨ov, nv, cv, rfl⟩ : ∃ o n c, v = .slice o n c := by
    rcases hA1 with ⟨e1, _⟩ | ⟨g, e1, _⟩
    · exact ⟨none, 0, 0, e1⟩
    · exact ⟨_, _, _, e1⟩
  clear hR hR2 hf1 b1 hA1 s0 s2 s3 s4 r0 r1 r2 q0 q1 q2 HM
  go_wp2
  refine bodyPost_ret (results_c rfl _ rfl (range_of (l := [(.slice ov nv cv), .int .i64 (x.s : Int), .int .i64 0]) (put_three HR.out (.slice ov nv cv) (.int .i64 (x.s : Int)) (.int .i64 0))) Tryd.underlying45 rfl sizeSaid) rfl ?_
  rw [HST.out]
  exact acts_fin HT.out.below (Nat.le_succ _) (by rw [HT.out.size]; omega) HA.out HD.out HF1.out HLT.out HS.out _ _

set_option maxRecDepth 100000 in
set_option maxHeartbeats 1600000 in
theorem act_0 (w : World) (K p : Nat) (F : List Nat) (x : St) (e : Nat → Addr) (s : Sp) (h : Can w K p F x e s) (h1 : s.k ≠ 1) (h2 : s.k ≠ 2) (h3 : s.k ≠ 3) (h4 : s.k ≠ 4) (h5 : s.k ≠ 5) (h6 : s.k ≠ 6) (h7 : s.k ≠ 7) (h8 : s.k ≠ 8) (h9 : s.k ≠ 9) :
    Calls Tryd.prog 12 #[ptr p, spv s] w fun r' w' => Acts w p F (x.step s).1 (x.step s).2 r' w' := by
  obtain ⟨V, hVV⟩ : ∃ V, V = (w.alloc (.cells #[.int .i64 s.k, .int .i64 s.o, .int .i64 s.n, .int .i64 s.m, .string s.t] 38)).alloc (.cells #[.slice none 0 0, .int .i64 0, .int .i64 0] 45) := ⟨_, rfl⟩
  have hTw : Two w V s := by rw [hVV]; exact two_of w s
  have HT := hide hTw
  have HV := hide hVV
  have HC := hide (h.v hTw.below)
  have HLT := hide h.disk.lt
  have HRN : Hid (w.heap.size + 1 ∉ F) := fun hm => by have := h.disk.lt _ hm; omega
  have s0 : V.cell? ⟨w.heap.size, 0, none⟩ = some (.int .i64 s.k) := cell_of hTw.step 0
  have s2 : V.cell? ⟨w.heap.size, 2, none⟩ = some (.int .i64 s.n) := cell_of hTw.step 2
  have s3 : V.cell? ⟨w.heap.size, 3, none⟩ = some (.int .i64 s.m) := cell_of hTw.step 3
  have s4 : V.cell? ⟨w.heap.size, 4, none⟩ = some (.string s.t) := cell_of hTw.step 4
  have r0 : V.cell? ⟨w.heap.size + 1, 0, none⟩ = some (.slice none 0 0) := cell_of hTw.said 0
  have r1 : V.cell? ⟨w.heap.size + 1, 0 + 1, none⟩ = some (.int .i64 0) := cell_of hTw.said 1
  have r2 : V.cell? ⟨w.heap.size + 1, 0 + 2, none⟩ = some (.int .i64 0) := cell_of hTw.said 2
  have q0 : V.frozen? ⟨w.heap.size + 1, 0, none⟩ = false := free_of hTw.said 0
  have q1 : V.frozen? ⟨w.heap.size + 1, 0 + 1, none⟩ = false := free_of hTw.said 1
  have q2 : V.frozen? ⟨w.heap.size + 1, 0 + 2, none⟩ = false := free_of hTw.said 2
  have HST : Hid (x.step s = (x, ⟨[], 0, 0⟩)) := by show _ = _; unfold St.step; rw [if_neg h1, if_neg h2, if_neg h3, if_neg h4, if_neg h5, if_neg h6, if_neg h7, if_neg h8, if_neg h9]
  have e1 : (s.k == 1) = false := beq_false_of_ne h1
  have e2 : (s.k == 2) = false := beq_false_of_ne h2
  have e3 : (s.k == 3) = false := beq_false_of_ne h3
  have e4 : (s.k == 4) = false := beq_false_of_ne h4
  have e5 : (s.k == 5) = false := beq_false_of_ne h5
  have e6 : (s.k == 6) = false := beq_false_of_ne h6
  have e7 : (s.k == 7) = false := beq_false_of_ne h7
  have e8 : (s.k == 8) = false := beq_false_of_ne h8
  have e9 : (s.k == 9) = false := beq_false_of_ne h9
  clear h hTw hVV
  have HR := hide HT.out.said
  have HD := hide HC.out.disk
  rw [HV.out] at s0 s2 s3 s4 r0 r1 r2 q0 q1 q2
  go_enter Tryd.func12, Tryd.ntmps12
  go_wp2
  rw [← HV.out]
  refine bodyPost_ret (results_c rfl _ rfl (range_of (l := [.slice none 0 0, .int .i64 0, .int .i64 0]) HR.out) Tryd.underlying45 rfl sizeSaid) rfl ?_
  rw [HST.out]
  exact ⟨.slice none 0 0, F, rfl, Or.inl ⟨rfl, rfl⟩, HD.out, Fr.of HT.out.below, fun k hk => Or.inl hk⟩

theorem act_any (w : World) (K p : Nat) (F : List Nat) (x : St) (e : Nat → Addr) (s : Sp) (h : Can w K p F x e s) :
    Calls Tryd.prog 12 #[ptr p, spv s] w fun r' w' => Acts w p F (x.step s).1 (x.step s).2 r' w' := by
  by_cases h1 : s.k = 1
  · exact act_1 w K p F x e s h h1
  by_cases h2 : s.k = 2
  · exact act_2 w K p F x e s h h2
  by_cases h3 : s.k = 3
  · exact act_3 w K p F x e s h h3
  by_cases h4 : s.k = 4
  · exact act_4 w K p F x e s h h4
  by_cases h5 : s.k = 5
  · exact act_5 w K p F x e s h h5
  by_cases h6 : s.k = 6
  · exact act_6 w K p F x e s h h6
  by_cases h7 : s.k = 7
  · exact act_7 w K p F x e s h h7
  by_cases h8 : s.k = 8
  · exact act_8 w K p F x e s h h8
  by_cases h9 : s.k = 9
  · exact act_9 w K p F x e s h h9
  exact act_0 w K p F x e s h h1 h2 h3 h4 h5 h6 h7 h8 h9
end Go.Proofs.YtkamnkldgeaaaaaDoor.dk
