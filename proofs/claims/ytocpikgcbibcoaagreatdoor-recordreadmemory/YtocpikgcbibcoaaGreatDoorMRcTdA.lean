import Derived.Test.YtocpikgcbibcoaaGreatDoorMPickWalk
namespace Go.Proofs.YtocpikgcbibcoaaGreatDoor.rc
open Go.ChangeShapes Go.WideShapes Go.ChangeAt Go.RowKit Go.Proofs.YtocpikgcbibcoaaGreatDoor.common Go.Proofs.YtocpikgcbibcoaaGreatDoor.dk
attribute [local go_sem ↓] Go.wp_at_zero Go.wp_at_succ

set_option maxRecDepth 100000 in
set_option maxHeartbeats 12800000 in
theorem tidy_1 (r : Rec) (v : Value) (a : Int) (w : World) (_hv : Go.Proofs.YtocpikgcbibcoaaGreatDoor.ss.Lies w v r.ss) (hz : TidIn r) (he : pk.Env w) (hp : kitw.pick (wrap64 (r.k - 1)) 11 = 0) (ha : kitw.pick r.at_ 1099511627777 = a) :
    Calls Tryz.prog 19 #[.agg (rcs r v)] w (TidOut (tid 1 a r) w) := by
  have HP : Hid (∀ X, Calls Tryz.prog 31 #[.int .i64 (wrap64 (r.k - 1)), .int .i64 11] X fun e w' => e = .returned (.int .i64 0) ∧ w' = X) := fun X => by have h := kitw.pick_all (wrap64 (r.k - 1)) 11 X (by decide) (by decide); rw [hp] at h; exact h
  have HA : Hid (∀ X, Calls Tryz.prog 31 #[.int .i64 r.at_, .int .i64 1099511627777] X fun e w' => e = .returned (.int .i64 a) ∧ w' = X) := fun X => by have h := kitw.pick_all r.at_ 1099511627777 X (by decide) (by decide); rw [ha] at h; exact h
  have HI : Hid (∀ X, Below w.heap.size w X → Calls Tryz.prog 32 #[.string r.id] X fun e w' => e = .returned (.string (pk.ch r.id)) ∧ Below X.heap.size X w') := fun X hX => idOf_any r.id X hz.id (he.below hX)
  have HU : Hid (∀ X, Below w.heap.size w X → Calls Tryz.prog 33 #[.string r.us] X fun e w' => e = .returned (.string (nmT r.us)) ∧ Below X.heap.size X w') := fun X _ => nameOf_any r.us X hz.us
  have e9 : tid 1 a r = ⟨1, pk.ch r.id, nmT r.us, eB, eB, eB, eB, [], a⟩ := rfl
  rw [e9]
  obtain ⟨X0, hX0⟩ : ∃ X0, X0 = (((w.alloc (.cells (rcs r v) 26)).alloc (.cells zrec 26)).alloc (.cells #[.int .i64 1, .string ⟨#[]⟩, .string ⟨#[]⟩, .string ⟨#[]⟩, .string ⟨#[]⟩, .string ⟨#[]⟩, .string ⟨#[]⟩, .slice none 0 0, .int .i64 0] 26)) := ⟨_, rfl⟩
  have T0 := hide (Tq.start w r v 1)
  rw [← hX0] at T0
  have HX0 := hide hX0
  clear _hv he hp ha e9 hX0
  generalize pk.ch r.id = cI at *
  generalize nmT r.us = cU at *
  go_enter Tryz.func19, Tryz.ntmps19
  go_wp2_with fail
  refine (HP.out _).mono ?_
  rintro x w9 ⟨rfl, h9⟩
  obtain rfl := h9.symm
  clear h9
  go_wp2_with fail
  rw [← HX0.out]
  refine (HI.out _ T0.out.bl).mono ?_
  rintro x w1 ⟨rfl, b1⟩
  have S1 := hide (T0.out.keep b1)
  clear b1
  have t1 := S1.out.p1 cI
  have z1 : w1.cell? ⟨w.heap.size + 1 + 1, 1, none⟩ = some _ := cell_of S1.out.qb 1
  have f1 : w1.frozen? ⟨w.heap.size + 1 + 1, 1, none⟩ = false := free_of S1.out.qb 1
  have k1 := cell_of t1.qb 0
  have r1 := cell_of t1.rb 2
  have T1 := hide t1
  clear t1
  go_wp2_with fail
  obtain ⟨X1, hX1⟩ : ∃ X1, X1 = w1.setCell ⟨w.heap.size + 1 + 1, 1, none⟩ (.string cI) := ⟨_, rfl⟩
  rw [← hX1] at T1
  rw [← hX1]
  clear z1 f1 k1 r1 hX1
  refine (HU.out _ T1.out.bl).mono ?_
  rintro x w2 ⟨rfl, b2⟩
  have S2 := hide (T1.out.keep b2)
  clear b2
  have t2 := S2.out.p2 cU
  have z2 : w2.cell? ⟨w.heap.size + 1 + 1, 2, none⟩ = some _ := cell_of S2.out.qb 2
  have f2 : w2.frozen? ⟨w.heap.size + 1 + 1, 2, none⟩ = false := free_of S2.out.qb 2
  have k2 := cell_of t2.qb 0
  have r2 := cell_of t2.rb 8
  have T2 := hide t2
  clear t2
  go_wp2_with fail
  obtain ⟨X2, hX2⟩ : ∃ X2, X2 = w2.setCell ⟨w.heap.size + 1 + 1, 2, none⟩ (.string cU) := ⟨_, rfl⟩
  rw [← hX2] at T2
  rw [← hX2]
  clear z2 f2 k2 r2 hX2
  refine (HA.out _).mono ?_
  rintro x w9 ⟨rfl, h9⟩
  obtain rfl := h9.symm
  clear h9
  have t3 := T2.out.p8 a
  have z3 : X2.cell? ⟨w.heap.size + 1 + 1, 8, none⟩ = some _ := cell_of T2.out.qb 8
  have f3 : X2.frozen? ⟨w.heap.size + 1 + 1, 8, none⟩ = false := free_of T2.out.qb 8
  have k3 := cell_of t3.qb 0
  have HRQ : Hid (World.rangeAt (X2.setCell ⟨w.heap.size + 1 + 1, 8, none⟩ (.int .i64 a)) (w.heap.size + 1 + 1) 0 (rcs ⟨1, cI, cU, eB, eB, eB, eB, [], a⟩ (.slice none 0 0)).toList) := range_of (t := 26) t3.qb
  have HTZ : Hid (World.there (X2.setCell ⟨w.heap.size + 1 + 1, 8, none⟩ (.int .i64 a)) (w.heap.size + 1) 0 9) := there_of (cur := zrec.toList) t3.zb 0 9 (by simp)
  have HT := hide t3
  clear t3
  go_wp2_with (first
    | (refine wpList_load_mid rfl 26 (.tmp 3) rfl (w.heap.size + 1 + 1) 0 rfl _ _ HRQ.out Tryz.underlying26 rfl sizeRec ?_)
    | (refine wpList_store_mid rfl 26 (.tmp 2) (.tmp 89) rfl (w.heap.size + 1) 0 (rcs ⟨1, cI, cU, eB, eB, eB, eB, [], a⟩ (.slice none 0 0)) rfl rfl HTZ.out sizeRec (rcs_one _ _ _ _) ?_))
  refine bodyPost_ret (results_c rfl _ rfl (World.rangeAt_setCells_same _ (w.heap.size + 1) 0 (rcs ⟨1, cI, cU, eB, eB, eB, eB, [], a⟩ (.slice none 0 0)).toList HTZ.out) Tryz.underlying26 rfl sizeRec) rfl ?_
  refine ⟨_, rfl, own_least (own_at HT.out.own (fun g hg => sets_other _ _ _ _ _ (by omega))) (by omega), ?_⟩
  exact HT.out.bl.trans (((Fr.refl [w.heap.size + 1] _).sets (w.heap.size + 1) 0 _ (Or.inl (List.mem_singleton.2 rfl))).below (fun k hk => by rw [List.mem_singleton.1 hk]; omega) HT.out.bl.size)
set_option maxRecDepth 100000 in
set_option maxHeartbeats 12800000 in
theorem tidy_2 (r : Rec) (v : Value) (a : Int) (w : World) (_hv : Go.Proofs.YtocpikgcbibcoaaGreatDoor.ss.Lies w v r.ss) (hz : TidIn r) (he : pk.Env w) (hp : kitw.pick (wrap64 (r.k - 1)) 11 = 1) (_ha : kitw.pick r.at_ 1099511627777 = a) :
    Calls Tryz.prog 19 #[.agg (rcs r v)] w (TidOut (tid 2 a r) w) := by
  have HP : Hid (∀ X, Calls Tryz.prog 31 #[.int .i64 (wrap64 (r.k - 1)), .int .i64 11] X fun e w' => e = .returned (.int .i64 1) ∧ w' = X) := fun X => by have h := kitw.pick_all (wrap64 (r.k - 1)) 11 X (by decide) (by decide); rw [hp] at h; exact h
  have HI : Hid (∀ X, Below w.heap.size w X → Calls Tryz.prog 32 #[.string r.id] X fun e w' => e = .returned (.string (pk.ch r.id)) ∧ Below X.heap.size X w') := fun X hX => idOf_any r.id X hz.id (he.below hX)
  have e9 : tid 2 a r = ⟨2, pk.ch r.id, eB, eB, eB, eB, eB, [], 0⟩ := rfl
  rw [e9]
  obtain ⟨X0, hX0⟩ : ∃ X0, X0 = (((w.alloc (.cells (rcs r v) 26)).alloc (.cells zrec 26)).alloc (.cells #[.int .i64 2, .string ⟨#[]⟩, .string ⟨#[]⟩, .string ⟨#[]⟩, .string ⟨#[]⟩, .string ⟨#[]⟩, .string ⟨#[]⟩, .slice none 0 0, .int .i64 0] 26)) := ⟨_, rfl⟩
  have T0 := hide (Tq.start w r v 2)
  rw [← hX0] at T0
  have HX0 := hide hX0
  clear _hv he hp _ha e9 hX0
  generalize pk.ch r.id = cI at *
  go_enter Tryz.func19, Tryz.ntmps19
  go_wp2_with fail
  refine (HP.out _).mono ?_
  rintro x w9 ⟨rfl, h9⟩
  obtain rfl := h9.symm
  clear h9
  go_wp2_with fail
  rw [← HX0.out]
  refine (HI.out _ T0.out.bl).mono ?_
  rintro x w1 ⟨rfl, b1⟩
  have S1 := hide (T0.out.keep b1)
  clear b1
  have t1 := S1.out.p1 cI
  have z1 : w1.cell? ⟨w.heap.size + 1 + 1, 1, none⟩ = some _ := cell_of S1.out.qb 1
  have f1 : w1.frozen? ⟨w.heap.size + 1 + 1, 1, none⟩ = false := free_of S1.out.qb 1
  have k1 := cell_of t1.qb 0
  have HRQ : Hid (World.rangeAt (w1.setCell ⟨w.heap.size + 1 + 1, 1, none⟩ (.string cI)) (w.heap.size + 1 + 1) 0 (rcs ⟨2, cI, eB, eB, eB, eB, eB, [], 0⟩ (.slice none 0 0)).toList) := range_of (t := 26) t1.qb
  have HTZ : Hid (World.there (w1.setCell ⟨w.heap.size + 1 + 1, 1, none⟩ (.string cI)) (w.heap.size + 1) 0 9) := there_of (cur := zrec.toList) t1.zb 0 9 (by simp)
  have HT := hide t1
  clear t1
  go_wp2_with (first
    | (refine wpList_load_mid rfl 26 (.tmp 3) rfl (w.heap.size + 1 + 1) 0 rfl _ _ HRQ.out Tryz.underlying26 rfl sizeRec ?_)
    | (refine wpList_store_mid rfl 26 (.tmp 2) (.tmp 89) rfl (w.heap.size + 1) 0 (rcs ⟨2, cI, eB, eB, eB, eB, eB, [], 0⟩ (.slice none 0 0)) rfl rfl HTZ.out sizeRec (rcs_one _ _ _ _) ?_))
  refine bodyPost_ret (results_c rfl _ rfl (World.rangeAt_setCells_same _ (w.heap.size + 1) 0 (rcs ⟨2, cI, eB, eB, eB, eB, eB, [], 0⟩ (.slice none 0 0)).toList HTZ.out) Tryz.underlying26 rfl sizeRec) rfl ?_
  refine ⟨_, rfl, own_least (own_at HT.out.own (fun g hg => sets_other _ _ _ _ _ (by omega))) (by omega), ?_⟩
  exact HT.out.bl.trans (((Fr.refl [w.heap.size + 1] _).sets (w.heap.size + 1) 0 _ (Or.inl (List.mem_singleton.2 rfl))).below (fun k hk => by rw [List.mem_singleton.1 hk]; omega) HT.out.bl.size)
set_option maxRecDepth 100000 in
set_option maxHeartbeats 12800000 in
theorem tidy_5 (r : Rec) (v : Value) (a : Int) (w : World) (_hv : Go.Proofs.YtocpikgcbibcoaaGreatDoor.ss.Lies w v r.ss) (hz : TidIn r) (he : pk.Env w) (hp : kitw.pick (wrap64 (r.k - 1)) 11 = 4) (_ha : kitw.pick r.at_ 1099511627777 = a) :
    Calls Tryz.prog 19 #[.agg (rcs r v)] w (TidOut (tid 5 a r) w) := by
  have HP : Hid (∀ X, Calls Tryz.prog 31 #[.int .i64 (wrap64 (r.k - 1)), .int .i64 11] X fun e w' => e = .returned (.int .i64 4) ∧ w' = X) := fun X => by have h := kitw.pick_all (wrap64 (r.k - 1)) 11 X (by decide) (by decide); rw [hp] at h; exact h
  have HI : Hid (∀ X, Below w.heap.size w X → Calls Tryz.prog 32 #[.string r.id] X fun e w' => e = .returned (.string (pk.ch r.id)) ∧ Below X.heap.size X w') := fun X hX => idOf_any r.id X hz.id (he.below hX)
  have e9 : tid 5 a r = ⟨5, pk.ch r.id, eB, eB, eB, eB, eB, [], 0⟩ := rfl
  rw [e9]
  obtain ⟨X0, hX0⟩ : ∃ X0, X0 = (((w.alloc (.cells (rcs r v) 26)).alloc (.cells zrec 26)).alloc (.cells #[.int .i64 5, .string ⟨#[]⟩, .string ⟨#[]⟩, .string ⟨#[]⟩, .string ⟨#[]⟩, .string ⟨#[]⟩, .string ⟨#[]⟩, .slice none 0 0, .int .i64 0] 26)) := ⟨_, rfl⟩
  have T0 := hide (Tq.start w r v 5)
  rw [← hX0] at T0
  have HX0 := hide hX0
  clear _hv he hp _ha e9 hX0
  generalize pk.ch r.id = cI at *
  go_enter Tryz.func19, Tryz.ntmps19
  go_wp2_with fail
  refine (HP.out _).mono ?_
  rintro x w9 ⟨rfl, h9⟩
  obtain rfl := h9.symm
  clear h9
  go_wp2_with fail
  rw [← HX0.out]
  refine (HI.out _ T0.out.bl).mono ?_
  rintro x w1 ⟨rfl, b1⟩
  have S1 := hide (T0.out.keep b1)
  clear b1
  have t1 := S1.out.p1 cI
  have z1 : w1.cell? ⟨w.heap.size + 1 + 1, 1, none⟩ = some _ := cell_of S1.out.qb 1
  have f1 : w1.frozen? ⟨w.heap.size + 1 + 1, 1, none⟩ = false := free_of S1.out.qb 1
  have k1 := cell_of t1.qb 0
  have HRQ : Hid (World.rangeAt (w1.setCell ⟨w.heap.size + 1 + 1, 1, none⟩ (.string cI)) (w.heap.size + 1 + 1) 0 (rcs ⟨5, cI, eB, eB, eB, eB, eB, [], 0⟩ (.slice none 0 0)).toList) := range_of (t := 26) t1.qb
  have HTZ : Hid (World.there (w1.setCell ⟨w.heap.size + 1 + 1, 1, none⟩ (.string cI)) (w.heap.size + 1) 0 9) := there_of (cur := zrec.toList) t1.zb 0 9 (by simp)
  have HT := hide t1
  clear t1
  go_wp2_with (first
    | (refine wpList_load_mid rfl 26 (.tmp 3) rfl (w.heap.size + 1 + 1) 0 rfl _ _ HRQ.out Tryz.underlying26 rfl sizeRec ?_)
    | (refine wpList_store_mid rfl 26 (.tmp 2) (.tmp 89) rfl (w.heap.size + 1) 0 (rcs ⟨5, cI, eB, eB, eB, eB, eB, [], 0⟩ (.slice none 0 0)) rfl rfl HTZ.out sizeRec (rcs_one _ _ _ _) ?_))
  refine bodyPost_ret (results_c rfl _ rfl (World.rangeAt_setCells_same _ (w.heap.size + 1) 0 (rcs ⟨5, cI, eB, eB, eB, eB, eB, [], 0⟩ (.slice none 0 0)).toList HTZ.out) Tryz.underlying26 rfl sizeRec) rfl ?_
  refine ⟨_, rfl, own_least (own_at HT.out.own (fun g hg => sets_other _ _ _ _ _ (by omega))) (by omega), ?_⟩
  exact HT.out.bl.trans (((Fr.refl [w.heap.size + 1] _).sets (w.heap.size + 1) 0 _ (Or.inl (List.mem_singleton.2 rfl))).below (fun k hk => by rw [List.mem_singleton.1 hk]; omega) HT.out.bl.size)
set_option maxRecDepth 100000 in
set_option maxHeartbeats 12800000 in
theorem tidy_7 (r : Rec) (v : Value) (a : Int) (w : World) (_hv : Go.Proofs.YtocpikgcbibcoaaGreatDoor.ss.Lies w v r.ss) (hz : TidIn r) (he : pk.Env w) (hp : kitw.pick (wrap64 (r.k - 1)) 11 = 6) (_ha : kitw.pick r.at_ 1099511627777 = a) :
    Calls Tryz.prog 19 #[.agg (rcs r v)] w (TidOut (tid 7 a r) w) := by
  have HP : Hid (∀ X, Calls Tryz.prog 31 #[.int .i64 (wrap64 (r.k - 1)), .int .i64 11] X fun e w' => e = .returned (.int .i64 6) ∧ w' = X) := fun X => by have h := kitw.pick_all (wrap64 (r.k - 1)) 11 X (by decide) (by decide); rw [hp] at h; exact h
  have HI : Hid (∀ X, Below w.heap.size w X → Calls Tryz.prog 32 #[.string r.id] X fun e w' => e = .returned (.string (pk.ch r.id)) ∧ Below X.heap.size X w') := fun X hX => idOf_any r.id X hz.id (he.below hX)
  have e9 : tid 7 a r = ⟨7, pk.ch r.id, eB, eB, eB, eB, eB, [], 0⟩ := rfl
  rw [e9]
  obtain ⟨X0, hX0⟩ : ∃ X0, X0 = (((w.alloc (.cells (rcs r v) 26)).alloc (.cells zrec 26)).alloc (.cells #[.int .i64 7, .string ⟨#[]⟩, .string ⟨#[]⟩, .string ⟨#[]⟩, .string ⟨#[]⟩, .string ⟨#[]⟩, .string ⟨#[]⟩, .slice none 0 0, .int .i64 0] 26)) := ⟨_, rfl⟩
  have T0 := hide (Tq.start w r v 7)
  rw [← hX0] at T0
  have HX0 := hide hX0
  clear _hv he hp _ha e9 hX0
  generalize pk.ch r.id = cI at *
  go_enter Tryz.func19, Tryz.ntmps19
  go_wp2_with fail
  refine (HP.out _).mono ?_
  rintro x w9 ⟨rfl, h9⟩
  obtain rfl := h9.symm
  clear h9
  go_wp2_with fail
  rw [← HX0.out]
  refine (HI.out _ T0.out.bl).mono ?_
  rintro x w1 ⟨rfl, b1⟩
  have S1 := hide (T0.out.keep b1)
  clear b1
  have t1 := S1.out.p1 cI
  have z1 : w1.cell? ⟨w.heap.size + 1 + 1, 1, none⟩ = some _ := cell_of S1.out.qb 1
  have f1 : w1.frozen? ⟨w.heap.size + 1 + 1, 1, none⟩ = false := free_of S1.out.qb 1
  have k1 := cell_of t1.qb 0
  have HRQ : Hid (World.rangeAt (w1.setCell ⟨w.heap.size + 1 + 1, 1, none⟩ (.string cI)) (w.heap.size + 1 + 1) 0 (rcs ⟨7, cI, eB, eB, eB, eB, eB, [], 0⟩ (.slice none 0 0)).toList) := range_of (t := 26) t1.qb
  have HTZ : Hid (World.there (w1.setCell ⟨w.heap.size + 1 + 1, 1, none⟩ (.string cI)) (w.heap.size + 1) 0 9) := there_of (cur := zrec.toList) t1.zb 0 9 (by simp)
  have HT := hide t1
  clear t1
  go_wp2_with (first
    | (refine wpList_load_mid rfl 26 (.tmp 3) rfl (w.heap.size + 1 + 1) 0 rfl _ _ HRQ.out Tryz.underlying26 rfl sizeRec ?_)
    | (refine wpList_store_mid rfl 26 (.tmp 2) (.tmp 89) rfl (w.heap.size + 1) 0 (rcs ⟨7, cI, eB, eB, eB, eB, eB, [], 0⟩ (.slice none 0 0)) rfl rfl HTZ.out sizeRec (rcs_one _ _ _ _) ?_))
  refine bodyPost_ret (results_c rfl _ rfl (World.rangeAt_setCells_same _ (w.heap.size + 1) 0 (rcs ⟨7, cI, eB, eB, eB, eB, eB, [], 0⟩ (.slice none 0 0)).toList HTZ.out) Tryz.underlying26 rfl sizeRec) rfl ?_
  refine ⟨_, rfl, own_least (own_at HT.out.own (fun g hg => sets_other _ _ _ _ _ (by omega))) (by omega), ?_⟩
  exact HT.out.bl.trans (((Fr.refl [w.heap.size + 1] _).sets (w.heap.size + 1) 0 _ (Or.inl (List.mem_singleton.2 rfl))).below (fun k hk => by rw [List.mem_singleton.1 hk]; omega) HT.out.bl.size)
set_option maxRecDepth 100000 in
set_option maxHeartbeats 12800000 in
theorem tidy_8 (r : Rec) (v : Value) (a : Int) (w : World) (_hv : Go.Proofs.YtocpikgcbibcoaaGreatDoor.ss.Lies w v r.ss) (hz : TidIn r) (he : pk.Env w) (hp : kitw.pick (wrap64 (r.k - 1)) 11 = 7) (_ha : kitw.pick r.at_ 1099511627777 = a) :
    Calls Tryz.prog 19 #[.agg (rcs r v)] w (TidOut (tid 8 a r) w) := by
  have HP : Hid (∀ X, Calls Tryz.prog 31 #[.int .i64 (wrap64 (r.k - 1)), .int .i64 11] X fun e w' => e = .returned (.int .i64 7) ∧ w' = X) := fun X => by have h := kitw.pick_all (wrap64 (r.k - 1)) 11 X (by decide) (by decide); rw [hp] at h; exact h
  have HI : Hid (∀ X, Below w.heap.size w X → Calls Tryz.prog 32 #[.string r.id] X fun e w' => e = .returned (.string (pk.ch r.id)) ∧ Below X.heap.size X w') := fun X hX => idOf_any r.id X hz.id (he.below hX)
  have e9 : tid 8 a r = ⟨8, pk.ch r.id, eB, eB, eB, eB, eB, [], 0⟩ := rfl
  rw [e9]
  obtain ⟨X0, hX0⟩ : ∃ X0, X0 = (((w.alloc (.cells (rcs r v) 26)).alloc (.cells zrec 26)).alloc (.cells #[.int .i64 8, .string ⟨#[]⟩, .string ⟨#[]⟩, .string ⟨#[]⟩, .string ⟨#[]⟩, .string ⟨#[]⟩, .string ⟨#[]⟩, .slice none 0 0, .int .i64 0] 26)) := ⟨_, rfl⟩
  have T0 := hide (Tq.start w r v 8)
  rw [← hX0] at T0
  have HX0 := hide hX0
  clear _hv he hp _ha e9 hX0
  generalize pk.ch r.id = cI at *
  go_enter Tryz.func19, Tryz.ntmps19
  go_wp2_with fail
  refine (HP.out _).mono ?_
  rintro x w9 ⟨rfl, h9⟩
  obtain rfl := h9.symm
  clear h9
  go_wp2_with fail
  rw [← HX0.out]
  refine (HI.out _ T0.out.bl).mono ?_
  rintro x w1 ⟨rfl, b1⟩
  have S1 := hide (T0.out.keep b1)
  clear b1
  have t1 := S1.out.p1 cI
  have z1 : w1.cell? ⟨w.heap.size + 1 + 1, 1, none⟩ = some _ := cell_of S1.out.qb 1
  have f1 : w1.frozen? ⟨w.heap.size + 1 + 1, 1, none⟩ = false := free_of S1.out.qb 1
  have k1 := cell_of t1.qb 0
  have HRQ : Hid (World.rangeAt (w1.setCell ⟨w.heap.size + 1 + 1, 1, none⟩ (.string cI)) (w.heap.size + 1 + 1) 0 (rcs ⟨8, cI, eB, eB, eB, eB, eB, [], 0⟩ (.slice none 0 0)).toList) := range_of (t := 26) t1.qb
  have HTZ : Hid (World.there (w1.setCell ⟨w.heap.size + 1 + 1, 1, none⟩ (.string cI)) (w.heap.size + 1) 0 9) := there_of (cur := zrec.toList) t1.zb 0 9 (by simp)
  have HT := hide t1
  clear t1
  go_wp2_with (first
    | (refine wpList_load_mid rfl 26 (.tmp 3) rfl (w.heap.size + 1 + 1) 0 rfl _ _ HRQ.out Tryz.underlying26 rfl sizeRec ?_)
    | (refine wpList_store_mid rfl 26 (.tmp 2) (.tmp 89) rfl (w.heap.size + 1) 0 (rcs ⟨8, cI, eB, eB, eB, eB, eB, [], 0⟩ (.slice none 0 0)) rfl rfl HTZ.out sizeRec (rcs_one _ _ _ _) ?_))
  refine bodyPost_ret (results_c rfl _ rfl (World.rangeAt_setCells_same _ (w.heap.size + 1) 0 (rcs ⟨8, cI, eB, eB, eB, eB, eB, [], 0⟩ (.slice none 0 0)).toList HTZ.out) Tryz.underlying26 rfl sizeRec) rfl ?_
  refine ⟨_, rfl, own_least (own_at HT.out.own (fun g hg => sets_other _ _ _ _ _ (by omega))) (by omega), ?_⟩
  exact HT.out.bl.trans (((Fr.refl [w.heap.size + 1] _).sets (w.heap.size + 1) 0 _ (Or.inl (List.mem_singleton.2 rfl))).below (fun k hk => by rw [List.mem_singleton.1 hk]; omega) HT.out.bl.size)
set_option maxRecDepth 100000 in
set_option maxHeartbeats 12800000 in
theorem tidy_10 (r : Rec) (v : Value) (a : Int) (w : World) (_hv : Go.Proofs.YtocpikgcbibcoaaGreatDoor.ss.Lies w v r.ss) (hz : TidIn r) (he : pk.Env w) (hp : kitw.pick (wrap64 (r.k - 1)) 11 = 9) (_ha : kitw.pick r.at_ 1099511627777 = a) :
    Calls Tryz.prog 19 #[.agg (rcs r v)] w (TidOut (tid 10 a r) w) := by
  have HP : Hid (∀ X, Calls Tryz.prog 31 #[.int .i64 (wrap64 (r.k - 1)), .int .i64 11] X fun e w' => e = .returned (.int .i64 9) ∧ w' = X) := fun X => by have h := kitw.pick_all (wrap64 (r.k - 1)) 11 X (by decide) (by decide); rw [hp] at h; exact h
  have HI : Hid (∀ X, Below w.heap.size w X → Calls Tryz.prog 32 #[.string r.id] X fun e w' => e = .returned (.string (pk.ch r.id)) ∧ Below X.heap.size X w') := fun X hX => idOf_any r.id X hz.id (he.below hX)
  have e9 : tid 10 a r = ⟨10, pk.ch r.id, eB, eB, eB, eB, eB, [], 0⟩ := rfl
  rw [e9]
  obtain ⟨X0, hX0⟩ : ∃ X0, X0 = (((w.alloc (.cells (rcs r v) 26)).alloc (.cells zrec 26)).alloc (.cells #[.int .i64 10, .string ⟨#[]⟩, .string ⟨#[]⟩, .string ⟨#[]⟩, .string ⟨#[]⟩, .string ⟨#[]⟩, .string ⟨#[]⟩, .slice none 0 0, .int .i64 0] 26)) := ⟨_, rfl⟩
  have T0 := hide (Tq.start w r v 10)
  rw [← hX0] at T0
  have HX0 := hide hX0
  clear _hv he hp _ha e9 hX0
  generalize pk.ch r.id = cI at *
  go_enter Tryz.func19, Tryz.ntmps19
  go_wp2_with fail
  refine (HP.out _).mono ?_
  rintro x w9 ⟨rfl, h9⟩
  obtain rfl := h9.symm
  clear h9
  go_wp2_with fail
  rw [← HX0.out]
  refine (HI.out _ T0.out.bl).mono ?_
  rintro x w1 ⟨rfl, b1⟩
  have S1 := hide (T0.out.keep b1)
  clear b1
  have t1 := S1.out.p1 cI
  have z1 : w1.cell? ⟨w.heap.size + 1 + 1, 1, none⟩ = some _ := cell_of S1.out.qb 1
  have f1 : w1.frozen? ⟨w.heap.size + 1 + 1, 1, none⟩ = false := free_of S1.out.qb 1
  have k1 := cell_of t1.qb 0
  have HRQ : Hid (World.rangeAt (w1.setCell ⟨w.heap.size + 1 + 1, 1, none⟩ (.string cI)) (w.heap.size + 1 + 1) 0 (rcs ⟨10, cI, eB, eB, eB, eB, eB, [], 0⟩ (.slice none 0 0)).toList) := range_of (t := 26) t1.qb
  have HTZ : Hid (World.there (w1.setCell ⟨w.heap.size + 1 + 1, 1, none⟩ (.string cI)) (w.heap.size + 1) 0 9) := there_of (cur := zrec.toList) t1.zb 0 9 (by simp)
  have HT := hide t1
  clear t1
  go_wp2_with (first
    | (refine wpList_load_mid rfl 26 (.tmp 3) rfl (w.heap.size + 1 + 1) 0 rfl _ _ HRQ.out Tryz.underlying26 rfl sizeRec ?_)
    | (refine wpList_store_mid rfl 26 (.tmp 2) (.tmp 89) rfl (w.heap.size + 1) 0 (rcs ⟨10, cI, eB, eB, eB, eB, eB, [], 0⟩ (.slice none 0 0)) rfl rfl HTZ.out sizeRec (rcs_one _ _ _ _) ?_))
  refine bodyPost_ret (results_c rfl _ rfl (World.rangeAt_setCells_same _ (w.heap.size + 1) 0 (rcs ⟨10, cI, eB, eB, eB, eB, eB, [], 0⟩ (.slice none 0 0)).toList HTZ.out) Tryz.underlying26 rfl sizeRec) rfl ?_
  refine ⟨_, rfl, own_least (own_at HT.out.own (fun g hg => sets_other _ _ _ _ _ (by omega))) (by omega), ?_⟩
  exact HT.out.bl.trans (((Fr.refl [w.heap.size + 1] _).sets (w.heap.size + 1) 0 _ (Or.inl (List.mem_singleton.2 rfl))).below (fun k hk => by rw [List.mem_singleton.1 hk]; omega) HT.out.bl.size)
set_option maxRecDepth 100000 in
set_option maxHeartbeats 12800000 in
theorem tidy_11 (r : Rec) (v : Value) (a : Int) (w : World) (_hv : Go.Proofs.YtocpikgcbibcoaaGreatDoor.ss.Lies w v r.ss) (hz : TidIn r) (_he : pk.Env w) (hp : kitw.pick (wrap64 (r.k - 1)) 11 = 10) (_ha : kitw.pick r.at_ 1099511627777 = a) :
    Calls Tryz.prog 19 #[.agg (rcs r v)] w (TidOut (tid 11 a r) w) := by
  have HP : Hid (∀ X, Calls Tryz.prog 31 #[.int .i64 (wrap64 (r.k - 1)), .int .i64 11] X fun e w' => e = .returned (.int .i64 10) ∧ w' = X) := fun X => by have h := kitw.pick_all (wrap64 (r.k - 1)) 11 X (by decide) (by decide); rw [hp] at h; exact h
  have HU : Hid (∀ X, Below w.heap.size w X → Calls Tryz.prog 33 #[.string r.us] X fun e w' => e = .returned (.string (nmT r.us)) ∧ Below X.heap.size X w') := fun X _ => nameOf_any r.us X hz.us
  have HC : Hid (∀ X, Below w.heap.size w X → Calls Tryz.prog 33 #[.string r.cl] X fun e w' => e = .returned (.string (nmT r.cl)) ∧ Below X.heap.size X w') := fun X _ => nameOf_any r.cl X hz.cl
  have e9 : tid 11 a r = ⟨11, eB, nmT r.us, nmT r.cl, eB, eB, eB, [], 0⟩ := rfl
  rw [e9]
  obtain ⟨X0, hX0⟩ : ∃ X0, X0 = (((w.alloc (.cells (rcs r v) 26)).alloc (.cells zrec 26)).alloc (.cells #[.int .i64 11, .string ⟨#[]⟩, .string ⟨#[]⟩, .string ⟨#[]⟩, .string ⟨#[]⟩, .string ⟨#[]⟩, .string ⟨#[]⟩, .slice none 0 0, .int .i64 0] 26)) := ⟨_, rfl⟩
  have T0 := hide (Tq.start w r v 11)
  rw [← hX0] at T0
  have HX0 := hide hX0
  clear _hv _he hp _ha e9 hX0
  generalize nmT r.us = cU at *
  generalize nmT r.cl = cC at *
  go_enter Tryz.func19, Tryz.ntmps19
  go_wp2_with fail
  refine (HP.out _).mono ?_
  rintro x w9 ⟨rfl, h9⟩
  obtain rfl := h9.symm
  clear h9
  go_wp2_with fail
  rw [← HX0.out]
  refine (HU.out _ T0.out.bl).mono ?_
  rintro x w1 ⟨rfl, b1⟩
  have S1 := hide (T0.out.keep b1)
  clear b1
  have t1 := S1.out.p2 cU
  have z1 : w1.cell? ⟨w.heap.size + 1 + 1, 2, none⟩ = some _ := cell_of S1.out.qb 2
  have f1 : w1.frozen? ⟨w.heap.size + 1 + 1, 2, none⟩ = false := free_of S1.out.qb 2
  have k1 := cell_of t1.qb 0
  have r1 := cell_of t1.rb 3
  have T1 := hide t1
  clear t1
  go_wp2_with fail
  obtain ⟨X1, hX1⟩ : ∃ X1, X1 = w1.setCell ⟨w.heap.size + 1 + 1, 2, none⟩ (.string cU) := ⟨_, rfl⟩
  rw [← hX1] at T1
  rw [← hX1]
  clear z1 f1 k1 r1 hX1
  refine (HC.out _ T1.out.bl).mono ?_
  rintro x w2 ⟨rfl, b2⟩
  have S2 := hide (T1.out.keep b2)
  clear b2
  have t2 := S2.out.p3 cC
  have z2 : w2.cell? ⟨w.heap.size + 1 + 1, 3, none⟩ = some _ := cell_of S2.out.qb 3
  have f2 : w2.frozen? ⟨w.heap.size + 1 + 1, 3, none⟩ = false := free_of S2.out.qb 3
  have k2 := cell_of t2.qb 0
  have HRQ : Hid (World.rangeAt (w2.setCell ⟨w.heap.size + 1 + 1, 3, none⟩ (.string cC)) (w.heap.size + 1 + 1) 0 (rcs ⟨11, eB, cU, cC, eB, eB, eB, [], 0⟩ (.slice none 0 0)).toList) := range_of (t := 26) t2.qb
  have HTZ : Hid (World.there (w2.setCell ⟨w.heap.size + 1 + 1, 3, none⟩ (.string cC)) (w.heap.size + 1) 0 9) := there_of (cur := zrec.toList) t2.zb 0 9 (by simp)
  have HT := hide t2
  clear t2
  go_wp2_with (first
    | (refine wpList_load_mid rfl 26 (.tmp 3) rfl (w.heap.size + 1 + 1) 0 rfl _ _ HRQ.out Tryz.underlying26 rfl sizeRec ?_)
    | (refine wpList_store_mid rfl 26 (.tmp 2) (.tmp 89) rfl (w.heap.size + 1) 0 (rcs ⟨11, eB, cU, cC, eB, eB, eB, [], 0⟩ (.slice none 0 0)) rfl rfl HTZ.out sizeRec (rcs_one _ _ _ _) ?_))
  refine bodyPost_ret (results_c rfl _ rfl (World.rangeAt_setCells_same _ (w.heap.size + 1) 0 (rcs ⟨11, eB, cU, cC, eB, eB, eB, [], 0⟩ (.slice none 0 0)).toList HTZ.out) Tryz.underlying26 rfl sizeRec) rfl ?_
  refine ⟨_, rfl, own_least (own_at HT.out.own (fun g hg => sets_other _ _ _ _ _ (by omega))) (by omega), ?_⟩
  exact HT.out.bl.trans (((Fr.refl [w.heap.size + 1] _).sets (w.heap.size + 1) 0 _ (Or.inl (List.mem_singleton.2 rfl))).below (fun k hk => by rw [List.mem_singleton.1 hk]; omega) HT.out.bl.size)
end Go.Proofs.YtocpikgcbibcoaaGreatDoor.rc
