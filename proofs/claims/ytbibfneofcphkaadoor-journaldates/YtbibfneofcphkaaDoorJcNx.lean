import Derived.Test.YtbibfneofcphkaaDoorJcW5
namespace Go.Proofs.YtbibfneofcphkaaDoor.jc
open Go.ChangeShapes Go.WideShapes Go.ChangeAt Go.RowKit Go.Proofs.YtbibfneofcphkaaDoor.common Go.Proofs.YtbibfneofcphkaaDoor.Jc

set_option maxRecDepth 100000 in
set_option maxHeartbeats 1600000 in
theorem leapL_any (y : Nat) (w : World) : Calls Tryd.prog 45 #[.int .i64 (y : Int)] w fun e w' => e = .returned (.bool (lp y)) ∧ w' = w := by
  have e4 : (y : Int).tmod 4 = ((y % 4 : Nat) : Int) := tmodN y 4
  have e1 : (y : Int).tmod 100 = ((y % 100 : Nat) : Int) := tmodN y 100
  have e0 : (y : Int).tmod 400 = ((y % 400 : Nat) : Int) := tmodN y 400
  have HL : Hid (lp y = ((decide (y % 4 = 0) && decide (y % 100 ≠ 0)) || decide (y % 400 = 0))) := rfl
  by_cases k4 : y % 4 = 0
  · by_cases k1 : y % 100 = 0
    · by_cases k0 : y % 400 = 0
      · have HR : Hid (lp y = true) := by show _ = _; rw [HL.out]; simp [k4, k1, k0]
        rw [k4] at e4
        rw [k1] at e1
        rw [k0] at e0
        generalize lp y = t at *
        clear HL k4 k1 k0
        go_enter Tryd.func45, Tryd.ntmps45
        go_wp2_with fail
        go_ret
        exact ⟨by rw [HR.out]; rfl, rfl⟩
      · have HR : Hid (lp y = false) := by show _ = _; rw [HL.out]; simp [k4, k1, k0]
        rw [k4] at e4
        rw [k1] at e1
        have b0 : (((y % 400 : Nat) : Int) == 0) = false := beq_false_of_ne (by omega)
        have c0 : (((y % 400 : Nat) : Int) != 0) = true := by rw [bne, b0]; rfl
        generalize lp y = t at *
        clear HL k4 k1 k0
        generalize y % 400 = q0 at *
        go_enter Tryd.func45, Tryd.ntmps45
        go_wp2_with fail
        go_ret
        exact ⟨by rw [HR.out]; rfl, rfl⟩
    · by_cases k0 : y % 400 = 0
      · exact absurd (show y % 100 = 0 by omega) k1
      · have HR : Hid (lp y = true) := by show _ = _; rw [HL.out]; simp [k4, k1, k0]
        rw [k4] at e4
        have b1 : (((y % 100 : Nat) : Int) == 0) = false := beq_false_of_ne (by omega)
        have c1 : (((y % 100 : Nat) : Int) != 0) = true := by rw [bne, b1]; rfl
        have b0 : (((y % 400 : Nat) : Int) == 0) = false := beq_false_of_ne (by omega)
        have c0 : (((y % 400 : Nat) : Int) != 0) = true := by rw [bne, b0]; rfl
        generalize lp y = t at *
        clear HL k4 k1 k0
        generalize y % 100 = q1 at *
        generalize y % 400 = q0 at *
        go_enter Tryd.func45, Tryd.ntmps45
        go_wp2_with fail
        go_ret
        exact ⟨by rw [HR.out]; rfl, rfl⟩
  · by_cases k1 : y % 100 = 0
    · by_cases k0 : y % 400 = 0
      · exact absurd (show y % 4 = 0 by omega) k4
      · exact absurd (show y % 4 = 0 by omega) k4
    · by_cases k0 : y % 400 = 0
      · exact absurd (show y % 100 = 0 by omega) k1
      · have HR : Hid (lp y = false) := by show _ = _; rw [HL.out]; simp [k4, k1, k0]
        have b4 : (((y % 4 : Nat) : Int) == 0) = false := beq_false_of_ne (by omega)
        have c4 : (((y % 4 : Nat) : Int) != 0) = true := by rw [bne, b4]; rfl
        have b1 : (((y % 100 : Nat) : Int) == 0) = false := beq_false_of_ne (by omega)
        have c1 : (((y % 100 : Nat) : Int) != 0) = true := by rw [bne, b1]; rfl
        have b0 : (((y % 400 : Nat) : Int) == 0) = false := beq_false_of_ne (by omega)
        have c0 : (((y % 400 : Nat) : Int) != 0) = true := by rw [bne, b0]; rfl
        generalize lp y = t at *
        clear HL k4 k1 k0
        generalize y % 4 = q4 at *
        generalize y % 100 = q1 at *
        generalize y % 400 = q0 at *
        go_enter Tryd.func45, Tryd.ntmps45
        go_wp2_with fail
        go_ret
        exact ⟨by rw [HR.out]; rfl, rfl⟩

/-- the days of the months, in the law's table -/
def LTab (w : World) : Prop := ∀ i, i < 12 → w.cell? ⟨9, i, none⟩ = some (.int .i64 ((tab.getD i 0 : Nat) : Int))
theorem LTab.fr {w w' : World} (h : LTab w) (hb : Below w.heap.size w w') : LTab w' := fun i hi => (hb.cell (World.block_lt_of_cell? _ _ (h i hi))).trans (h i hi)
theorem tab_most (k : Nat) (h : k < 12) : tab.getD k 0 ≤ 31 := by
  match k, h with
  | 0, _ => decide
  | 1, _ => decide
  | 2, _ => decide
  | 3, _ => decide
  | 4, _ => decide
  | 5, _ => decide
  | 6, _ => decide
  | 7, _ => decide
  | 8, _ => decide
  | 9, _ => decide
  | 10, _ => decide
  | 11, _ => decide

set_option maxRecDepth 100000 in
set_option maxHeartbeats 3200000 in
theorem last_any (y m d : Nat) (h i s g : Int) (w : World) (hT : LTab w) (m0 : 1 ≤ m) (m1 : m ≤ 12) : Calls Tryd.prog 25 #[dI y m d h i s g] w fun e w' => e = .returned (.bool (decide (md y m ≤ d))) ∧ w' = w.alloc (.cells #[.int .i64 (y : Int), .int .i64 (m : Int), .int .i64 (d : Int), .int .i64 h, .int .i64 i, .int .i64 s, .int .i64 g] 24) := by
  have BA : Below w.heap.size w (w.alloc (.cells #[.int .i64 (y : Int), .int .i64 (m : Int), .int .i64 (d : Int), .int .i64 h, .int .i64 i, .int .i64 s, .int .i64 g] 24)) := (Below.refl _ _).alloc (Nat.le_refl _) _
  obtain ⟨k, hk⟩ : ∃ k, m = k + 1 := ⟨m - 1, by omega⟩
  have ct := (hT.fr BA) k (by omega)
  have HL := hide (leapL_any y (w.alloc (.cells #[.int .i64 (y : Int), .int .i64 (m : Int), .int .i64 (d : Int), .int .i64 h, .int .i64 i, .int .i64 s, .int .i64 g] 24)))
  have ht := tab_most k (by omega)
  have HD : Hid (md y m = if m = 2 ∧ lp y = true then 29 else tab.getD k 0) := by show _ = _; unfold md; rw [hk]; rfl
  clear BA hT
  have ek : (m : Int) - 1 = (k : Int) := by omega
  clear hk
  unfold dI
  by_cases h2 : m = 2
  · have b2 : ((m : Int) == 2) = true := by rw [h2]; rfl
    cases hl : lp y with
    | true =>
      rw [hl] at HL
      have HR : Hid (md y m = 29) := by show _ = _; rw [HD.out, if_pos ⟨h2, hl⟩]
      clear HD hl h2
      generalize md y m = q at *
      generalize tab.getD k 0 = r at *
      go_enter Tryd.func25, Tryd.ntmps25
      go_wp2_with fail
      refine HL.out.mono ?_
      rintro x w1 ⟨rfl, rfl⟩
      go_wp2_with fail
      go_ret
      exact ⟨by rw [HR.out]; first | rfl | (simp; try omega), rfl⟩
    | false =>
      rw [hl] at HL
      have HR : Hid (md y m = tab.getD k 0) := by show _ = _; rw [HD.out, if_neg (by rw [hl]; simp)]
      clear HD hl h2
      generalize md y m = q at *
      generalize tab.getD k 0 = r at *
      go_enter Tryd.func25, Tryd.ntmps25
      go_wp2_with fail
      refine HL.out.mono ?_
      rintro x w1 ⟨rfl, rfl⟩
      go_wp2_with fail
      go_ret
      exact ⟨by rw [HR.out]; first | rfl | simp, rfl⟩
  · have b2 : ((m : Int) == 2) = false := beq_false_of_ne (by omega)
    have HR : Hid (md y m = tab.getD k 0) := by show _ = _; rw [HD.out, if_neg (fun h => h2 h.1)]
    clear HD h2
    generalize md y m = q at *
    generalize tab.getD k 0 = r at *
    go_enter Tryd.func25, Tryd.ntmps25
    go_wp2_with fail
    go_ret
    exact ⟨by rw [HR.out]; first | rfl | simp, rfl⟩

theorem wrp (n : Int) (h : -9223372036854775808 ≤ n ∧ n ≤ 9223372036854775807) : wrap64 n = n := by unfold wrap64; omega
theorem heap2 (w : World) (A Z : Obj) : ((w.alloc A).alloc Z).heap[w.heap.size + 1]? = some Z := by
  have := heap_new (w.alloc A) Z
  rwa [World.size_alloc] at this
theorem heap3 (w : World) (A Z Q : Obj) : (((w.alloc A).alloc Z).alloc Q).heap[w.heap.size + 1]? = some Z := by
  have h := heap2 w A Z
  have hl := (Array.getElem?_eq_some_iff.1 h).1
  show (((w.alloc A).alloc Z).heap.push _)[w.heap.size + 1]? = _
  rw [Array.getElem?_push, if_neg (by omega), h]
set_option maxRecDepth 100000 in
set_option maxHeartbeats 3200000 in
theorem next_1 (y m d h i s g : Nat) (w : World) (h1 : s + 1 < 60) : Calls Tryd.prog 10 #[dI y m d h i s g] w fun e w' => e = .returned (.agg #[.int .i64 ((y : Nat) : Int), .int .i64 ((m : Nat) : Int), .int .i64 ((d : Nat) : Int), .int .i64 ((h : Nat) : Int), .int .i64 ((i : Nat) : Int), .int .i64 ((s : Int) + 1), .int .i64 ((g : Nat) : Int)]) ∧ Below w.heap.size w w' := by
  have hs : (s : Int) + 1 < 60 := by omega
  unfold dI
  go_enter Tryd.func10, Tryd.ntmps10
  go_wp2_with fail
  refine bodyPost_ret (v := .agg #[.int .i64 ((y : Nat) : Int), .int .i64 ((m : Nat) : Int), .int .i64 ((d : Nat) : Int), .int .i64 ((h : Nat) : Int), .int .i64 ((i : Nat) : Int), .int .i64 ((s : Int) + 1), .int .i64 ((g : Nat) : Int)]) (results_cell1 (b := w.heap.size + 1) (o := 0) (cs := [.int .i64 ((y : Nat) : Int), .int .i64 ((m : Nat) : Int), .int .i64 ((d : Nat) : Int), .int .i64 ((h : Nat) : Int), .int .i64 ((i : Nat) : Int), .int .i64 ((s : Int) + 1), .int .i64 ((g : Nat) : Int)]) Tryd.results10 _ rfl ?_ Tryd.underlying24 rfl sizeD) rfl ⟨rfl, ?_⟩
  · first | exact range_of (t := 24) (heap2 w _ _) | exact range_of (t := 24) (heap3 w _ _ _)
  · first | exact (((Below.refl _ _).alloc (Nat.le_refl _) _).alloc (by simp) _).alloc (by simp; omega) _ | exact ((Below.refl _ _).alloc (Nat.le_refl _) _).alloc (by simp) _

set_option maxRecDepth 100000 in
set_option maxHeartbeats 3200000 in
theorem next_2 (y m d h i s g : Nat) (w : World) (h1 : s = 59) (h2 : i + 1 < 60) : Calls Tryd.prog 10 #[dI y m d h i s g] w fun e w' => e = .returned (.agg #[.int .i64 ((y : Nat) : Int), .int .i64 ((m : Nat) : Int), .int .i64 ((d : Nat) : Int), .int .i64 ((h : Nat) : Int), .int .i64 ((i : Int) + 1), .int .i64 0, .int .i64 ((g : Nat) : Int)]) ∧ Below w.heap.size w w' := by
  subst h1
  have hs : (i : Int) + 1 < 60 := by omega
  unfold dI
  go_enter Tryd.func10, Tryd.ntmps10
  go_wp2_with fail
  refine bodyPost_ret (v := .agg #[.int .i64 ((y : Nat) : Int), .int .i64 ((m : Nat) : Int), .int .i64 ((d : Nat) : Int), .int .i64 ((h : Nat) : Int), .int .i64 ((i : Int) + 1), .int .i64 0, .int .i64 ((g : Nat) : Int)]) (results_cell1 (b := w.heap.size + 1) (o := 0) (cs := [.int .i64 ((y : Nat) : Int), .int .i64 ((m : Nat) : Int), .int .i64 ((d : Nat) : Int), .int .i64 ((h : Nat) : Int), .int .i64 ((i : Int) + 1), .int .i64 0, .int .i64 ((g : Nat) : Int)]) Tryd.results10 _ rfl ?_ Tryd.underlying24 rfl sizeD) rfl ⟨rfl, ?_⟩
  · first | exact range_of (t := 24) (heap2 w _ _) | exact range_of (t := 24) (heap3 w _ _ _)
  · first | exact (((Below.refl _ _).alloc (Nat.le_refl _) _).alloc (by simp) _).alloc (by simp; omega) _ | exact ((Below.refl _ _).alloc (Nat.le_refl _) _).alloc (by simp) _

set_option maxRecDepth 100000 in
set_option maxHeartbeats 3200000 in
theorem next_3 (y m d h i s g : Nat) (w : World) (h1 : s = 59) (h2 : i = 59) (h3 : h + 1 < 24) : Calls Tryd.prog 10 #[dI y m d h i s g] w fun e w' => e = .returned (.agg #[.int .i64 ((y : Nat) : Int), .int .i64 ((m : Nat) : Int), .int .i64 ((d : Nat) : Int), .int .i64 ((h : Int) + 1), .int .i64 0, .int .i64 0, .int .i64 ((g : Nat) : Int)]) ∧ Below w.heap.size w w' := by
  subst h1 h2
  have hs : (h : Int) + 1 < 24 := by omega
  unfold dI
  go_enter Tryd.func10, Tryd.ntmps10
  go_wp2_with fail
  refine bodyPost_ret (v := .agg #[.int .i64 ((y : Nat) : Int), .int .i64 ((m : Nat) : Int), .int .i64 ((d : Nat) : Int), .int .i64 ((h : Int) + 1), .int .i64 0, .int .i64 0, .int .i64 ((g : Nat) : Int)]) (results_cell1 (b := w.heap.size + 1) (o := 0) (cs := [.int .i64 ((y : Nat) : Int), .int .i64 ((m : Nat) : Int), .int .i64 ((d : Nat) : Int), .int .i64 ((h : Int) + 1), .int .i64 0, .int .i64 0, .int .i64 ((g : Nat) : Int)]) Tryd.results10 _ rfl ?_ Tryd.underlying24 rfl sizeD) rfl ⟨rfl, ?_⟩
  · first | exact range_of (t := 24) (heap2 w _ _) | exact range_of (t := 24) (heap3 w _ _ _)
  · first | exact (((Below.refl _ _).alloc (Nat.le_refl _) _).alloc (by simp) _).alloc (by simp; omega) _ | exact ((Below.refl _ _).alloc (Nat.le_refl _) _).alloc (by simp) _

set_option maxRecDepth 100000 in
set_option maxHeartbeats 3200000 in
theorem next_4 (y m d h i s g : Nat) (w : World) (h1 : s = 59) (h2 : i = 59) (h3 : h = 23) (k : Nat) (hk : k = (g + 1) % 7) (g1 : g < 7) (hT : LTab w) (m0 : 1 ≤ m) (m1 : m ≤ 12) (d1 : d ≤ 31) (y1 : y ≤ 9999) (hl : decide (md y m ≤ d) = false) : Calls Tryd.prog 10 #[dI y m d h i s g] w fun e w' => e = .returned (.agg #[.int .i64 ((y : Nat) : Int), .int .i64 ((m : Nat) : Int), .int .i64 ((d : Int) + 1), .int .i64 0, .int .i64 0, .int .i64 0, .int .i64 (k : Int)]) ∧ Below w.heap.size w w' := by
  subst h1 h2 h3
  have e7 : ((g : Int) + 1).tmod 7 = (k : Int) := by rw [hk, ← tmodN]; rfl
  have HL : Hid (∀ A Z, Calls Tryd.prog 25 #[.agg #[.int .i64 (y : Int), .int .i64 (m : Int), .int .i64 (d : Int), .int .i64 0, .int .i64 0, .int .i64 0, .int .i64 (k : Int)]] ((w.alloc A).alloc Z) fun e w' => e = .returned (.bool false) ∧ w' = ((w.alloc A).alloc Z).alloc (.cells #[.int .i64 (y : Int), .int .i64 (m : Int), .int .i64 (d : Int), .int .i64 0, .int .i64 0, .int .i64 0, .int .i64 (k : Int)] 24)) := fun A Z => by
    have := last_any y m d 0 0 0 (k : Int) ((w.alloc A).alloc Z) (hT.fr (((Below.refl _ _).alloc (Nat.le_refl _) _).alloc (by simp) _)) m0 m1
    rwa [hl] at this
  have hg : k < 7 := by omega
  have wd : wrap64 ((d : Int) + 1) = (d : Int) + 1 := wrp _ ⟨by omega, by omega⟩
  have wm : wrap64 ((m : Int) + 1) = (m : Int) + 1 := wrp _ ⟨by omega, by omega⟩
  have wy : wrap64 ((y : Int) + 1) = (y : Int) + 1 := wrp _ ⟨by omega, by omega⟩
  clear hT hl hk
  unfold dI
  go_enter Tryd.func10, Tryd.ntmps10
  go_wp2_with fail
  refine (HL.out _ _).mono ?_
  rintro x w1 ⟨rfl, rfl⟩
  go_wp2_with fail
  refine bodyPost_ret (v := .agg #[.int .i64 ((y : Nat) : Int), .int .i64 ((m : Nat) : Int), .int .i64 ((d : Int) + 1), .int .i64 0, .int .i64 0, .int .i64 0, .int .i64 (k : Int)]) (results_cell1 (b := w.heap.size + 1) (o := 0) (cs := [.int .i64 ((y : Nat) : Int), .int .i64 ((m : Nat) : Int), .int .i64 ((d : Int) + 1), .int .i64 0, .int .i64 0, .int .i64 0, .int .i64 (k : Int)]) Tryd.results10 _ rfl ?_ Tryd.underlying24 rfl sizeD) rfl ⟨rfl, ?_⟩
  · first | exact range_of (t := 24) (heap2 w _ _) | exact range_of (t := 24) (heap3 w _ _ _)
  · first | exact (((Below.refl _ _).alloc (Nat.le_refl _) _).alloc (by simp) _).alloc (by simp; omega) _ | exact ((Below.refl _ _).alloc (Nat.le_refl _) _).alloc (by simp) _

set_option maxRecDepth 100000 in
set_option maxHeartbeats 3200000 in
theorem next_5 (y m d h i s g : Nat) (w : World) (h1 : s = 59) (h2 : i = 59) (h3 : h = 23) (k : Nat) (hk : k = (g + 1) % 7) (g1 : g < 7) (hT : LTab w) (m0 : 1 ≤ m) (m1 : m ≤ 12) (d1 : d ≤ 31) (y1 : y ≤ 9999) (hl : decide (md y m ≤ d) = true) (m2 : m + 1 ≤ 12) : Calls Tryd.prog 10 #[dI y m d h i s g] w fun e w' => e = .returned (.agg #[.int .i64 ((y : Nat) : Int), .int .i64 ((m : Int) + 1), .int .i64 1, .int .i64 0, .int .i64 0, .int .i64 0, .int .i64 (k : Int)]) ∧ Below w.heap.size w w' := by
  subst h1 h2 h3
  have e7 : ((g : Int) + 1).tmod 7 = (k : Int) := by rw [hk, ← tmodN]; rfl
  have HL : Hid (∀ A Z, Calls Tryd.prog 25 #[.agg #[.int .i64 (y : Int), .int .i64 (m : Int), .int .i64 (d : Int), .int .i64 0, .int .i64 0, .int .i64 0, .int .i64 (k : Int)]] ((w.alloc A).alloc Z) fun e w' => e = .returned (.bool true) ∧ w' = ((w.alloc A).alloc Z).alloc (.cells #[.int .i64 (y : Int), .int .i64 (m : Int), .int .i64 (d : Int), .int .i64 0, .int .i64 0, .int .i64 0, .int .i64 (k : Int)] 24)) := fun A Z => by
    have := last_any y m d 0 0 0 (k : Int) ((w.alloc A).alloc Z) (hT.fr (((Below.refl _ _).alloc (Nat.le_refl _) _).alloc (by simp) _)) m0 m1
    rwa [hl] at this
  have hg : k < 7 := by omega
  have wd : wrap64 ((d : Int) + 1) = (d : Int) + 1 := wrp _ ⟨by omega, by omega⟩
  have wm : wrap64 ((m : Int) + 1) = (m : Int) + 1 := wrp _ ⟨by omega, by omega⟩
  have wy : wrap64 ((y : Int) + 1) = (y : Int) + 1 := wrp _ ⟨by omega, by omega⟩
  clear hT hl hk
  have hm : (m : Int) + 1 ≤ 12 := by omega
  unfold dI
  go_enter Tryd.func10, Tryd.ntmps10
  go_wp2_with fail
  refine (HL.out _ _).mono ?_
  rintro x w1 ⟨rfl, rfl⟩
  go_wp2_with fail
  refine bodyPost_ret (v := .agg #[.int .i64 ((y : Nat) : Int), .int .i64 ((m : Int) + 1), .int .i64 1, .int .i64 0, .int .i64 0, .int .i64 0, .int .i64 (k : Int)]) (results_cell1 (b := w.heap.size + 1) (o := 0) (cs := [.int .i64 ((y : Nat) : Int), .int .i64 ((m : Int) + 1), .int .i64 1, .int .i64 0, .int .i64 0, .int .i64 0, .int .i64 (k : Int)]) Tryd.results10 _ rfl ?_ Tryd.underlying24 rfl sizeD) rfl ⟨rfl, ?_⟩
  · first | exact range_of (t := 24) (heap2 w _ _) | exact range_of (t := 24) (heap3 w _ _ _)
  · first | exact (((Below.refl _ _).alloc (Nat.le_refl _) _).alloc (by simp) _).alloc (by simp; omega) _ | exact ((Below.refl _ _).alloc (Nat.le_refl _) _).alloc (by simp) _

set_option maxRecDepth 100000 in
set_option maxHeartbeats 3200000 in
theorem next_6 (y m d h i s g : Nat) (w : World) (h1 : s = 59) (h2 : i = 59) (h3 : h = 23) (k : Nat) (hk : k = (g + 1) % 7) (g1 : g < 7) (hT : LTab w) (m0 : 1 ≤ m) (m1 : m = 12) (d1 : d ≤ 31) (y1 : y ≤ 9999) (hl : decide (md y m ≤ d) = true) : Calls Tryd.prog 10 #[dI y m d h i s g] w fun e w' => e = .returned (.agg #[.int .i64 ((y : Int) + 1), .int .i64 1, .int .i64 1, .int .i64 0, .int .i64 0, .int .i64 0, .int .i64 (k : Int)]) ∧ Below w.heap.size w w' := by
  subst h1 h2 h3
  have e7 : ((g : Int) + 1).tmod 7 = (k : Int) := by rw [hk, ← tmodN]; rfl
  have HL : Hid (∀ A Z, Calls Tryd.prog 25 #[.agg #[.int .i64 (y : Int), .int .i64 (m : Int), .int .i64 (d : Int), .int .i64 0, .int .i64 0, .int .i64 0, .int .i64 (k : Int)]] ((w.alloc A).alloc Z) fun e w' => e = .returned (.bool true) ∧ w' = ((w.alloc A).alloc Z).alloc (.cells #[.int .i64 (y : Int), .int .i64 (m : Int), .int .i64 (d : Int), .int .i64 0, .int .i64 0, .int .i64 0, .int .i64 (k : Int)] 24)) := fun A Z => by
    have := last_any y m d 0 0 0 (k : Int) ((w.alloc A).alloc Z) (hT.fr (((Below.refl _ _).alloc (Nat.le_refl _) _).alloc (by simp) _)) m0 (Nat.le_of_eq m1)
    rwa [hl] at this
  have hg : k < 7 := by omega
  have wd : wrap64 ((d : Int) + 1) = (d : Int) + 1 := wrp _ ⟨by omega, by omega⟩
  have wm : wrap64 ((m : Int) + 1) = (m : Int) + 1 := wrp _ ⟨by omega, by omega⟩
  have wy : wrap64 ((y : Int) + 1) = (y : Int) + 1 := wrp _ ⟨by omega, by omega⟩
  clear hT hl hk
  have hm : (12 : Int) < (m : Int) + 1 := by omega
  clear m1
  unfold dI
  go_enter Tryd.func10, Tryd.ntmps10
  go_wp2_with fail
  refine (HL.out _ _).mono ?_
  rintro x w1 ⟨rfl, rfl⟩
  go_wp2_with fail
  refine bodyPost_ret (v := .agg #[.int .i64 ((y : Int) + 1), .int .i64 1, .int .i64 1, .int .i64 0, .int .i64 0, .int .i64 0, .int .i64 (k : Int)]) (results_cell1 (b := w.heap.size + 1) (o := 0) (cs := [.int .i64 ((y : Int) + 1), .int .i64 1, .int .i64 1, .int .i64 0, .int .i64 0, .int .i64 0, .int .i64 (k : Int)]) Tryd.results10 _ rfl ?_ Tryd.underlying24 rfl sizeD) rfl ⟨rfl, ?_⟩
  · first | exact range_of (t := 24) (heap2 w _ _) | exact range_of (t := 24) (heap3 w _ _ _)
  · first | exact (((Below.refl _ _).alloc (Nat.le_refl _) _).alloc (by simp) _).alloc (by simp; omega) _ | exact ((Below.refl _ _).alloc (Nat.le_refl _) _).alloc (by simp) _
end Go.Proofs.YtbibfneofcphkaaDoor.jc
