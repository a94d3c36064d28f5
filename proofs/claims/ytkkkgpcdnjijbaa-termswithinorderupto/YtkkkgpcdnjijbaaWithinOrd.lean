import Derived.Test.YtkkkgpcdnjijbaaStrWithin
namespace Go.Proofs.Ytkkkgpcdnjijbaa.ss
open Go.ChangeShapes Go.WideShapes Go.ChangeAt Go.RowKit Go.Proofs.Ytkkkgpcdnjijbaa.common Go.Proofs.Ytkkkgpcdnjijbaa.bk
attribute [local go_sem ↓] Go.wp_at_zero Go.wp_at_succ

theorem cellsThree : Try.prog.cellsOf 24 = 4 := by kernel_rfl
/-- a struct of four cells, laid in memory -/
structure Four (w0 w : World) (b : Nat) (x y z u : Value) : Prop where
  c0 : w.cell? ⟨b, 0, none⟩ = some x
  c1 : w.cell? ⟨b, 1, none⟩ = some y
  c2 : w.cell? ⟨b, 2, none⟩ = some z
  c3 : w.cell? ⟨b, 3, none⟩ = some u
  bl : Below w0.heap.size w0 w
  lt : b < w.heap.size
theorem four_new (w : World) (x y z u : Value) (t : TypeId) : Four w (w.alloc (.cells #[x, y, z, u] t)) w.heap.size x y z u :=
  ⟨range_new w #[x, y, z, u] t 0 x rfl, range_new w #[x, y, z, u] t 1 y rfl, range_new w #[x, y, z, u] t 2 z rfl, range_new w #[x, y, z, u] t 3 u rfl, (Below.refl _ _).alloc (Nat.le_refl _) _, by simp⟩
theorem Four.next {w0 w w' : World} {b : Nat} {x y z u : Value} (h : Four w0 w b x y z u) (hb : Below w.heap.size w w') : Four w0 w' b x y z u :=
  ⟨(hb.cell h.lt).trans h.c0, (hb.cell h.lt).trans h.c1, (hb.cell h.lt).trans h.c2, (hb.cell h.lt).trans h.c3, h.bl.trans (hb.mono h.bl.size), Nat.lt_of_lt_of_le h.lt hb.size⟩

theorem below_drewN (w : World) (n : Nat) : Below w.heap.size w (w.drewN n) := ⟨rfl, rfl, rfl, Nat.le_refl _, fun _ _ => rfl⟩
theorem win_self (a : List ByteArray) : win a a = true := win_iff.2 fun _ h => h
theorem win_left (a b : List ByteArray) : win a (a ++ b) = true := win_iff.2 fun _ h => List.mem_append_left _ h
theorem win_right (a b : List ByteArray) : win b (a ++ b) = true := win_iff.2 fun _ h => List.mem_append_right _ h
theorem win_nil (b : List ByteArray) : win [] b = true := rfl
theorem win_trans {a b c : List ByteArray} (h1 : win a b = true) (h2 : win b c = true) : win a c = true :=
  win_iff.2 fun x h => win_iff.1 h2 x (win_iff.1 h1 x h)
theorem win_snoc (a : List ByteArray) (z : ByteArray) (b : List ByteArray) : win (a ++ [z]) b = (win a b && has z b) := by
  unfold win; rw [List.all_append]; simp

set_option maxRecDepth 100000 in
set_option maxHeartbeats 6400000 in
theorem lawWithinOrder (va vb vc : Value) (la lb lc : List ByteArray) (z : ByteArray) (w : World) (ha : Lies w va la) (hb : Lies w vb lb) (hc : Lies w vc lc) (hs : la.length + lb.length + lc.length + 2 ≤ 1048600) :
    Calls Try.prog 3 #[.agg #[va, vb, vc, .string z]] w fun e w' => e = .returned (.bool true) ∧ Below w.heap.size w w' := by
  have H0 := hide (four_new w va vb vc (.string z) 24)
  have HA := hide (ha.below H0.out.bl)
  have HB := hide (hb.below H0.out.bl)
  have HC := hide (hc.below H0.out.bl)
  clear ha hb hc
  go_enter Try.func3, Try.ntmps3
  obtain ⟨W, hW⟩ : ∃ W, W = w.alloc (.cells #[va, vb, vc, .string z] 24) := ⟨_, rfl⟩
  rw [← hW] at H0 HA HB HC
  have y0 := H0.out.c0
  rw [hW] at y0
  have HW := hide hW
  clear hW
  go_wp2_with (at_builtin; refine append_strs _ rfl _ _ rfl W.heap.size (.slice none 0 0) [] rfl (World.ownsRow_nil _ _ _ _) va la rfl (by rw [← HW.out]; exact HA.out) (by unfold maxLen; simp; omega) (by simp; omega) (by rw [← HW.out]; exact Nat.le_refl _) ?_)
  intro v1 w1 ho1 hg1
  have hb1 : Below W.heap.size W w1 := by rw [← HW.out] at hg1; exact (Below.refl _ _).grown hg1 (Nat.le_refl _) (fun b h => by cases h)
  have H1 := hide (H0.out.next hb1)
  have HO1 : Hid (w1.ownsRow W.heap.size 9 1 v1 la.length (sc la)) := ho1
  have HB1 := hide hb1
  clear ho1 hb1 hg1 y0
  have y1 := H1.out.c1
  go_wp2_with (at_builtin; go_loud (refine append_strs _ rfl _ _ rfl W.heap.size v1 la rfl HO1.out vb lb rfl (HB.out.below HB1.out) (by unfold maxLen; omega) (by omega) HB1.out.size ?_))
  intro v2 w2 ho2 hg2
  have hb2 : Below W.heap.size W w2 := HB1.out.grown hg2 HB1.out.size (own_ge HO1.out)
  have H2 := hide (H0.out.next hb2)
  have HB2 := hide hb2
  have LAB : Hid (Lies w2 v2 (la ++ lb)) := lies_of_own (l := la ++ lb) (base := W.heap.size) (e := 9) (by rw [List.length_append]; show w2.ownsRow _ _ _ _ _ (List.map Value.string (la ++ lb)); rw [List.map_append]; exact ho2)
  clear ho2 hb2 hg2 HO1 HB1 H1 y1
  have LA := hide (HA.out.below HB2.out)
  have LB := hide (HB.out.below HB2.out)
  have LC := hide (HC.out.below HB2.out)
  have l1 : la.length ≤ 4611686018427387904 := by omega
  have l2 : lb.length ≤ 4611686018427387904 := by omega
  have l3 : lc.length ≤ 4611686018427387904 := by omega
  have l4 : (la ++ lb).length ≤ 4611686018427387904 := by rw [List.length_append]; omega
  have P1 := hide (within_any _ _ la la w2 LA.out LA.out l1 l1)
  have P2 := hide (within_any _ _ la (la ++ lb) w2 LA.out LAB.out l1 l4)
  have P3 := hide (within_any _ _ lb (la ++ lb) w2 LB.out LAB.out l2 l4)
  have P4 := hide (within_any _ _ [] la w2 (lies_nil w2) LA.out (by simp) l1)
  have P5 := hide (within_any _ _ la lb w2 LA.out LB.out l1 l2)
  have P6 := hide (within_any _ _ lb lc w2 LB.out LC.out l2 l3)
  have P7 := hide (within_any _ _ la lc w2 LA.out LC.out l1 l3)
  rw [win_self] at P1
  rw [win_left] at P2
  rw [win_right] at P3
  rw [win_nil] at P4
  have y0 := H2.out.c0
  have y1 := H2.out.c1
  have y2 := H2.out.c2
  have y3 := H2.out.c3
  have F : Hid (win la lb = true → win lb lc = true → win la lc = true) := fun h1 h2 => win_trans h1 h2
  have HE := hide (win_snoc la z lb)
  have PZ : Hid (∀ v W', Lies W' v (la ++ [z]) → Lies W' vb lb → Calls Try.prog 9 #[v, vb] W' fun e w' => e = .returned (.bool (win (la ++ [z]) lb)) ∧ w' = W') := fun v W' h1 h2 => within_any v vb (la ++ [z]) lb W' h1 h2 (by rw [List.length_append]; simp; omega) l2
  have PA : Hid (∀ W', Lies W' va la → Lies W' vb lb → Calls Try.prog 9 #[va, vb] W' fun e w' => e = .returned (.bool (win la lb)) ∧ w' = W') := fun W' h1 h2 => within_any va vb la lb W' h1 h2 l1 l2
  have PS : Hid (∀ W', Lies W' vb lb → Calls Try.prog 10 #[.string z, vb] W' fun e w' => e = .returned (.bool (has z lb)) ∧ w' = W') := fun W' h => stands_any vb lb z W' h l2
  generalize win (la ++ [z]) lb = pz at *
  generalize has z lb = ps at *
  generalize win la lb = p at *
  generalize win lb lc = q at *
  generalize win la lc = r at *
  have key : ∀ K : Prop, (p = true → q = true → r = true → K) → (p = true → q = false → K) → (p = false → K) → K := by
    intro K h1 h2 h3
    cases p with
    | false => exact h3 rfl
    | true => cases q with
      | false => exact h2 rfl rfl
      | true => exact h1 rfl rfl (F.out rfl rfl)
  clear F
  obtain ⟨i0, hi, hz0, hz1, hz2⟩ := info_parts infoS
  have HR2 : Hid (Below W.heap.size W w2) := HB2
  go_wp2_with (go_at_call 9; first
        | (with_reducible refine P1.out.mono ?_; rintro x w9 ⟨rfl, rfl⟩)
        | (with_reducible refine P2.out.mono ?_; rintro x w9 ⟨rfl, rfl⟩)
        | (with_reducible refine P3.out.mono ?_; rintro x w9 ⟨rfl, rfl⟩)
        | (with_reducible refine P4.out.mono ?_; rintro x w9 ⟨rfl, rfl⟩))
  refine key _ ?_ ?_ ?_
  · rintro rfl rfl rfl
    have HB3 := HR2
    go_wp2_with (first
      | (go_at_call 9; first
        | (with_reducible refine P5.out.mono ?_; rintro x w9 ⟨rfl, rfl⟩)
        | (with_reducible refine P6.out.mono ?_; rintro x w9 ⟨rfl, rfl⟩)
        | (with_reducible refine P7.out.mono ?_; rintro x w9 ⟨rfl, rfl⟩))
      | (at_builtin; refine append_strs _ rfl _ _ rfl W.heap.size (.slice none 0 0) [] rfl (World.ownsRow_nil _ _ _ _) va la rfl LA.out (by unfold maxLen; simp; omega) (by simp; omega) HB2.out.size ?_))
    intro v4 w4 ho4 hg4
    have HO4 : Hid (w4.ownsRow W.heap.size 9 1 v4 la.length (sc la)) := ho4
    have HB4 : Hid (Below W.heap.size W w4) := HB2.out.grown hg4 HB2.out.size (fun b h => by cases h)
    clear ho4 hg4 y0 y1 y2 y3
    have x0 := (H0.out.next HB4.out).c0
    have x3 := (H0.out.next HB4.out).c3
    have hs4 := HB4.out.size
    have hown := HO4.out
    go_wp2_with (at_builtin; refine wpList_append_own _ rfl _ _ 22 rfl W.heap.size 9 i0 (.string ⟨#[]⟩) 1 16 Try.underlying22 hi hz0 hz1 hz2 rfl (by decide) _ _ _ rfl (hown.alloc _) ⟨w4.heap.size, 0, none⟩ 1 1 [.string z] rfl rfl (bk.cell_one_new _ _ _) ?c2 ?c3 ?c4 ?c5 ?_)
    case c2 => first | rfl | (intro u hu; simp at hu; rcases hu with rfl; rfl)
    case c3 => unfold maxLen; omega
    case c4 => omega
    case c5 => first | omega | (simp; omega)
    intro v5 w5 hown' hgrow _
    have HB5 : Hid (Below W.heap.size W w5) := (HB4.out.alloc hs4 _).grown hgrow (by simp; omega) (bk.own_ge hown)
    have HO5 : Hid (Lies w5 v5 (la ++ [z])) := lies_of_own (l := la ++ [z]) (base := W.heap.size) (e := 9) (by rw [List.length_append]; simpa [sc] using hown')
    clear hown' hgrow hown hs4 HO4 x0 x3
    have x0 := (H0.out.next HB5.out).c0
    have x1 := (H0.out.next HB5.out).c1
    have x3 := (H0.out.next HB5.out).c3
    have LZ : ∀ n, Lies (w5.drewN n) v5 (la ++ [z]) := fun n => HO5.out.below (below_drewN _ n)
    have LA5 : ∀ n, Lies (w5.drewN n) va la := fun n => (HA.out.below HB5.out).below (below_drewN _ n)
    have LB5 : ∀ n, Lies (w5.drewN n) vb lb := fun n => (HB.out.below HB5.out).below (below_drewN _ n)
    have Q1 := hide (fun n => PZ.out v5 (w5.drewN n) (LZ n) (LB5 n))
    have Q2 := hide (fun n => PA.out (w5.drewN n) (LA5 n) (LB5 n))
    have Q3 := hide (fun n => PS.out (w5.drewN n) (LB5 n))
    clear LZ LA5 LB5
    go_wp2_with fail
    go_quiet (first
      | (go_at_call 9; first
        | with_reducible refine Calls.quiet_of_same (Q1.out _)
        | with_reducible refine Calls.quiet_of_same (Q2.out _))
      | (go_at_call 10; refine Calls.quiet_of_same (Q3.out _)))
    go_wp2_with fail
    go_ret
    refine ⟨?_, ?_⟩
    · rw [HE.out]; simp
    · exact keepD (H0.out.bl.trans (HB5.out.mono H0.out.bl.size)) (below_drewN _ _)
  · rintro rfl rfl
    have HB3 := HR2
    go_wp2_with (first
      | (go_at_call 9; first
        | (with_reducible refine P5.out.mono ?_; rintro x w9 ⟨rfl, rfl⟩)
        | (with_reducible refine P6.out.mono ?_; rintro x w9 ⟨rfl, rfl⟩)
        | (with_reducible refine P7.out.mono ?_; rintro x w9 ⟨rfl, rfl⟩))
      | (at_builtin; refine append_strs _ rfl _ _ rfl W.heap.size (.slice none 0 0) [] rfl (World.ownsRow_nil _ _ _ _) va la rfl LA.out (by unfold maxLen; simp; omega) (by simp; omega) HB2.out.size ?_))
    intro v4 w4 ho4 hg4
    have HO4 : Hid (w4.ownsRow W.heap.size 9 1 v4 la.length (sc la)) := ho4
    have HB4 : Hid (Below W.heap.size W w4) := HB2.out.grown hg4 HB2.out.size (fun b h => by cases h)
    clear ho4 hg4 y0 y1 y2 y3
    have x0 := (H0.out.next HB4.out).c0
    have x3 := (H0.out.next HB4.out).c3
    have hs4 := HB4.out.size
    have hown := HO4.out
    go_wp2_with (at_builtin; refine wpList_append_own _ rfl _ _ 22 rfl W.heap.size 9 i0 (.string ⟨#[]⟩) 1 16 Try.underlying22 hi hz0 hz1 hz2 rfl (by decide) _ _ _ rfl (hown.alloc _) ⟨w4.heap.size, 0, none⟩ 1 1 [.string z] rfl rfl (bk.cell_one_new _ _ _) ?c2 ?c3 ?c4 ?c5 ?_)
    case c2 => first | rfl | (intro u hu; simp at hu; rcases hu with rfl; rfl)
    case c3 => unfold maxLen; omega
    case c4 => omega
    case c5 => first | omega | (simp; omega)
    intro v5 w5 hown' hgrow _
    have HB5 : Hid (Below W.heap.size W w5) := (HB4.out.alloc hs4 _).grown hgrow (by simp; omega) (bk.own_ge hown)
    have HO5 : Hid (Lies w5 v5 (la ++ [z])) := lies_of_own (l := la ++ [z]) (base := W.heap.size) (e := 9) (by rw [List.length_append]; simpa [sc] using hown')
    clear hown' hgrow hown hs4 HO4 x0 x3
    have x0 := (H0.out.next HB5.out).c0
    have x1 := (H0.out.next HB5.out).c1
    have x3 := (H0.out.next HB5.out).c3
    have LZ : ∀ n, Lies (w5.drewN n) v5 (la ++ [z]) := fun n => HO5.out.below (below_drewN _ n)
    have LA5 : ∀ n, Lies (w5.drewN n) va la := fun n => (HA.out.below HB5.out).below (below_drewN _ n)
    have LB5 : ∀ n, Lies (w5.drewN n) vb lb := fun n => (HB.out.below HB5.out).below (below_drewN _ n)
    have Q1 := hide (fun n => PZ.out v5 (w5.drewN n) (LZ n) (LB5 n))
    have Q2 := hide (fun n => PA.out (w5.drewN n) (LA5 n) (LB5 n))
    have Q3 := hide (fun n => PS.out (w5.drewN n) (LB5 n))
    clear LZ LA5 LB5
    go_wp2_with fail
    go_quiet (first
      | (go_at_call 9; first
        | with_reducible refine Calls.quiet_of_same (Q1.out _)
        | with_reducible refine Calls.quiet_of_same (Q2.out _))
      | (go_at_call 10; refine Calls.quiet_of_same (Q3.out _)))
    go_wp2_with fail
    go_ret
    refine ⟨?_, ?_⟩
    · rw [HE.out]; simp
    · exact keepD (H0.out.bl.trans (HB5.out.mono H0.out.bl.size)) (below_drewN _ _)
  · rintro rfl
    have HB3 := HR2
    go_wp2_with (first
      | (go_at_call 9; first
        | (with_reducible refine P5.out.mono ?_; rintro x w9 ⟨rfl, rfl⟩)
        | (with_reducible refine P6.out.mono ?_; rintro x w9 ⟨rfl, rfl⟩)
        | (with_reducible refine P7.out.mono ?_; rintro x w9 ⟨rfl, rfl⟩))
      | (at_builtin; refine append_strs _ rfl _ _ rfl W.heap.size (.slice none 0 0) [] rfl (World.ownsRow_nil _ _ _ _) va la rfl LA.out (by unfold maxLen; simp; omega) (by simp; omega) HB2.out.size ?_))
    intro v4 w4 ho4 hg4
    have HO4 : Hid (w4.ownsRow W.heap.size 9 1 v4 la.length (sc la)) := ho4
    have HB4 : Hid (Below W.heap.size W w4) := HB2.out.grown hg4 HB2.out.size (fun b h => by cases h)
    clear ho4 hg4 y0 y1 y2 y3
    have x0 := (H0.out.next HB4.out).c0
    have x3 := (H0.out.next HB4.out).c3
    have hs4 := HB4.out.size
    have hown := HO4.out
    go_wp2_with (at_builtin; refine wpList_append_own _ rfl _ _ 22 rfl W.heap.size 9 i0 (.string ⟨#[]⟩) 1 16 Try.underlying22 hi hz0 hz1 hz2 rfl (by decide) _ _ _ rfl (hown.alloc _) ⟨w4.heap.size, 0, none⟩ 1 1 [.string z] rfl rfl (bk.cell_one_new _ _ _) ?c2 ?c3 ?c4 ?c5 ?_)
    case c2 => first | rfl | (intro u hu; simp at hu; rcases hu with rfl; rfl)
    case c3 => unfold maxLen; omega
    case c4 => omega
    case c5 => first | omega | (simp; omega)
    intro v5 w5 hown' hgrow _
    have HB5 : Hid (Below W.heap.size W w5) := (HB4.out.alloc hs4 _).grown hgrow (by simp; omega) (bk.own_ge hown)
    have HO5 : Hid (Lies w5 v5 (la ++ [z])) := lies_of_own (l := la ++ [z]) (base := W.heap.size) (e := 9) (by rw [List.length_append]; simpa [sc] using hown')
    clear hown' hgrow hown hs4 HO4 x0 x3
    have x0 := (H0.out.next HB5.out).c0
    have x1 := (H0.out.next HB5.out).c1
    have x3 := (H0.out.next HB5.out).c3
    have LZ : ∀ n, Lies (w5.drewN n) v5 (la ++ [z]) := fun n => HO5.out.below (below_drewN _ n)
    have LA5 : ∀ n, Lies (w5.drewN n) va la := fun n => (HA.out.below HB5.out).below (below_drewN _ n)
    have LB5 : ∀ n, Lies (w5.drewN n) vb lb := fun n => (HB.out.below HB5.out).below (below_drewN _ n)
    have Q1 := hide (fun n => PZ.out v5 (w5.drewN n) (LZ n) (LB5 n))
    have Q2 := hide (fun n => PA.out (w5.drewN n) (LA5 n) (LB5 n))
    have Q3 := hide (fun n => PS.out (w5.drewN n) (LB5 n))
    clear LZ LA5 LB5
    go_wp2_with fail
    go_quiet (first
      | (go_at_call 9; first
        | with_reducible refine Calls.quiet_of_same (Q1.out _)
        | with_reducible refine Calls.quiet_of_same (Q2.out _))
      | (go_at_call 10; refine Calls.quiet_of_same (Q3.out _)))
    go_wp2_with fail
    go_ret
    refine ⟨?_, ?_⟩
    · rw [HE.out]; simp
    · exact keepD (H0.out.bl.trans (HB5.out.mono H0.out.bl.size)) (below_drewN _ _)

end Go.Proofs.Ytkkkgpcdnjijbaa.ss
