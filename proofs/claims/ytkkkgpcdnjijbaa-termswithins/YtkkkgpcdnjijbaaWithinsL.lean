import Derived.Test.YtkkkgpcdnjijbaaStrTurn2
import Derived.Test.YtkkkgpcdnjijbaaStrRefW
import Derived.Test.YtkkkgpcdnjijbaaStrWalks
namespace Go.Proofs.Ytkkkgpcdnjijbaa.ss
open Go.ChangeShapes Go.WideShapes Go.ChangeAt Go.RowKit Go.Proofs.Ytkkkgpcdnjijbaa.common Go.Proofs.Ytkkkgpcdnjijbaa.bk
attribute [local go_sem ↓] Go.wp_at_zero Go.wp_at_succ

theorem cellsLists : Try.prog.cellsOf 30 = 2 := by kernel_rfl
/-- a struct of two cells, laid in memory -/
structure Two (w0 w : World) (b : Nat) (x y : Value) : Prop where
  c0 : w.cell? ⟨b, 0, none⟩ = some x
  c1 : w.cell? ⟨b, 1, none⟩ = some y
  bl : Below w0.heap.size w0 w
  lt : b < w.heap.size
theorem two_new (w : World) (x y : Value) (t : TypeId) : Two w (w.alloc (.cells #[x, y] t)) w.heap.size x y :=
  ⟨range_new w #[x, y] t 0 x rfl, range_new w #[x, y] t 1 y rfl, (Below.refl _ _).alloc (Nat.le_refl _) _, by simp⟩
theorem Two.next {w0 w w' : World} {b : Nat} {x y : Value} (h : Two w0 w b x y) (hb : Below w.heap.size w w') : Two w0 w' b x y :=
  ⟨(hb.cell h.lt).trans h.c0, (hb.cell h.lt).trans h.c1, h.bl.trans (hb.mono h.bl.size), Nat.lt_of_lt_of_le h.lt hb.size⟩
theorem below_drewN (w : World) (n : Nat) : Below w.heap.size w (w.drewN n) := ⟨rfl, rfl, rfl, Nat.le_refl _, fun _ _ => rfl⟩
theorem Row.only {w w' : World} {g h : Nat} {l : List ByteArray} (hr : Row w h l) (ho : Only g w w') (hne : h ≠ g) : Row w' h l := by
  refine ⟨fun j hj => ?_, fun j u hu => ?_⟩
  · have := hr.1 j hj
    unfold World.frozen? at this ⊢
    rw [ho.cell (p := ⟨h, 0 + j, none⟩) hne, ho.block h hne]
    exact this
  · rw [ho.cell (p := ⟨h, 0 + j, none⟩) hne]
    exact hr.2 j u hu
theorem Only.undrew {w w' : World} {g : Nat} (h : Only g w.drew w') : Only g w w' := ⟨(Below.refl _ _).drew.trans h.below, h.size, h.block⟩
theorem Row.drewN {w : World} {g : Nat} {l : List ByteArray} (h : Row w g l) (n : Nat) : Row (w.drewN n) g l := h

set_option maxRecDepth 100000 in
set_option maxHeartbeats 12800000 in
theorem lawWithins (va vb : Value) (la lb : List ByteArray) (w : World) (ha : Lies w va la) (hb : Lies w vb lb) (hsa : (la.length + 2) * 16 ≤ 140737488355328) (hsb : (lb.length + 2) * 16 ≤ 140737488355328) (hpa : ∀ p ∈ la, p.size ≤ 140737488355328) (hpb : ∀ p ∈ lb, p.size ≤ 140737488355328) :
    Calls Try.prog 5 #[.agg #[va, vb]] w fun e w' => e = .returned (.bool true) ∧ Below w.heap.size w w' := by
  have H0 := hide (two_new w va vb 30)
  have HA := hide (ha.below H0.out.bl)
  have HB := hide (hb.below H0.out.bl)
  obtain ⟨oa, ca, rfl, _⟩ := ha
  obtain ⟨ob, cb, rfl, _⟩ := hb
  have HPA := hide hpa
  have HPB := hide hpb
  clear hpa hpb
  go_enter Try.func5, Try.ntmps5
  go_wp2_with fail
  generalize w.alloc (.cells #[.slice oa la.length ca, .slice ob lb.length cb] 30) = W at *
  refine (spare_any _ la W HA.out hsa).mono ?_
  rintro x w1 ⟨g, ga, rfl, hg0, hg, hga, hrow, hb1⟩
  have R1 := hide hrow
  have G1 := hide hg
  have B1 := hide hb1
  clear hrow hb1 hg
  have y1 := (H0.out.next B1.out).c1
  go_wp2_with fail
  refine (spare_any _ lb w1 (HB.out.below B1.out) hsb).mono ?_
  rintro x w2 ⟨h, gb, rfl, hh0, hh, hgb, hrow, hb2⟩
  have RA2 := hide (R1.out.below hb2 G1.out)
  have GA2 : Hid (g < w2.heap.size) := Nat.lt_of_lt_of_le G1.out hb2.size
  have RB2 := hide hrow
  have GB2 := hide hh
  have B2 := hide (keepD B1.out hb2)
  have HGH : Hid (g < h) := Nat.lt_of_lt_of_le G1.out hh0
  have HH0 : Hid (W.heap.size ≤ h) := Nat.le_trans B1.out.size hh0
  clear hrow hb2 hh R1 G1 B1 hh0 y1
  have k0 : (0 : Int) ≤ (la.length : Int) := Int.natCast_nonneg _
  have k1 : (0 : Int) ≤ (lb.length : Int) := Int.natCast_nonneg _
  have k4 : (la.length : Int) ≤ (ga : Int) := by omega
  have k5 : la.length ≤ ga := by omega
  have k6 : (lb.length : Int) ≤ (gb : Int) := by omega
  have k7 : lb.length ≤ gb := by omega
  have y0 := (H0.out.next B2.out).c0
  have y1 := (H0.out.next B2.out).c1
  have PQ : Hid (∀ n, Calls Try.prog 9 #[.slice (some ⟨g, 0, none⟩) la.length ga, .slice (some ⟨h, 0, none⟩) lb.length gb] (w2.drewN n) fun e w' => e = .returned (.bool (win la lb)) ∧ w' = w2.drewN n) := fun n =>
    within_any _ _ la lb _ ((RA2.out.head GA2.out ga).below (below_drewN _ n)) ((RB2.out.head GB2.out gb).below (below_drewN _ n)) (by omega) (by omega)
  have HCA : Hid (∀ X, Below W.heap.size W X → Calls Try.prog 17 #[.slice oa la.length ca] X fun e w' => ∃ v', e = .returned v' ∧ Mine w' X.heap.size v' la ∧ Below X.heap.size X w') := fun X hX => copied_any _ la X (HA.out.below hX) (by omega)
  have HCB : Hid (∀ X, Below W.heap.size W X → Calls Try.prog 17 #[.slice ob lb.length cb] X fun e w' => ∃ v', e = .returned v' ∧ Mine w' X.heap.size v' lb ∧ Below X.heap.size X w') := fun X hX => copied_any _ lb X (HB.out.below hX) (by omega)
  have PR : Hid (∀ X u v, Lies X u la → Lies X v lb → Calls Try.prog 16 #[u, v] X fun e w' => e = .returned (.bool (win la lb)) ∧ w' = X) := fun X u v h1 h2 => refWin_any u v la lb X h1 h2 (by omega) (by omega)
  have PT : Hid (∀ X u v, Lies X u (turnL la) → Lies X v lb → Calls Try.prog 9 #[u, v] X fun e w' => e = .returned (.bool (win (turnL la) lb)) ∧ w' = X) := fun X u v h1 h2 => within_any u v (turnL la) lb X h1 h2 (by rw [turnL_len]; omega) (by omega)
  have PU : Hid (∀ X u v, Lies X u (turnL la) → Lies X v (turnL lb) → Calls Try.prog 9 #[u, v] X fun e w' => e = .returned (.bool (win (turnL la) (turnL lb))) ∧ w' = X) := fun X u v h1 h2 => within_any u v (turnL la) (turnL lb) X h1 h2 (by rw [turnL_len]; omega) (by rw [turnL_len]; omega)
  have RT : Hid (∀ X u v, Lies X u (turnL la) → Lies X v lb → Calls Try.prog 16 #[u, v] X fun e w' => e = .returned (.bool (win (turnL la) lb)) ∧ w' = X) := fun X u v h1 h2 => refWin_any u v (turnL la) lb X h1 h2 (by rw [turnL_len]; omega) (by omega)
  have RU : Hid (∀ X u v, Lies X u (turnL la) → Lies X v (turnL lb) → Calls Try.prog 16 #[u, v] X fun e w' => e = .returned (.bool (win (turnL la) (turnL lb))) ∧ w' = X) := fun X u v h1 h2 => refWin_any u v (turnL la) (turnL lb) X h1 h2 (by rw [turnL_len]; omega) (by rw [turnL_len]; omega)
  have HTA := hide (turnL_len la)
  have HTB := hide (turnL_len lb)
  generalize win (turnL la) (turnL lb) = p3 at *
  generalize win (turnL la) lb = p2 at *
  generalize win la lb = p at *
  go_wp2_with fail
  go_quiet (first | (go_at_call 9; refine Calls.quiet_of_same (PQ.out _)))
  rename_i nq
  have RA3 := hide (RA2.out.drewN nq)
  have RB3 := hide (RB2.out.drewN nq)
  have B3 := hide (keepD B2.out (below_drewN w2 nq))
  have GA3 : Hid (g < (w2.drewN nq).heap.size) := GA2.out
  have GB3 : Hid (h < (w2.drewN nq).heap.size) := GB2.out
  clear RA2 RB2 B2 GA2 GB2 y0 y1 PQ
  generalize w2.drewN nq = w3 at *
  have x0 : ∀ X, Below w3.heap.size w3 X → X.cell? ⟨w.heap.size, 0, none⟩ = some (.slice oa la.length ca) := fun X hX => (H0.out.next (keepD B3.out hX)).c0
  have x1 : ∀ X, Below w3.heap.size w3 X → X.cell? ⟨w.heap.size, 1, none⟩ = some (.slice ob lb.length cb) := fun X hX => (H0.out.next (keepD B3.out hX)).c1
  have KA : Hid (∀ X, Below w3.heap.size w3 X → Calls Try.prog 18 #[.slice (some ⟨g, 0, none⟩) (la.length + 2) ga, .slice oa la.length ca] X fun e w' => e = .returned (.bool true) ∧ Below X.heap.size X w') := fun X hX =>
    kept_any g ga _ la X (RA3.out.below hX GA3.out) (Nat.lt_of_lt_of_le GA3.out hX.size) (HA.out.below (keepD B3.out hX)) hga (by omega)
  have KB : Hid (∀ X, Below w3.heap.size w3 X → Calls Try.prog 18 #[.slice (some ⟨h, 0, none⟩) (lb.length + 2) gb, .slice ob lb.length cb] X fun e w' => e = .returned (.bool true) ∧ Below X.heap.size X w') := fun X hX =>
    kept_any h gb _ lb X (RB3.out.below hX GB3.out) (Nat.lt_of_lt_of_le GB3.out hX.size) (HB.out.below (keepD B3.out hX)) hgb (by omega)
  have CA := hide (fun X (hX : Below w3.heap.size w3 X) => HCA.out X (keepD B3.out hX))
  have CB := hide (fun X (hX : Below w3.heap.size w3 X) => HCB.out X (keepD B3.out hX))
  have hb3 := Below.refl w3.heap.size w3
  go_wp2_with fail
  go_region_held3 (fun X => Below w3.heap.size w3 X)
    (first
      | exact Below.refl _ _
      | assumption
      | exact keepD (by assumption) (by assumption)
      | exact Below.drew (by assumption)
      | exact (Below.refl _ _).drew)
    (first
      | (go_at_call 17; first
        | (with_reducible refine (CA.out _ (by assumption)).mono ?_; rintro x wA ⟨vA, rfl, mA, bA⟩)
        | (with_reducible refine (CB.out _ (by assumption)).mono ?_; rintro x wB ⟨vB, rfl, mB, bB⟩))
      | (go_at_call 16; refine (PR.out _ _ _ (by first | exact lies_of_own mA | exact (lies_of_own mA).below bB) (by first | exact lies_of_own mB | exact (lies_of_own mB).below bA)).mono ?_; rintro x w4 ⟨rfl, rfl⟩)
      | (go_at_call 18; first
        | (with_reducible refine (KA.out _ (by assumption)).mono ?_; rintro x w5 ⟨rfl, hb5⟩)
        | (with_reducible refine (KB.out _ (by assumption)).mono ?_; rintro x w6 ⟨rfl, hb6⟩)))
  have B6 : Hid (Below w3.heap.size w3 w6) := by assumption
  have RA6 := hide (RA3.out.below B6.out GA3.out)
  have RB6 := hide (RB3.out.below B6.out GB3.out)
  have GA6 : Hid (g < w6.heap.size) := Nat.lt_of_lt_of_le GA3.out B6.out.size
  have GB6 : Hid (h < w6.heap.size) := Nat.lt_of_lt_of_le GB3.out B6.out.size
  have BW6 := hide (keepD B3.out B6.out)
  clear hb3 hb5 hb6 mA mB bA bB KA KB CA CB x0 x1 RA3 RB3 GA3 GB3 B3 B6
  have x0 : ∀ X, Below W.heap.size W X → X.cell? ⟨w.heap.size, 0, none⟩ = some (.slice oa la.length ca) := fun X hX => (H0.out.next hX).c0
  have x1 : ∀ X, Below W.heap.size W X → X.cell? ⟨w.heap.size, 1, none⟩ = some (.slice ob lb.length cb) := fun X hX => (H0.out.next hX).c1
  have hb6 := BW6.out
  go_wp2_with fail
  go_region_held3 (fun X => Below W.heap.size W X)
    (first
      | exact Below.refl _ _
      | assumption
      | exact keepD (by assumption) (by assumption)
      | exact keepT hg0 (by assumption) (Only.below (by assumption))
      | exact Below.drew (by assumption)
      | exact (Below.refl _ _).drew)
    (first
      | (go_at_call 19; refine (turn_only g la.length ga la [bh, bh] _ rfl (by first | exact RA6.out | exact RA6.out.drew) (by omega) HPA.out).mono ?_; rintro x w7 ⟨rfl, r7, o7⟩)
      | (go_at_call 9; refine (PT.out _ _ _ (by have := r7.head (show g < w7.heap.size from o7.size ▸ GA6.out) ga; rw [HTA.out] at this; exact this) (((RB6.out.only (by first | exact o7 | exact Only.undrew o7) (Nat.ne_of_gt HGH.out)).head (show h < w7.heap.size from o7.size ▸ GB6.out) gb))).mono ?_; rintro x w8 ⟨rfl, rfl⟩))
  have B8 : Hid (Below W.heap.size W w8) := by assumption
  have RA8 := hide r7
  have RB8 := hide (RB6.out.only (by first | exact o7 | exact Only.undrew o7) (Nat.ne_of_gt HGH.out))
  have GA8 : Hid (g < w8.heap.size) := o7.size ▸ GA6.out
  have GB8 : Hid (h < w8.heap.size) := o7.size ▸ GB6.out
  clear hb6 r7 o7 RA6 RB6 GA6 GB6 BW6
  have hb8 := B8.out
  go_wp2_with fail
  go_region_held3 (fun X => Below W.heap.size W X)
    (first
      | exact Below.refl _ _
      | assumption
      | exact keepD (by assumption) (by assumption)
      | exact keepT hg0 (by assumption) (Only.below (by assumption))
      | exact keepT HH0.out (by assumption) (Only.below (by assumption))
      | exact Below.drew (by assumption)
      | exact (Below.refl _ _).drew)
    (first
      | (go_at_call 19; refine (turn_only h lb.length gb lb [bh, bh] _ rfl (by first | exact RB8.out | exact RB8.out.drew) (by omega) HPB.out).mono ?_; rintro x w9 ⟨rfl, r9, o9⟩)
      | (go_at_call 9; refine (PU.out _ _ _ (by have := (RA8.out.only (by first | exact o9 | exact Only.undrew o9) (Nat.ne_of_lt HGH.out)).head (show g < w9.heap.size from o9.size ▸ GA8.out) ga; rw [HTA.out] at this; exact this) (by have := r9.head (show h < w9.heap.size from o9.size ▸ GB8.out) gb; rw [HTB.out] at this; exact this)).mono ?_; rintro x w10 ⟨rfl, rfl⟩))
  have B10 : Hid (Below W.heap.size W w10) := by assumption
  clear hb8 r9 o9 RA8 RB8 GA8 GB8 B8
  have hb10 := B10.out
  go_wp2_with fail
  go_region_held3 (fun X => Below W.heap.size W X)
    (first
      | exact Below.refl _ _
      | assumption
      | exact keepD (by assumption) (by assumption)
      | exact keepT hg0 (by assumption) (Only.below (by assumption))
      | exact keepT HH0.out (by assumption) (Only.below (by assumption))
      | exact keepT B10.out.size (by assumption) btA
      | exact Below.drew (by assumption)
      | exact (Below.refl _ _).drew)
    (first
      | (go_at_call 17; first
        | (with_reducible refine (HCA.out _ (by assumption)).mono ?_; rintro x wA ⟨vA, rfl, mA, bA⟩)
        | (with_reducible refine (HCB.out _ (by assumption)).mono ?_; rintro x wB ⟨vB, rfl, mB, bB⟩))
      | (go_at_call 19; refine (turn_mine _ la _ mA (by omega) HPA.out).mono ?_; rintro x wt ⟨rfl, lA, btA, oA⟩)
      | (go_at_call 16; refine (RT.out _ _ _ (by first | exact lA | exact lA.below bB) (by exact lies_of_own mB)).mono ?_; rintro x w11 ⟨rfl, rfl⟩))
  have B11 : Hid (Below W.heap.size W w11) := by assumption
  clear hb10 mA mB bA bB lA btA oA B10
  have hb11 := B11.out
  go_wp2_with fail
  go_region_held3 (fun X => Below W.heap.size W X)
    (first
      | exact Below.refl _ _
      | assumption
      | exact keepD (by assumption) (by assumption)
      | exact keepT hg0 (by assumption) (Only.below (by assumption))
      | exact keepT HH0.out (by assumption) (Only.below (by assumption))
      | exact keepT B11.out.size (by assumption) btA
      | exact keepT (Nat.le_trans B11.out.size (Nat.le_trans bA.size btA.size)) (by assumption) btB
      | exact Below.drew (by assumption)
      | exact (Below.refl _ _).drew)
    (first
      | (go_at_call 17; first
        | (with_reducible refine (HCA.out _ (by assumption)).mono ?_; rintro x wA ⟨vA, rfl, mA, bA⟩)
        | (with_reducible refine (HCB.out _ (by assumption)).mono ?_; rintro x wB ⟨vB, rfl, mB, bB⟩))
      | (go_at_call 19; first
        | (with_reducible refine (turn_mine vA la _ mA (by omega) HPA.out).mono ?_; rintro x wt ⟨rfl, lA, btA, oA⟩)
        | (with_reducible refine (turn_mine vB lb _ mB (by omega) HPB.out).mono ?_; rintro x ws ⟨rfl, lB, btB, oB⟩))
      | (go_at_call 16; refine (RU.out _ _ _ (by first | exact lA | exact lA.below (bB.trans btB)) (by exact lB)).mono ?_; rintro x w12 ⟨rfl, rfl⟩))
  have B12 : Hid (Below W.heap.size W w12) := by assumption
  clear hb11 mA mB bA bB lA btA oA lB btB oB B11
  go_wp2_with fail
  go_ret
  exact ⟨by simp, H0.out.bl.trans (B12.out.mono H0.out.bl.size)⟩

end Go.Proofs.Ytkkkgpcdnjijbaa.ss
