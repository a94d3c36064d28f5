import Derived.Test.YtimbhneegphhbaaGreatDoorRcDq
namespace Go.Proofs.YtimbhneegphhbaaGreatDoor.rc
open Go.ChangeShapes Go.WideShapes Go.ChangeAt Go.RowKit Go.Proofs.YtimbhneegphhbaaGreatDoor.common Go.Proofs.YtimbhneegphhbaaGreatDoor.dk

set_option maxRecDepth 100000 in
set_option maxHeartbeats 25600000 in
theorem drec_1 (K p : Nat) (v : Value) (b : UInt8) (r0 : List UInt8) (w : World) (hb : b.toNat = 1) (hp : Pl K p v (b :: r0) w 0 false) (HTB : ∀ X, Fr [p] w X → HTab X) (hK : K ≤ p) :
    Calls Tryz.prog 28 #[.pointer (some ⟨p, 0, none⟩)] w (DrOut K p v (b :: r0) w) := by
  have hpw : p < w.heap.size := (Array.getElem?_eq_some_iff.1 hp.1).1
  obtain ⟨ov, cv, hvv⟩ : ∃ ov cv, v = .slice ov (b :: r0).length cv := by obtain ⟨x, y, h, _⟩ := hp.2.1; exact ⟨x, y, h⟩
  obtain ⟨g, o, hov, hcell⟩ := Rd.cell (oa := ov) (c := cv) (by rw [← hvv]; exact hp.2.1.rd) (by simp)
  subst hvv hov
  obtain ⟨L, hL⟩ : ∃ L, L = (b :: r0).length := ⟨_, rfl⟩
  have hL0 : ¬ (L : Int) = 0 := by rw [hL, List.length_cons]; omega
  have hL0b : ((L : Int) == 0) = false := beq_false_of_ne hL0
  have hL1 : (0 : Int) < (L : Int) := by rw [hL, List.length_cons]; omega
  obtain ⟨W1, hW1⟩ : ∃ W1, W1 = w.alloc (.cells zrec 26) := ⟨_, rfl⟩
  obtain ⟨W, hW⟩ : ∃ W, W = W1.alloc (.cells (rcs ⟨1, ⟨#[]⟩, ⟨#[]⟩, ⟨#[]⟩, ⟨#[]⟩, ⟨#[]⟩, ⟨#[]⟩, [], 0⟩ (.slice none 0 0)) 26) := ⟨_, rfl⟩
  have hF1 : Fr [p] w W1 := by rw [hW1]; exact ⟨rfl, rfl, rfl, by simp, fun k hk _ => Below.heap_alloc w _ k hk⟩
  have hF2 : Fr [p] W1 W := by rw [hW]; exact ⟨rfl, rfl, rfl, by simp, fun k hk _ => Below.heap_alloc W1 _ k hk⟩
  have hz1 : W1.heap.size = w.heap.size + 1 := by rw [hW1]; simp
  have hP1 : Pl K p (.slice (some ⟨g, o, none⟩) (b :: r0).length cv) (b :: r0) W1 0 false := ⟨by rw [hW1]; exact (Below.heap_alloc w _ p hpw).trans hp.1, hp.2.1.keep (fun g _ hs => by rw [hW1]; exact Below.heap_alloc w _ g hs) hF1.size, hp.2.2⟩
  have hP2 : Pl K p (.slice (some ⟨g, o, none⟩) (b :: r0).length cv) (b :: r0) W 0 false := ⟨by rw [hW]; exact (Below.heap_alloc W1 _ p (by omega)).trans hP1.1, hP1.2.1.keep (fun g _ hs => by rw [hW]; exact Below.heap_alloc W1 _ g hs) hF2.size, hP1.2.2⟩
  have hD0 : Dq K p (.slice (some ⟨g, o, none⟩) (b :: r0).length cv) (b :: r0) w ⟨1, ⟨#[]⟩, ⟨#[]⟩, ⟨#[]⟩, ⟨#[]⟩, ⟨#[]⟩, ⟨#[]⟩, [], 0⟩ (.slice none 0 0) 1 false (((w.setCell ⟨p, 1, none⟩ (.int .i64 1)).alloc (.cells zrec 26)).alloc (.cells (rcs ⟨1, ⟨#[]⟩, ⟨#[]⟩, ⟨#[]⟩, ⟨#[]⟩, ⟨#[]⟩, ⟨#[]⟩, [], 0⟩ (.slice none 0 0)) 26)) := by
    have e0 : (w.setCell ⟨p, 1, none⟩ (.int .i64 1)).heap.size = w.heap.size := size_set _ _ _
    have t0 := hp.to hK 1 (by simp)
    have f0 := fr_sets (Fr.refl [p] w) 1 (.int .i64 1)
    have t0 : Pl K p (.slice (some ⟨g, o, none⟩) (b :: r0).length cv) (b :: r0) (w.setCell ⟨p, 1, none⟩ (.int .i64 1)) 1 false := t0
    generalize w.setCell ⟨p, 1, none⟩ (.int .i64 1) = w0 at *
    have b1 : Below w0.heap.size w0 ((w0.alloc (.cells zrec 26)).alloc (.cells (rcs ⟨1, ⟨#[]⟩, ⟨#[]⟩, ⟨#[]⟩, ⟨#[]⟩, ⟨#[]⟩, ⟨#[]⟩, [], 0⟩ (.slice none 0 0)) 26)) := ((Below.refl _ _).alloc (Nat.le_refl _) _).alloc (by simp) _
    have n1 := heap_alloc_new (w0.alloc (.cells zrec 26)) (.cells (rcs ⟨1, ⟨#[]⟩, ⟨#[]⟩, ⟨#[]⟩, ⟨#[]⟩, ⟨#[]⟩, ⟨#[]⟩, [], 0⟩ (.slice none 0 0)) 26 (0, 0))
    rw [World.size_alloc, e0] at n1
    have n0 := (heap_alloc_old (w0.alloc (.cells zrec 26)) (.cells (rcs ⟨1, ⟨#[]⟩, ⟨#[]⟩, ⟨#[]⟩, ⟨#[]⟩, ⟨#[]⟩, ⟨#[]⟩, [], 0⟩ (.slice none 0 0)) 26 (0, 0)) (r := w0.heap.size) (by simp)).trans (heap_alloc_new w0 _)
    rw [e0] at n0
    exact ⟨n1, n0, t0.low b1 (by rw [e0]; exact hpw) hK, f0.next b1⟩
  have HD0 := hide hD0
  have cb : ∀ X : World, X.heap[g]? = w.heap[g]? → X.cell? ⟨g, o, none⟩ = some (.int .u8 1) := fun X hX => by
    have h := hcell 0 (by simp)
    rw [Nat.add_zero] at h
    rw [World.cell?_of_block hX, h]
    show some (Value.int .u8 ((b.toNat : Nat) : Int)) = _
    rw [hb]; rfl
  have hglt : g < w.heap.size := World.block_lt_of_cell? w _ (hcell 0 (by simp))
  have cb1 : W1.cell? ⟨g, o, none⟩ = some (.int .u8 1) := cb W1 (by rw [hW1]; exact Below.heap_alloc w _ g hglt)
  have p0 : W1.cell? ⟨p, 0, none⟩ = some (.slice (some ⟨g, o, none⟩) L cv) := by rw [hL]; exact cell_of hP1.1 0
  have p1 : W.cell? ⟨p, 1, none⟩ = some (.int .i64 0) := cell_of hP2.1 1
  have pf : W.frozen? ⟨p, 1, none⟩ = false := free_of hP2.1 1
  have HHB := hide hb
  have HTT := hide HTB
  have HWZ : Hid (W1.heap.size = w.heap.size + 1) := hz1
  have HW1 := hide hW1
  have HW := hide hW
  rw [hW, hW1] at p1 pf
  rw [hW1] at cb1 p0
  clear hb hp hP1 hP2 hF1 hF2 hD0 hcell cb hL hW hW1 HTB hz1 hglt
  obtain ⟨X0, hX0⟩ : ∃ X0, X0 = ((w.setCell ⟨p, 1, none⟩ (.int .i64 1)).alloc (.cells zrec 26)).alloc (.cells (rcs ⟨1, ⟨#[]⟩, ⟨#[]⟩, ⟨#[]⟩, ⟨#[]⟩, ⟨#[]⟩, ⟨#[]⟩, [], 0⟩ (.slice none 0 0)) 26) := ⟨_, rfl⟩
  rw [← hX0] at HD0
  have c0 : X0.cell? ⟨w.heap.size + 1, 0, none⟩ = some (.int .i64 1) := (HD0.out.boxed hpw (Fr.refl _ _) 0).1
  have g_id : X0.cell? ⟨13, 1, none⟩ = some (.bool true) := (HTT.out X0 HD0.out.fr).t1 1 (by decide)
  have g_us : X0.cell? ⟨18, 1, none⟩ = some (.bool true) := (HTT.out X0 HD0.out.fr).t2 1 (by decide)
  have g_cl : X0.cell? ⟨16, 1, none⟩ = some (.bool false) := (HTT.out X0 HD0.out.fr).t3 1 (by decide)
  have g_rd : X0.cell? ⟨14, 1, none⟩ = some (.bool false) := (HTT.out X0 HD0.out.fr).t4 1 (by decide)
  have g_cd : X0.cell? ⟨15, 1, none⟩ = some (.bool false) := (HTT.out X0 HD0.out.fr).t6 1 (by decide)
  have g_ss : X0.cell? ⟨17, 1, none⟩ = some (.bool false) := (HTT.out X0 HD0.out.fr).t7 1 (by decide)
  have g_at : X0.cell? ⟨19, 1, none⟩ = some (.bool true) := (HTT.out X0 HD0.out.fr).t8 1 (by decide)
  have HX0 := hide hX0
  rw [HX0.out] at c0 g_id g_us g_cl g_rd g_cd g_ss g_at
  clear hX0
  go_enter Tryz.func28, Tryz.ntmps28
  have HT := hide (dtext_any K p _ (b :: r0) 1 false X0 HD0.out.pl hK)
  go_wp2_with fail
  rw [← HX0.out]
  refine HT.out.mono ?_
  rintro x Y1 ⟨y_id, a1, b1, rfl, hpl, hfr, hy, hon⟩
  have q0 := (HD0.out.boxed hpw hfr 1).1
  have q1 := (HD0.out.boxed hpw hfr 1).2
  have q0 : Y1.cell? ⟨w.heap.size + 1, 1, none⟩ = some (.string ⟨#[]⟩) := q0
  have HD1 := hide (HD0.out.next hpw hK hfr hpl 1 (.string y_id) ⟨1, y_id, ⟨#[]⟩, ⟨#[]⟩, ⟨#[]⟩, ⟨#[]⟩, ⟨#[]⟩, [], 0⟩ (.slice none 0 0) rfl)
  have HS1 := hide hon
  have HY_id := hide hy
  obtain ⟨X1, hX1⟩ : ∃ X, X = Y1.setCell ⟨w.heap.size + 1, 1, none⟩ (.string y_id) := ⟨_, rfl⟩
  rw [← hX1] at HD1
  clear HT hpl hfr hy hon c0 g_id g_us g_cl g_rd g_cd g_ss g_at
  have c0 : X1.cell? ⟨w.heap.size + 1, 0, none⟩ = some (.int .i64 1) := (HD1.out.boxed hpw (Fr.refl _ _) 0).1
  have g_id : X1.cell? ⟨13, 1, none⟩ = some (.bool true) := (HTT.out X1 HD1.out.fr).t1 1 (by decide)
  have g_us : X1.cell? ⟨18, 1, none⟩ = some (.bool true) := (HTT.out X1 HD1.out.fr).t2 1 (by decide)
  have g_cl : X1.cell? ⟨16, 1, none⟩ = some (.bool false) := (HTT.out X1 HD1.out.fr).t3 1 (by decide)
  have g_rd : X1.cell? ⟨14, 1, none⟩ = some (.bool false) := (HTT.out X1 HD1.out.fr).t4 1 (by decide)
  have g_cd : X1.cell? ⟨15, 1, none⟩ = some (.bool false) := (HTT.out X1 HD1.out.fr).t6 1 (by decide)
  have g_ss : X1.cell? ⟨17, 1, none⟩ = some (.bool false) := (HTT.out X1 HD1.out.fr).t7 1 (by decide)
  have g_at : X1.cell? ⟨19, 1, none⟩ = some (.bool true) := (HTT.out X1 HD1.out.fr).t8 1 (by decide)
  have HX1 := hide hX1
  rw [hX1] at c0 g_id g_us g_cl g_rd g_cd g_ss g_at
  clear hX1
  have HT := hide (dtext_any K p _ (b :: r0) a1 b1 X1 HD1.out.pl hK)
  go_wp2_with fail
  rw [← HX1.out]
  refine HT.out.mono ?_
  rintro x Y2 ⟨y_us, a2, b2, rfl, hpl, hfr, hy, hon⟩
  have q0 := (HD1.out.boxed hpw hfr 2).1
  have q1 := (HD1.out.boxed hpw hfr 2).2
  have q0 : Y2.cell? ⟨w.heap.size + 1, 2, none⟩ = some (.string ⟨#[]⟩) := q0
  have HD2 := hide (HD1.out.next hpw hK hfr hpl 2 (.string y_us) ⟨1, y_id, y_us, ⟨#[]⟩, ⟨#[]⟩, ⟨#[]⟩, ⟨#[]⟩, [], 0⟩ (.slice none 0 0) rfl)
  have HS2 := hide hon
  have HY_us := hide hy
  obtain ⟨X2, hX2⟩ : ∃ X, X = Y2.setCell ⟨w.heap.size + 1, 2, none⟩ (.string y_us) := ⟨_, rfl⟩
  rw [← hX2] at HD2
  clear HT hpl hfr hy hon c0 g_id g_us g_cl g_rd g_cd g_ss g_at
  have c0 : X2.cell? ⟨w.heap.size + 1, 0, none⟩ = some (.int .i64 1) := (HD2.out.boxed hpw (Fr.refl _ _) 0).1
  have g_id : X2.cell? ⟨13, 1, none⟩ = some (.bool true) := (HTT.out X2 HD2.out.fr).t1 1 (by decide)
  have g_us : X2.cell? ⟨18, 1, none⟩ = some (.bool true) := (HTT.out X2 HD2.out.fr).t2 1 (by decide)
  have g_cl : X2.cell? ⟨16, 1, none⟩ = some (.bool false) := (HTT.out X2 HD2.out.fr).t3 1 (by decide)
  have g_rd : X2.cell? ⟨14, 1, none⟩ = some (.bool false) := (HTT.out X2 HD2.out.fr).t4 1 (by decide)
  have g_cd : X2.cell? ⟨15, 1, none⟩ = some (.bool false) := (HTT.out X2 HD2.out.fr).t6 1 (by decide)
  have g_ss : X2.cell? ⟨17, 1, none⟩ = some (.bool false) := (HTT.out X2 HD2.out.fr).t7 1 (by decide)
  have g_at : X2.cell? ⟨19, 1, none⟩ = some (.bool true) := (HTT.out X2 HD2.out.fr).t8 1 (by decide)
  have HX2 := hide hX2
  rw [hX2] at c0 g_id g_us g_cl g_rd g_cd g_ss g_at
  clear hX2
  have HT := hide (dnumber_any K p _ (b :: r0) a2 b2 X2 HD2.out.pl hK)
  go_wp2_with fail
  rw [← HX2.out]
  refine HT.out.mono ?_
  rintro x Y3 ⟨y_at, a3, b3, rfl, hpl, hfr, hy, hon⟩
  have q0 := (HD2.out.boxed hpw hfr 8).1
  have q1 := (HD2.out.boxed hpw hfr 8).2
  have q0 : Y3.cell? ⟨w.heap.size + 1, 8, none⟩ = some (.int .i64 0) := q0
  have HD3 := hide (HD2.out.next hpw hK hfr hpl 8 (.int .i64 (y_at : Int)) ⟨1, y_id, y_us, ⟨#[]⟩, ⟨#[]⟩, ⟨#[]⟩, ⟨#[]⟩, [], ((y_at : Nat) : Int)⟩ (.slice none 0 0) rfl)
  have HS3 := hide hon
  have HY_at := hide hy
  obtain ⟨X3, hX3⟩ : ∃ X, X = Y3.setCell ⟨w.heap.size + 1, 8, none⟩ (.int .i64 (y_at : Int)) := ⟨_, rfl⟩
  rw [← hX3] at HD3
  clear HT hpl hfr hy hon c0 g_id g_us g_cl g_rd g_cd g_ss g_at
  have c0 : X3.cell? ⟨w.heap.size + 1, 0, none⟩ = some (.int .i64 1) := (HD3.out.boxed hpw (Fr.refl _ _) 0).1
  have g_id : X3.cell? ⟨13, 1, none⟩ = some (.bool true) := (HTT.out X3 HD3.out.fr).t1 1 (by decide)
  have g_us : X3.cell? ⟨18, 1, none⟩ = some (.bool true) := (HTT.out X3 HD3.out.fr).t2 1 (by decide)
  have g_cl : X3.cell? ⟨16, 1, none⟩ = some (.bool false) := (HTT.out X3 HD3.out.fr).t3 1 (by decide)
  have g_rd : X3.cell? ⟨14, 1, none⟩ = some (.bool false) := (HTT.out X3 HD3.out.fr).t4 1 (by decide)
  have g_cd : X3.cell? ⟨15, 1, none⟩ = some (.bool false) := (HTT.out X3 HD3.out.fr).t6 1 (by decide)
  have g_ss : X3.cell? ⟨17, 1, none⟩ = some (.bool false) := (HTT.out X3 HD3.out.fr).t7 1 (by decide)
  have g_at : X3.cell? ⟨19, 1, none⟩ = some (.bool true) := (HTT.out X3 HD3.out.fr).t8 1 (by decide)
  have HX3 := hide hX3
  rw [hX3] at c0 g_id g_us g_cl g_rd g_cd g_ss g_at
  clear hX3
  have HRG : Hid (X3.rangeAt (w.heap.size + 1) 0 (rcl9 ⟨1, y_id, y_us, ⟨#[]⟩, ⟨#[]⟩, ⟨#[]⟩, ⟨#[]⟩, [], ((y_at : Nat) : Int)⟩ (.slice none 0 0))) := range_of (t := 26) HD3.out.box
  have HTZ : Hid (X3.there w.heap.size 0 9) := there_of (cur := zrec.toList) HD3.out.out 0 9 (by simp)
  rw [HX3.out] at HRG HTZ
  go_wp2_with (first
    | (refine wpList_load_mid rfl 26 (.tmp 3) rfl (w.heap.size + 1) 0 rfl _ _ HRG.out Tryz.underlying26 rfl sizeRec ?_)
    | (refine wpList_store_mid rfl 26 (.tmp 2) (.tmp 86) rfl w.heap.size 0 (rcs ⟨1, y_id, y_us, ⟨#[]⟩, ⟨#[]⟩, ⟨#[]⟩, ⟨#[]⟩, [], ((y_at : Nat) : Int)⟩ (.slice none 0 0)) rfl rfl HTZ.out sizeRec (rcs_one _ _ _ _) ?_))
  refine bodyPost_ret (results_c rfl _ rfl (World.rangeAt_setCells_same _ w.heap.size 0 (rcs ⟨1, y_id, y_us, ⟨#[]⟩, ⟨#[]⟩, ⟨#[]⟩, ⟨#[]⟩, [], ((y_at : Nat) : Int)⟩ (.slice none 0 0)).toList HTZ.out) Tryz.underlying26 rfl sizeRec) rfl ?_
  rw [← HX3.out]
  unfold DrOut
  exact ⟨⟨1, y_id, y_us, ⟨#[]⟩, ⟨#[]⟩, ⟨#[]⟩, ⟨#[]⟩, [], ((y_at : Nat) : Int)⟩, .slice none 0 0, a3, b3, rfl, (HD3.out.fin hpw hK _).1, (HD3.out.fin hpw hK _).2, World.ownsRow_nil _ _ _ _, ⟨⟨HY_id.out, HY_us.out, e_low, e_low, e_low, e_low, fun s hs => (by cases hs)⟩, Nat.zero_le _⟩, fun y hm hl e => (by have h := find_1 HHB.out HS1.out HS2.out HS3.out y hm hl e; exact ⟨h.1, st_end h.2⟩)⟩

set_option maxRecDepth 100000 in
set_option maxHeartbeats 25600000 in
theorem drec_3 (K p : Nat) (v : Value) (b : UInt8) (r0 : List UInt8) (w : World) (hb : b.toNat = 3) (hp : Pl K p v (b :: r0) w 0 false) (HTB : ∀ X, Fr [p] w X → HTab X) (hK : K ≤ p) :
    Calls Tryz.prog 28 #[.pointer (some ⟨p, 0, none⟩)] w (DrOut K p v (b :: r0) w) := by
  have hpw : p < w.heap.size := (Array.getElem?_eq_some_iff.1 hp.1).1
  obtain ⟨ov, cv, hvv⟩ : ∃ ov cv, v = .slice ov (b :: r0).length cv := by obtain ⟨x, y, h, _⟩ := hp.2.1; exact ⟨x, y, h⟩
  obtain ⟨g, o, hov, hcell⟩ := Rd.cell (oa := ov) (c := cv) (by rw [← hvv]; exact hp.2.1.rd) (by simp)
  subst hvv hov
  obtain ⟨L, hL⟩ : ∃ L, L = (b :: r0).length := ⟨_, rfl⟩
  have hL0 : ¬ (L : Int) = 0 := by rw [hL, List.length_cons]; omega
  have hL0b : ((L : Int) == 0) = false := beq_false_of_ne hL0
  have hL1 : (0 : Int) < (L : Int) := by rw [hL, List.length_cons]; omega
  obtain ⟨W1, hW1⟩ : ∃ W1, W1 = w.alloc (.cells zrec 26) := ⟨_, rfl⟩
  obtain ⟨W, hW⟩ : ∃ W, W = W1.alloc (.cells (rcs ⟨3, ⟨#[]⟩, ⟨#[]⟩, ⟨#[]⟩, ⟨#[]⟩, ⟨#[]⟩, ⟨#[]⟩, [], 0⟩ (.slice none 0 0)) 26) := ⟨_, rfl⟩
  have hF1 : Fr [p] w W1 := by rw [hW1]; exact ⟨rfl, rfl, rfl, by simp, fun k hk _ => Below.heap_alloc w _ k hk⟩
  have hF2 : Fr [p] W1 W := by rw [hW]; exact ⟨rfl, rfl, rfl, by simp, fun k hk _ => Below.heap_alloc W1 _ k hk⟩
  have hz1 : W1.heap.size = w.heap.size + 1 := by rw [hW1]; simp
  have hP1 : Pl K p (.slice (some ⟨g, o, none⟩) (b :: r0).length cv) (b :: r0) W1 0 false := ⟨by rw [hW1]; exact (Below.heap_alloc w _ p hpw).trans hp.1, hp.2.1.keep (fun g _ hs => by rw [hW1]; exact Below.heap_alloc w _ g hs) hF1.size, hp.2.2⟩
  have hP2 : Pl K p (.slice (some ⟨g, o, none⟩) (b :: r0).length cv) (b :: r0) W 0 false := ⟨by rw [hW]; exact (Below.heap_alloc W1 _ p (by omega)).trans hP1.1, hP1.2.1.keep (fun g _ hs => by rw [hW]; exact Below.heap_alloc W1 _ g hs) hF2.size, hP1.2.2⟩
  have hD0 : Dq K p (.slice (some ⟨g, o, none⟩) (b :: r0).length cv) (b :: r0) w ⟨3, ⟨#[]⟩, ⟨#[]⟩, ⟨#[]⟩, ⟨#[]⟩, ⟨#[]⟩, ⟨#[]⟩, [], 0⟩ (.slice none 0 0) 1 false (((w.setCell ⟨p, 1, none⟩ (.int .i64 1)).alloc (.cells zrec 26)).alloc (.cells (rcs ⟨3, ⟨#[]⟩, ⟨#[]⟩, ⟨#[]⟩, ⟨#[]⟩, ⟨#[]⟩, ⟨#[]⟩, [], 0⟩ (.slice none 0 0)) 26)) := by
    have e0 : (w.setCell ⟨p, 1, none⟩ (.int .i64 1)).heap.size = w.heap.size := size_set _ _ _
    have t0 := hp.to hK 1 (by simp)
    have f0 := fr_sets (Fr.refl [p] w) 1 (.int .i64 1)
    have t0 : Pl K p (.slice (some ⟨g, o, none⟩) (b :: r0).length cv) (b :: r0) (w.setCell ⟨p, 1, none⟩ (.int .i64 1)) 1 false := t0
    generalize w.setCell ⟨p, 1, none⟩ (.int .i64 1) = w0 at *
    have b1 : Below w0.heap.size w0 ((w0.alloc (.cells zrec 26)).alloc (.cells (rcs ⟨3, ⟨#[]⟩, ⟨#[]⟩, ⟨#[]⟩, ⟨#[]⟩, ⟨#[]⟩, ⟨#[]⟩, [], 0⟩ (.slice none 0 0)) 26)) := ((Below.refl _ _).alloc (Nat.le_refl _) _).alloc (by simp) _
    have n1 := heap_alloc_new (w0.alloc (.cells zrec 26)) (.cells (rcs ⟨3, ⟨#[]⟩, ⟨#[]⟩, ⟨#[]⟩, ⟨#[]⟩, ⟨#[]⟩, ⟨#[]⟩, [], 0⟩ (.slice none 0 0)) 26 (0, 0))
    rw [World.size_alloc, e0] at n1
    have n0 := (heap_alloc_old (w0.alloc (.cells zrec 26)) (.cells (rcs ⟨3, ⟨#[]⟩, ⟨#[]⟩, ⟨#[]⟩, ⟨#[]⟩, ⟨#[]⟩, ⟨#[]⟩, [], 0⟩ (.slice none 0 0)) 26 (0, 0)) (r := w0.heap.size) (by simp)).trans (heap_alloc_new w0 _)
    rw [e0] at n0
    exact ⟨n1, n0, t0.low b1 (by rw [e0]; exact hpw) hK, f0.next b1⟩
  have HD0 := hide hD0
  have cb : ∀ X : World, X.heap[g]? = w.heap[g]? → X.cell? ⟨g, o, none⟩ = some (.int .u8 3) := fun X hX => by
    have h := hcell 0 (by simp)
    rw [Nat.add_zero] at h
    rw [World.cell?_of_block hX, h]
    show some (Value.int .u8 ((b.toNat : Nat) : Int)) = _
    rw [hb]; rfl
  have hglt : g < w.heap.size := World.block_lt_of_cell? w _ (hcell 0 (by simp))
  have cb1 : W1.cell? ⟨g, o, none⟩ = some (.int .u8 3) := cb W1 (by rw [hW1]; exact Below.heap_alloc w _ g hglt)
  have p0 : W1.cell? ⟨p, 0, none⟩ = some (.slice (some ⟨g, o, none⟩) L cv) := by rw [hL]; exact cell_of hP1.1 0
  have p1 : W.cell? ⟨p, 1, none⟩ = some (.int .i64 0) := cell_of hP2.1 1
  have pf : W.frozen? ⟨p, 1, none⟩ = false := free_of hP2.1 1
  have HHB := hide hb
  have HTT := hide HTB
  have HWZ : Hid (W1.heap.size = w.heap.size + 1) := hz1
  have HW1 := hide hW1
  have HW := hide hW
  rw [hW, hW1] at p1 pf
  rw [hW1] at cb1 p0
  clear hb hp hP1 hP2 hF1 hF2 hD0 hcell cb hL hW hW1 HTB hz1 hglt
  obtain ⟨X0, hX0⟩ : ∃ X0, X0 = ((w.setCell ⟨p, 1, none⟩ (.int .i64 1)).alloc (.cells zrec 26)).alloc (.cells (rcs ⟨3, ⟨#[]⟩, ⟨#[]⟩, ⟨#[]⟩, ⟨#[]⟩, ⟨#[]⟩, ⟨#[]⟩, [], 0⟩ (.slice none 0 0)) 26) := ⟨_, rfl⟩
  rw [← hX0] at HD0
  have c0 : X0.cell? ⟨w.heap.size + 1, 0, none⟩ = some (.int .i64 3) := (HD0.out.boxed hpw (Fr.refl _ _) 0).1
  have g_id : X0.cell? ⟨13, 3, none⟩ = some (.bool false) := (HTT.out X0 HD0.out.fr).t1 3 (by decide)
  have g_us : X0.cell? ⟨18, 3, none⟩ = some (.bool true) := (HTT.out X0 HD0.out.fr).t2 3 (by decide)
  have g_cl : X0.cell? ⟨16, 3, none⟩ = some (.bool true) := (HTT.out X0 HD0.out.fr).t3 3 (by decide)
  have g_rd : X0.cell? ⟨14, 3, none⟩ = some (.bool false) := (HTT.out X0 HD0.out.fr).t4 3 (by decide)
  have g_cd : X0.cell? ⟨15, 3, none⟩ = some (.bool false) := (HTT.out X0 HD0.out.fr).t6 3 (by decide)
  have g_ss : X0.cell? ⟨17, 3, none⟩ = some (.bool true) := (HTT.out X0 HD0.out.fr).t7 3 (by decide)
  have g_at : X0.cell? ⟨19, 3, none⟩ = some (.bool true) := (HTT.out X0 HD0.out.fr).t8 3 (by decide)
  have HX0 := hide hX0
  rw [HX0.out] at c0 g_id g_us g_cl g_rd g_cd g_ss g_at
  clear hX0
  go_enter Tryz.func28, Tryz.ntmps28
  have HT := hide (dtext_any K p _ (b :: r0) 1 false X0 HD0.out.pl hK)
  go_wp2_with fail
  rw [← HX0.out]
  refine HT.out.mono ?_
  rintro x Y1 ⟨y_cl, a1, b1, rfl, hpl, hfr, hy, hon⟩
  have q0 := (HD0.out.boxed hpw hfr 3).1
  have q1 := (HD0.out.boxed hpw hfr 3).2
  have q0 : Y1.cell? ⟨w.heap.size + 1, 3, none⟩ = some (.string ⟨#[]⟩) := q0
  have HD1 := hide (HD0.out.next hpw hK hfr hpl 3 (.string y_cl) ⟨3, ⟨#[]⟩, ⟨#[]⟩, y_cl, ⟨#[]⟩, ⟨#[]⟩, ⟨#[]⟩, [], 0⟩ (.slice none 0 0) rfl)
  have HS1 := hide hon
  have HY_cl := hide hy
  obtain ⟨X1, hX1⟩ : ∃ X, X = Y1.setCell ⟨w.heap.size + 1, 3, none⟩ (.string y_cl) := ⟨_, rfl⟩
  rw [← hX1] at HD1
  clear HT hpl hfr hy hon c0 g_id g_us g_cl g_rd g_cd g_ss g_at
  have c0 : X1.cell? ⟨w.heap.size + 1, 0, none⟩ = some (.int .i64 3) := (HD1.out.boxed hpw (Fr.refl _ _) 0).1
  have g_id : X1.cell? ⟨13, 3, none⟩ = some (.bool false) := (HTT.out X1 HD1.out.fr).t1 3 (by decide)
  have g_us : X1.cell? ⟨18, 3, none⟩ = some (.bool true) := (HTT.out X1 HD1.out.fr).t2 3 (by decide)
  have g_cl : X1.cell? ⟨16, 3, none⟩ = some (.bool true) := (HTT.out X1 HD1.out.fr).t3 3 (by decide)
  have g_rd : X1.cell? ⟨14, 3, none⟩ = some (.bool false) := (HTT.out X1 HD1.out.fr).t4 3 (by decide)
  have g_cd : X1.cell? ⟨15, 3, none⟩ = some (.bool false) := (HTT.out X1 HD1.out.fr).t6 3 (by decide)
  have g_ss : X1.cell? ⟨17, 3, none⟩ = some (.bool true) := (HTT.out X1 HD1.out.fr).t7 3 (by decide)
  have g_at : X1.cell? ⟨19, 3, none⟩ = some (.bool true) := (HTT.out X1 HD1.out.fr).t8 3 (by decide)
  have HX1 := hide hX1
  rw [hX1] at c0 g_id g_us g_cl g_rd g_cd g_ss g_at
  clear hX1
  have HT := hide (dtexts_any K p _ (b :: r0) a1 b1 X1 HD1.out.pl hK)
  go_wp2_with fail
  rw [← HX1.out]
  refine HT.out.mono ?_
  rintro x Y2 ⟨y_ss, vv, a2, b2, rfl, hpl, hfr, hO, hy, hon⟩
  obtain ⟨ol, cl, rfl⟩ := own_slice hO
  have q0 := (HD1.out.boxed hpw hfr 7).1
  have q1 := (HD1.out.boxed hpw hfr 7).2
  have q0 : Y2.cell? ⟨w.heap.size + 1, 7, none⟩ = some (.slice none 0 0) := q0
  have HD2 := hide (HD1.out.next hpw hK hfr hpl 7 (.slice ol y_ss.length cl) ⟨3, ⟨#[]⟩, ⟨#[]⟩, y_cl, ⟨#[]⟩, ⟨#[]⟩, ⟨#[]⟩, y_ss, 0⟩ (.slice ol y_ss.length cl) rfl)
  have HO2 : Hid ((Y2.setCell ⟨w.heap.size + 1, 7, none⟩ (.slice ol y_ss.length cl)).ownsRow (w.heap.size + 2) 9 1 (.slice ol y_ss.length cl) y_ss.length (y_ss.map Value.string)) := own_at (own_least hO (by have := (Array.getElem?_eq_some_iff.1 HD1.out.box).1; omega)) (fun g hg => set_other _ _ _ _ (show g ≠ w.heap.size + 1 by omega))
  have HS2 := hide hon
  have HY_ss := hide hy
  obtain ⟨X2, hX2⟩ : ∃ X, X = Y2.setCell ⟨w.heap.size + 1, 7, none⟩ (.slice ol y_ss.length cl) := ⟨_, rfl⟩
  rw [← hX2] at HD2 HO2
  clear HT hpl hfr hy hon c0 g_id g_us g_cl g_rd g_cd g_ss g_at hO
  have c0 : X2.cell? ⟨w.heap.size + 1, 0, none⟩ = some (.int .i64 3) := (HD2.out.boxed hpw (Fr.refl _ _) 0).1
  have g_id : X2.cell? ⟨13, 3, none⟩ = some (.bool false) := (HTT.out X2 HD2.out.fr).t1 3 (by decide)
  have g_us : X2.cell? ⟨18, 3, none⟩ = some (.bool true) := (HTT.out X2 HD2.out.fr).t2 3 (by decide)
  have g_cl : X2.cell? ⟨16, 3, none⟩ = some (.bool true) := (HTT.out X2 HD2.out.fr).t3 3 (by decide)
  have g_rd : X2.cell? ⟨14, 3, none⟩ = some (.bool false) := (HTT.out X2 HD2.out.fr).t4 3 (by decide)
  have g_cd : X2.cell? ⟨15, 3, none⟩ = some (.bool false) := (HTT.out X2 HD2.out.fr).t6 3 (by decide)
  have g_ss : X2.cell? ⟨17, 3, none⟩ = some (.bool true) := (HTT.out X2 HD2.out.fr).t7 3 (by decide)
  have g_at : X2.cell? ⟨19, 3, none⟩ = some (.bool true) := (HTT.out X2 HD2.out.fr).t8 3 (by decide)
  have HX2 := hide hX2
  rw [hX2] at c0 g_id g_us g_cl g_rd g_cd g_ss g_at
  clear hX2
  have HT := hide (dtext_any K p _ (b :: r0) a2 b2 X2 HD2.out.pl hK)
  go_wp2_with fail
  rw [← HX2.out]
  refine HT.out.mono ?_
  rintro x Y3 ⟨y_us, a3, b3, rfl, hpl, hfr, hy, hon⟩
  have q0 := (HD2.out.boxed hpw hfr 2).1
  have q1 := (HD2.out.boxed hpw hfr 2).2
  have q0 : Y3.cell? ⟨w.heap.size + 1, 2, none⟩ = some (.string ⟨#[]⟩) := q0
  have HD3 := hide (HD2.out.next hpw hK hfr hpl 2 (.string y_us) ⟨3, ⟨#[]⟩, y_us, y_cl, ⟨#[]⟩, ⟨#[]⟩, ⟨#[]⟩, y_ss, 0⟩ (.slice ol y_ss.length cl) rfl)
  have HO3 := hide (own_one HO2.out hfr (by omega) 2 (.string y_us) (show w.heap.size + 1 < w.heap.size + 2 by omega))
  have HS3 := hide hon
  have HY_us := hide hy
  obtain ⟨X3, hX3⟩ : ∃ X, X = Y3.setCell ⟨w.heap.size + 1, 2, none⟩ (.string y_us) := ⟨_, rfl⟩
  rw [← hX3] at HD3 HO3
  clear HT hpl hfr hy hon c0 g_id g_us g_cl g_rd g_cd g_ss g_at
  have c0 : X3.cell? ⟨w.heap.size + 1, 0, none⟩ = some (.int .i64 3) := (HD3.out.boxed hpw (Fr.refl _ _) 0).1
  have g_id : X3.cell? ⟨13, 3, none⟩ = some (.bool false) := (HTT.out X3 HD3.out.fr).t1 3 (by decide)
  have g_us : X3.cell? ⟨18, 3, none⟩ = some (.bool true) := (HTT.out X3 HD3.out.fr).t2 3 (by decide)
  have g_cl : X3.cell? ⟨16, 3, none⟩ = some (.bool true) := (HTT.out X3 HD3.out.fr).t3 3 (by decide)
  have g_rd : X3.cell? ⟨14, 3, none⟩ = some (.bool false) := (HTT.out X3 HD3.out.fr).t4 3 (by decide)
  have g_cd : X3.cell? ⟨15, 3, none⟩ = some (.bool false) := (HTT.out X3 HD3.out.fr).t6 3 (by decide)
  have g_ss : X3.cell? ⟨17, 3, none⟩ = some (.bool true) := (HTT.out X3 HD3.out.fr).t7 3 (by decide)
  have g_at : X3.cell? ⟨19, 3, none⟩ = some (.bool true) := (HTT.out X3 HD3.out.fr).t8 3 (by decide)
  have HX3 := hide hX3
  rw [hX3] at c0 g_id g_us g_cl g_rd g_cd g_ss g_at
  clear hX3
  have HT := hide (dnumber_any K p _ (b :: r0) a3 b3 X3 HD3.out.pl hK)
  go_wp2_with fail
  rw [← HX3.out]
  refine HT.out.mono ?_
  rintro x Y4 ⟨y_at, a4, b4, rfl, hpl, hfr, hy, hon⟩
  have q0 := (HD3.out.boxed hpw hfr 8).1
  have q1 := (HD3.out.boxed hpw hfr 8).2
  have q0 : Y4.cell? ⟨w.heap.size + 1, 8, none⟩ = some (.int .i64 0) := q0
  have HD4 := hide (HD3.out.next hpw hK hfr hpl 8 (.int .i64 (y_at : Int)) ⟨3, ⟨#[]⟩, y_us, y_cl, ⟨#[]⟩, ⟨#[]⟩, ⟨#[]⟩, y_ss, ((y_at : Nat) : Int)⟩ (.slice ol y_ss.length cl) rfl)
  have HO4 := hide (own_one HO3.out hfr (by omega) 8 (.int .i64 (y_at : Int)) (show w.heap.size + 1 < w.heap.size + 2 by omega))
  have HS4 := hide hon
  have HY_at := hide hy
  obtain ⟨X4, hX4⟩ : ∃ X, X = Y4.setCell ⟨w.heap.size + 1, 8, none⟩ (.int .i64 (y_at : Int)) := ⟨_, rfl⟩
  rw [← hX4] at HD4 HO4
  clear HT hpl hfr hy hon c0 g_id g_us g_cl g_rd g_cd g_ss g_at
  have c0 : X4.cell? ⟨w.heap.size + 1, 0, none⟩ = some (.int .i64 3) := (HD4.out.boxed hpw (Fr.refl _ _) 0).1
  have g_id : X4.cell? ⟨13, 3, none⟩ = some (.bool false) := (HTT.out X4 HD4.out.fr).t1 3 (by decide)
  have g_us : X4.cell? ⟨18, 3, none⟩ = some (.bool true) := (HTT.out X4 HD4.out.fr).t2 3 (by decide)
  have g_cl : X4.cell? ⟨16, 3, none⟩ = some (.bool true) := (HTT.out X4 HD4.out.fr).t3 3 (by decide)
  have g_rd : X4.cell? ⟨14, 3, none⟩ = some (.bool false) := (HTT.out X4 HD4.out.fr).t4 3 (by decide)
  have g_cd : X4.cell? ⟨15, 3, none⟩ = some (.bool false) := (HTT.out X4 HD4.out.fr).t6 3 (by decide)
  have g_ss : X4.cell? ⟨17, 3, none⟩ = some (.bool true) := (HTT.out X4 HD4.out.fr).t7 3 (by decide)
  have g_at : X4.cell? ⟨19, 3, none⟩ = some (.bool true) := (HTT.out X4 HD4.out.fr).t8 3 (by decide)
  have HX4 := hide hX4
  rw [hX4] at c0 g_id g_us g_cl g_rd g_cd g_ss g_at
  clear hX4
  have HRG : Hid (X4.rangeAt (w.heap.size + 1) 0 (rcl9 ⟨3, ⟨#[]⟩, y_us, y_cl, ⟨#[]⟩, ⟨#[]⟩, ⟨#[]⟩, y_ss, ((y_at : Nat) : Int)⟩ (.slice ol y_ss.length cl))) := range_of (t := 26) HD4.out.box
  have HTZ : Hid (X4.there w.heap.size 0 9) := there_of (cur := zrec.toList) HD4.out.out 0 9 (by simp)
  rw [HX4.out] at HRG HTZ
  go_wp2_with (first
    | (refine wpList_load_mid rfl 26 (.tmp 3) rfl (w.heap.size + 1) 0 rfl _ _ HRG.out Tryz.underlying26 rfl sizeRec ?_)
    | (refine wpList_store_mid rfl 26 (.tmp 2) (.tmp 86) rfl w.heap.size 0 (rcs ⟨3, ⟨#[]⟩, y_us, y_cl, ⟨#[]⟩, ⟨#[]⟩, ⟨#[]⟩, y_ss, ((y_at : Nat) : Int)⟩ (.slice ol y_ss.length cl)) rfl rfl HTZ.out sizeRec (rcs_one _ _ _ _) ?_))
  refine bodyPost_ret (results_c rfl _ rfl (World.rangeAt_setCells_same _ w.heap.size 0 (rcs ⟨3, ⟨#[]⟩, y_us, y_cl, ⟨#[]⟩, ⟨#[]⟩, ⟨#[]⟩, y_ss, ((y_at : Nat) : Int)⟩ (.slice ol y_ss.length cl)).toList HTZ.out) Tryz.underlying26 rfl sizeRec) rfl ?_
  rw [← HX4.out]
  unfold DrOut
  exact ⟨⟨3, ⟨#[]⟩, y_us, y_cl, ⟨#[]⟩, ⟨#[]⟩, ⟨#[]⟩, y_ss, ((y_at : Nat) : Int)⟩, .slice ol y_ss.length cl, a4, b4, rfl, (HD4.out.fin hpw hK _).1, (HD4.out.fin hpw hK _).2, own_least (own_at HO4.out (fun g hg => sets_other _ _ _ _ _ (show g ≠ w.heap.size by omega))) (by omega), ⟨⟨e_low, HY_us.out, HY_cl.out, e_low, e_low, e_low, HY_ss.out.2⟩, HY_ss.out.1⟩, fun y hm hl e => (by have h := find_3 HHB.out HS1.out HS2.out HS3.out HS4.out y hm hl e; exact ⟨h.1, st_end h.2⟩)⟩

set_option maxRecDepth 100000 in
set_option maxHeartbeats 25600000 in
theorem drec_11 (K p : Nat) (v : Value) (b : UInt8) (r0 : List UInt8) (w : World) (hb : b.toNat = 11) (hp : Pl K p v (b :: r0) w 0 false) (HTB : ∀ X, Fr [p] w X → HTab X) (hK : K ≤ p) :
    Calls Tryz.prog 28 #[.pointer (some ⟨p, 0, none⟩)] w (DrOut K p v (b :: r0) w) := by
  have hpw : p < w.heap.size := (Array.getElem?_eq_some_iff.1 hp.1).1
  obtain ⟨ov, cv, hvv⟩ : ∃ ov cv, v = .slice ov (b :: r0).length cv := by obtain ⟨x, y, h, _⟩ := hp.2.1; exact ⟨x, y, h⟩
  obtain ⟨g, o, hov, hcell⟩ := Rd.cell (oa := ov) (c := cv) (by rw [← hvv]; exact hp.2.1.rd) (by simp)
  subst hvv hov
  obtain ⟨L, hL⟩ : ∃ L, L = (b :: r0).length := ⟨_, rfl⟩
  have hL0 : ¬ (L : Int) = 0 := by rw [hL, List.length_cons]; omega
  have hL0b : ((L : Int) == 0) = false := beq_false_of_ne hL0
  have hL1 : (0 : Int) < (L : Int) := by rw [hL, List.length_cons]; omega
  obtain ⟨W1, hW1⟩ : ∃ W1, W1 = w.alloc (.cells zrec 26) := ⟨_, rfl⟩
  obtain ⟨W, hW⟩ : ∃ W, W = W1.alloc (.cells (rcs ⟨11, ⟨#[]⟩, ⟨#[]⟩, ⟨#[]⟩, ⟨#[]⟩, ⟨#[]⟩, ⟨#[]⟩, [], 0⟩ (.slice none 0 0)) 26) := ⟨_, rfl⟩
  have hF1 : Fr [p] w W1 := by rw [hW1]; exact ⟨rfl, rfl, rfl, by simp, fun k hk _ => Below.heap_alloc w _ k hk⟩
  have hF2 : Fr [p] W1 W := by rw [hW]; exact ⟨rfl, rfl, rfl, by simp, fun k hk _ => Below.heap_alloc W1 _ k hk⟩
  have hz1 : W1.heap.size = w.heap.size + 1 := by rw [hW1]; simp
  have hP1 : Pl K p (.slice (some ⟨g, o, none⟩) (b :: r0).length cv) (b :: r0) W1 0 false := ⟨by rw [hW1]; exact (Below.heap_alloc w _ p hpw).trans hp.1, hp.2.1.keep (fun g _ hs => by rw [hW1]; exact Below.heap_alloc w _ g hs) hF1.size, hp.2.2⟩
  have hP2 : Pl K p (.slice (some ⟨g, o, none⟩) (b :: r0).length cv) (b :: r0) W 0 false := ⟨by rw [hW]; exact (Below.heap_alloc W1 _ p (by omega)).trans hP1.1, hP1.2.1.keep (fun g _ hs => by rw [hW]; exact Below.heap_alloc W1 _ g hs) hF2.size, hP1.2.2⟩
  have hD0 : Dq K p (.slice (some ⟨g, o, none⟩) (b :: r0).length cv) (b :: r0) w ⟨11, ⟨#[]⟩, ⟨#[]⟩, ⟨#[]⟩, ⟨#[]⟩, ⟨#[]⟩, ⟨#[]⟩, [], 0⟩ (.slice none 0 0) 1 false (((w.setCell ⟨p, 1, none⟩ (.int .i64 1)).alloc (.cells zrec 26)).alloc (.cells (rcs ⟨11, ⟨#[]⟩, ⟨#[]⟩, ⟨#[]⟩, ⟨#[]⟩, ⟨#[]⟩, ⟨#[]⟩, [], 0⟩ (.slice none 0 0)) 26)) := by
    have e0 : (w.setCell ⟨p, 1, none⟩ (.int .i64 1)).heap.size = w.heap.size := size_set _ _ _
    have t0 := hp.to hK 1 (by simp)
    have f0 := fr_sets (Fr.refl [p] w) 1 (.int .i64 1)
    have t0 : Pl K p (.slice (some ⟨g, o, none⟩) (b :: r0).length cv) (b :: r0) (w.setCell ⟨p, 1, none⟩ (.int .i64 1)) 1 false := t0
    generalize w.setCell ⟨p, 1, none⟩ (.int .i64 1) = w0 at *
    have b1 : Below w0.heap.size w0 ((w0.alloc (.cells zrec 26)).alloc (.cells (rcs ⟨11, ⟨#[]⟩, ⟨#[]⟩, ⟨#[]⟩, ⟨#[]⟩, ⟨#[]⟩, ⟨#[]⟩, [], 0⟩ (.slice none 0 0)) 26)) := ((Below.refl _ _).alloc (Nat.le_refl _) _).alloc (by simp) _
    have n1 := heap_alloc_new (w0.alloc (.cells zrec 26)) (.cells (rcs ⟨11, ⟨#[]⟩, ⟨#[]⟩, ⟨#[]⟩, ⟨#[]⟩, ⟨#[]⟩, ⟨#[]⟩, [], 0⟩ (.slice none 0 0)) 26 (0, 0))
    rw [World.size_alloc, e0] at n1
    have n0 := (heap_alloc_old (w0.alloc (.cells zrec 26)) (.cells (rcs ⟨11, ⟨#[]⟩, ⟨#[]⟩, ⟨#[]⟩, ⟨#[]⟩, ⟨#[]⟩, ⟨#[]⟩, [], 0⟩ (.slice none 0 0)) 26 (0, 0)) (r := w0.heap.size) (by simp)).trans (heap_alloc_new w0 _)
    rw [e0] at n0
    exact ⟨n1, n0, t0.low b1 (by rw [e0]; exact hpw) hK, f0.next b1⟩
  have HD0 := hide hD0
  have cb : ∀ X : World, X.heap[g]? = w.heap[g]? → X.cell? ⟨g, o, none⟩ = some (.int .u8 11) := fun X hX => by
    have h := hcell 0 (by simp)
    rw [Nat.add_zero] at h
    rw [World.cell?_of_block hX, h]
    show some (Value.int .u8 ((b.toNat : Nat) : Int)) = _
    rw [hb]; rfl
  have hglt : g < w.heap.size := World.block_lt_of_cell? w _ (hcell 0 (by simp))
  have cb1 : W1.cell? ⟨g, o, none⟩ = some (.int .u8 11) := cb W1 (by rw [hW1]; exact Below.heap_alloc w _ g hglt)
  have p0 : W1.cell? ⟨p, 0, none⟩ = some (.slice (some ⟨g, o, none⟩) L cv) := by rw [hL]; exact cell_of hP1.1 0
  have p1 : W.cell? ⟨p, 1, none⟩ = some (.int .i64 0) := cell_of hP2.1 1
  have pf : W.frozen? ⟨p, 1, none⟩ = false := free_of hP2.1 1
  have HHB := hide hb
  have HTT := hide HTB
  have HWZ : Hid (W1.heap.size = w.heap.size + 1) := hz1
  have HW1 := hide hW1
  have HW := hide hW
  rw [hW, hW1] at p1 pf
  rw [hW1] at cb1 p0
  clear hb hp hP1 hP2 hF1 hF2 hD0 hcell cb hL hW hW1 HTB hz1 hglt
  obtain ⟨X0, hX0⟩ : ∃ X0, X0 = ((w.setCell ⟨p, 1, none⟩ (.int .i64 1)).alloc (.cells zrec 26)).alloc (.cells (rcs ⟨11, ⟨#[]⟩, ⟨#[]⟩, ⟨#[]⟩, ⟨#[]⟩, ⟨#[]⟩, ⟨#[]⟩, [], 0⟩ (.slice none 0 0)) 26) := ⟨_, rfl⟩
  rw [← hX0] at HD0
  have c0 : X0.cell? ⟨w.heap.size + 1, 0, none⟩ = some (.int .i64 11) := (HD0.out.boxed hpw (Fr.refl _ _) 0).1
  have g_id : X0.cell? ⟨13, 11, none⟩ = some (.bool false) := (HTT.out X0 HD0.out.fr).t1 11 (by decide)
  have g_us : X0.cell? ⟨18, 11, none⟩ = some (.bool true) := (HTT.out X0 HD0.out.fr).t2 11 (by decide)
  have g_cl : X0.cell? ⟨16, 11, none⟩ = some (.bool true) := (HTT.out X0 HD0.out.fr).t3 11 (by decide)
  have g_rd : X0.cell? ⟨14, 11, none⟩ = some (.bool false) := (HTT.out X0 HD0.out.fr).t4 11 (by decide)
  have g_cd : X0.cell? ⟨15, 11, none⟩ = some (.bool false) := (HTT.out X0 HD0.out.fr).t6 11 (by decide)
  have g_ss : X0.cell? ⟨17, 11, none⟩ = some (.bool false) := (HTT.out X0 HD0.out.fr).t7 11 (by decide)
  have g_at : X0.cell? ⟨19, 11, none⟩ = some (.bool false) := (HTT.out X0 HD0.out.fr).t8 11 (by decide)
  have HX0 := hide hX0
  rw [HX0.out] at c0 g_id g_us g_cl g_rd g_cd g_ss g_at
  clear hX0
  go_enter Tryz.func28, Tryz.ntmps28
  have HT := hide (dtext_any K p _ (b :: r0) 1 false X0 HD0.out.pl hK)
  go_wp2_with fail
  rw [← HX0.out]
  refine HT.out.mono ?_
  rintro x Y1 ⟨y_cl, a1, b1, rfl, hpl, hfr, hy, hon⟩
  have q0 := (HD0.out.boxed hpw hfr 3).1
  have q1 := (HD0.out.boxed hpw hfr 3).2
  have q0 : Y1.cell? ⟨w.heap.size + 1, 3, none⟩ = some (.string ⟨#[]⟩) := q0
  have HD1 := hide (HD0.out.next hpw hK hfr hpl 3 (.string y_cl) ⟨11, ⟨#[]⟩, ⟨#[]⟩, y_cl, ⟨#[]⟩, ⟨#[]⟩, ⟨#[]⟩, [], 0⟩ (.slice none 0 0) rfl)
  have HS1 := hide hon
  have HY_cl := hide hy
  obtain ⟨X1, hX1⟩ : ∃ X, X = Y1.setCell ⟨w.heap.size + 1, 3, none⟩ (.string y_cl) := ⟨_, rfl⟩
  rw [← hX1] at HD1
  clear HT hpl hfr hy hon c0 g_id g_us g_cl g_rd g_cd g_ss g_at
  have c0 : X1.cell? ⟨w.heap.size + 1, 0, none⟩ = some (.int .i64 11) := (HD1.out.boxed hpw (Fr.refl _ _) 0).1
  have g_id : X1.cell? ⟨13, 11, none⟩ = some (.bool false) := (HTT.out X1 HD1.out.fr).t1 11 (by decide)
  have g_us : X1.cell? ⟨18, 11, none⟩ = some (.bool true) := (HTT.out X1 HD1.out.fr).t2 11 (by decide)
  have g_cl : X1.cell? ⟨16, 11, none⟩ = some (.bool true) := (HTT.out X1 HD1.out.fr).t3 11 (by decide)
  have g_rd : X1.cell? ⟨14, 11, none⟩ = some (.bool false) := (HTT.out X1 HD1.out.fr).t4 11 (by decide)
  have g_cd : X1.cell? ⟨15, 11, none⟩ = some (.bool false) := (HTT.out X1 HD1.out.fr).t6 11 (by decide)
  have g_ss : X1.cell? ⟨17, 11, none⟩ = some (.bool false) := (HTT.out X1 HD1.out.fr).t7 11 (by decide)
  have g_at : X1.cell? ⟨19, 11, none⟩ = some (.bool false) := (HTT.out X1 HD1.out.fr).t8 11 (by decide)
  have HX1 := hide hX1
  rw [hX1] at c0 g_id g_us g_cl g_rd g_cd g_ss g_at
  clear hX1
  have HT := hide (dtext_any K p _ (b :: r0) a1 b1 X1 HD1.out.pl hK)
  go_wp2_with fail
  rw [← HX1.out]
  refine HT.out.mono ?_
  rintro x Y2 ⟨y_us, a2, b2, rfl, hpl, hfr, hy, hon⟩
  have q0 := (HD1.out.boxed hpw hfr 2).1
  have q1 := (HD1.out.boxed hpw hfr 2).2
  have q0 : Y2.cell? ⟨w.heap.size + 1, 2, none⟩ = some (.string ⟨#[]⟩) := q0
  have HD2 := hide (HD1.out.next hpw hK hfr hpl 2 (.string y_us) ⟨11, ⟨#[]⟩, y_us, y_cl, ⟨#[]⟩, ⟨#[]⟩, ⟨#[]⟩, [], 0⟩ (.slice none 0 0) rfl)
  have HS2 := hide hon
  have HY_us := hide hy
  obtain ⟨X2, hX2⟩ : ∃ X, X = Y2.setCell ⟨w.heap.size + 1, 2, none⟩ (.string y_us) := ⟨_, rfl⟩
  rw [← hX2] at HD2
  clear HT hpl hfr hy hon c0 g_id g_us g_cl g_rd g_cd g_ss g_at
  have c0 : X2.cell? ⟨w.heap.size + 1, 0, none⟩ = some (.int .i64 11) := (HD2.out.boxed hpw (Fr.refl _ _) 0).1
  have g_id : X2.cell? ⟨13, 11, none⟩ = some (.bool false) := (HTT.out X2 HD2.out.fr).t1 11 (by decide)
  have g_us : X2.cell? ⟨18, 11, none⟩ = some (.bool true) := (HTT.out X2 HD2.out.fr).t2 11 (by decide)
  have g_cl : X2.cell? ⟨16, 11, none⟩ = some (.bool true) := (HTT.out X2 HD2.out.fr).t3 11 (by decide)
  have g_rd : X2.cell? ⟨14, 11, none⟩ = some (.bool false) := (HTT.out X2 HD2.out.fr).t4 11 (by decide)
  have g_cd : X2.cell? ⟨15, 11, none⟩ = some (.bool false) := (HTT.out X2 HD2.out.fr).t6 11 (by decide)
  have g_ss : X2.cell? ⟨17, 11, none⟩ = some (.bool false) := (HTT.out X2 HD2.out.fr).t7 11 (by decide)
  have g_at : X2.cell? ⟨19, 11, none⟩ = some (.bool false) := (HTT.out X2 HD2.out.fr).t8 11 (by decide)
  have HX2 := hide hX2
  rw [hX2] at c0 g_id g_us g_cl g_rd g_cd g_ss g_at
  clear hX2
  have HRG : Hid (X2.rangeAt (w.heap.size + 1) 0 (rcl9 ⟨11, ⟨#[]⟩, y_us, y_cl, ⟨#[]⟩, ⟨#[]⟩, ⟨#[]⟩, [], 0⟩ (.slice none 0 0))) := range_of (t := 26) HD2.out.box
  have HTZ : Hid (X2.there w.heap.size 0 9) := there_of (cur := zrec.toList) HD2.out.out 0 9 (by simp)
  rw [HX2.out] at HRG HTZ
  go_wp2_with (first
    | (refine wpList_load_mid rfl 26 (.tmp 3) rfl (w.heap.size + 1) 0 rfl _ _ HRG.out Tryz.underlying26 rfl sizeRec ?_)
    | (refine wpList_store_mid rfl 26 (.tmp 2) (.tmp 86) rfl w.heap.size 0 (rcs ⟨11, ⟨#[]⟩, y_us, y_cl, ⟨#[]⟩, ⟨#[]⟩, ⟨#[]⟩, [], 0⟩ (.slice none 0 0)) rfl rfl HTZ.out sizeRec (rcs_one _ _ _ _) ?_))
  refine bodyPost_ret (results_c rfl _ rfl (World.rangeAt_setCells_same _ w.heap.size 0 (rcs ⟨11, ⟨#[]⟩, y_us, y_cl, ⟨#[]⟩, ⟨#[]⟩, ⟨#[]⟩, [], 0⟩ (.slice none 0 0)).toList HTZ.out) Tryz.underlying26 rfl sizeRec) rfl ?_
  rw [← HX2.out]
  unfold DrOut
  exact ⟨⟨11, ⟨#[]⟩, y_us, y_cl, ⟨#[]⟩, ⟨#[]⟩, ⟨#[]⟩, [], 0⟩, .slice none 0 0, a2, b2, rfl, (HD2.out.fin hpw hK _).1, (HD2.out.fin hpw hK _).2, World.ownsRow_nil _ _ _ _, ⟨⟨e_low, HY_us.out, HY_cl.out, e_low, e_low, e_low, fun s hs => (by cases hs)⟩, Nat.zero_le _⟩, fun y hm hl e => (by have h := find_11 HHB.out HS1.out HS2.out y hm hl e; exact ⟨h.1, st_end h.2⟩)⟩
end Go.Proofs.YtimbhneegphhbaaGreatDoor.rc
