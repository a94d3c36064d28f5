import Derived.Test.YtimbhneegphhbaaGreatDoorRcDq
namespace Go.Proofs.YtimbhneegphhbaaGreatDoor.rc
open Go.ChangeShapes Go.WideShapes Go.ChangeAt Go.RowKit Go.Proofs.YtimbhneegphhbaaGreatDoor.common Go.Proofs.YtimbhneegphhbaaGreatDoor.dk

set_option maxRecDepth 100000 in
set_option maxHeartbeats 25600000 in
theorem drec_0 (K p : Nat) (v : Value) (b : UInt8) (r0 : List UInt8) (w : World) (hb : b.toNat = 0) (hp : Pl K p v (b :: r0) w 0 false) (HTB : ∀ X, Fr [p] w X → HTab X) (hK : K ≤ p) :
    Calls Tryz.prog 28 #[.pointer (some ⟨p, 0, none⟩)] w (DrOut K p v (b :: r0) w) := by
  have hpw : p < w.heap.size := (Array.getElem?_eq_some_iff.1 hp.1).1
  obtain ⟨ov, cv, hvv⟩ : ∃ ov cv, v = .slice ov (b :: r0).length cv := by obtain ⟨x, y, h, _⟩ := hp.2.1; exact ⟨x, y, h⟩
  obtain ⟨g, o, hov, hcell⟩ := Rd.cell (oa := ov) (c := cv) (by rw [← hvv]; exact hp.2.1.rd) (by simp)
  subst hvv hov
  obtain ⟨L, hL⟩ : ∃ L, L = (b :: r0).length := ⟨_, rfl⟩
  have hL0 : ¬ (L : Int) = 0 := by rw [hL, List.length_cons]; omega
  have hL0b : ((L : Int) == 0) = false := beq_false_of_ne hL0
  have hL1 : (0 : Int) < (L : Int) := by rw [hL, List.length_cons]; omega
  obtain ⟨W1, hW1⟩ : ∃ W1, W1 = w.alloc (.cells zrec 26) := ⟨_, rfl⟩
  obtain ⟨W, hW⟩ : ∃ W, W = W1.alloc (.cells (rcs ⟨0, ⟨#[]⟩, ⟨#[]⟩, ⟨#[]⟩, ⟨#[]⟩, ⟨#[]⟩, ⟨#[]⟩, [], 0⟩ (.slice none 0 0)) 26) := ⟨_, rfl⟩
  have hF1 : Fr [p] w W1 := by rw [hW1]; exact ⟨rfl, rfl, rfl, by simp, fun k hk _ => Below.heap_alloc w _ k hk⟩
  have hF2 : Fr [p] W1 W := by rw [hW]; exact ⟨rfl, rfl, rfl, by simp, fun k hk _ => Below.heap_alloc W1 _ k hk⟩
  have hz1 : W1.heap.size = w.heap.size + 1 := by rw [hW1]; simp
  have hP1 : Pl K p (.slice (some ⟨g, o, none⟩) (b :: r0).length cv) (b :: r0) W1 0 false := ⟨by rw [hW1]; exact (Below.heap_alloc w _ p hpw).trans hp.1, hp.2.1.keep (fun g _ hs => by rw [hW1]; exact Below.heap_alloc w _ g hs) hF1.size, hp.2.2⟩
  have hP2 : Pl K p (.slice (some ⟨g, o, none⟩) (b :: r0).length cv) (b :: r0) W 0 false := ⟨by rw [hW]; exact (Below.heap_alloc W1 _ p (by omega)).trans hP1.1, hP1.2.1.keep (fun g _ hs => by rw [hW]; exact Below.heap_alloc W1 _ g hs) hF2.size, hP1.2.2⟩
  have hD0 : Dq K p (.slice (some ⟨g, o, none⟩) (b :: r0).length cv) (b :: r0) w ⟨0, ⟨#[]⟩, ⟨#[]⟩, ⟨#[]⟩, ⟨#[]⟩, ⟨#[]⟩, ⟨#[]⟩, [], 0⟩ (.slice none 0 0) 1 false (((w.setCell ⟨p, 1, none⟩ (.int .i64 1)).alloc (.cells zrec 26)).alloc (.cells (rcs ⟨0, ⟨#[]⟩, ⟨#[]⟩, ⟨#[]⟩, ⟨#[]⟩, ⟨#[]⟩, ⟨#[]⟩, [], 0⟩ (.slice none 0 0)) 26)) := by
    have e0 : (w.setCell ⟨p, 1, none⟩ (.int .i64 1)).heap.size = w.heap.size := size_set _ _ _
    have t0 := hp.to hK 1 (by simp)
    have f0 := fr_sets (Fr.refl [p] w) 1 (.int .i64 1)
    have t0 : Pl K p (.slice (some ⟨g, o, none⟩) (b :: r0).length cv) (b :: r0) (w.setCell ⟨p, 1, none⟩ (.int .i64 1)) 1 false := t0
    generalize w.setCell ⟨p, 1, none⟩ (.int .i64 1) = w0 at *
    have b1 : Below w0.heap.size w0 ((w0.alloc (.cells zrec 26)).alloc (.cells (rcs ⟨0, ⟨#[]⟩, ⟨#[]⟩, ⟨#[]⟩, ⟨#[]⟩, ⟨#[]⟩, ⟨#[]⟩, [], 0⟩ (.slice none 0 0)) 26)) := ((Below.refl _ _).alloc (Nat.le_refl _) _).alloc (by simp) _
    have n1 := heap_alloc_new (w0.alloc (.cells zrec 26)) (.cells (rcs ⟨0, ⟨#[]⟩, ⟨#[]⟩, ⟨#[]⟩, ⟨#[]⟩, ⟨#[]⟩, ⟨#[]⟩, [], 0⟩ (.slice none 0 0)) 26 (0, 0))
    rw [World.size_alloc, e0] at n1
    have n0 := (heap_alloc_old (w0.alloc (.cells zrec 26)) (.cells (rcs ⟨0, ⟨#[]⟩, ⟨#[]⟩, ⟨#[]⟩, ⟨#[]⟩, ⟨#[]⟩, ⟨#[]⟩, [], 0⟩ (.slice none 0 0)) 26 (0, 0)) (r := w0.heap.size) (by simp)).trans (heap_alloc_new w0 _)
    rw [e0] at n0
    exact ⟨n1, n0, t0.low b1 (by rw [e0]; exact hpw) hK, f0.next b1⟩
  have HD0 := hide hD0
  have cb : ∀ X : World, X.heap[g]? = w.heap[g]? → X.cell? ⟨g, o, none⟩ = some (.int .u8 0) := fun X hX => by
    have h := hcell 0 (by simp)
    rw [Nat.add_zero] at h
    rw [World.cell?_of_block hX, h]
    show some (Value.int .u8 ((b.toNat : Nat) : Int)) = _
    rw [hb]; rfl
  have hglt : g < w.heap.size := World.block_lt_of_cell? w _ (hcell 0 (by simp))
  have cb1 : W1.cell? ⟨g, o, none⟩ = some (.int .u8 0) := cb W1 (by rw [hW1]; exact Below.heap_alloc w _ g hglt)
  have p0 : W1.cell? ⟨p, 0, none⟩ = some (.slice (some ⟨g, o, none⟩) L cv) := by rw [hL]; exact cell_of hP1.1 0
  have p1 : W.cell? ⟨p, 1, none⟩ = some (.int .i64 0) := cell_of hP2.1 1
  have pf : W.frozen? ⟨p, 1, none⟩ = false := free_of hP2.1 1
  have HHB := hide hb
  have HTT := hide HTB
  have HWZ : Hid (W1.heap.size = w.heap.size + 1) := hz1
  have HW1 := hide hW1
  have HW := hide hW
  rw [hW, hW1] at p1 pf
  rw [hW1] at cb1 p0
  clear hb hp hP1 hP2 hF1 hF2 hD0 hcell cb hL hW hW1 HTB hz1 hglt
  obtain ⟨X0, hX0⟩ : ∃ X0, X0 = ((w.setCell ⟨p, 1, none⟩ (.int .i64 1)).alloc (.cells zrec 26)).alloc (.cells (rcs ⟨0, ⟨#[]⟩, ⟨#[]⟩, ⟨#[]⟩, ⟨#[]⟩, ⟨#[]⟩, ⟨#[]⟩, [], 0⟩ (.slice none 0 0)) 26) := ⟨_, rfl⟩
  rw [← hX0] at HD0
  have c0 : X0.cell? ⟨w.heap.size + 1, 0, none⟩ = some (.int .i64 0) := (HD0.out.boxed hpw (Fr.refl _ _) 0).1
  have g_id : X0.cell? ⟨13, 0, none⟩ = some (.bool false) := (HTT.out X0 HD0.out.fr).t1 0 (by decide)
  have g_us : X0.cell? ⟨18, 0, none⟩ = some (.bool false) := (HTT.out X0 HD0.out.fr).t2 0 (by decide)
  have g_cl : X0.cell? ⟨16, 0, none⟩ = some (.bool false) := (HTT.out X0 HD0.out.fr).t3 0 (by decide)
  have g_rd : X0.cell? ⟨14, 0, none⟩ = some (.bool false) := (HTT.out X0 HD0.out.fr).t4 0 (by decide)
  have g_cd : X0.cell? ⟨15, 0, none⟩ = some (.bool false) := (HTT.out X0 HD0.out.fr).t6 0 (by decide)
  have g_ss : X0.cell? ⟨17, 0, none⟩ = some (.bool false) := (HTT.out X0 HD0.out.fr).t7 0 (by decide)
  have g_at : X0.cell? ⟨19, 0, none⟩ = some (.bool false) := (HTT.out X0 HD0.out.fr).t8 0 (by decide)
  have HX0 := hide hX0
  rw [HX0.out] at c0 g_id g_us g_cl g_rd g_cd g_ss g_at
  clear hX0
  go_enter Tryz.func28, Tryz.ntmps28
  have HRG : Hid (X0.rangeAt (w.heap.size + 1) 0 (rcl9 ⟨0, ⟨#[]⟩, ⟨#[]⟩, ⟨#[]⟩, ⟨#[]⟩, ⟨#[]⟩, ⟨#[]⟩, [], 0⟩ (.slice none 0 0))) := range_of (t := 26) HD0.out.box
  have HTZ : Hid (X0.there w.heap.size 0 9) := there_of (cur := zrec.toList) HD0.out.out 0 9 (by simp)
  rw [HX0.out] at HRG HTZ
  go_wp2_with (first
    | (refine wpList_load_mid rfl 26 (.tmp 3) rfl (w.heap.size + 1) 0 rfl _ _ HRG.out Tryz.underlying26 rfl sizeRec ?_)
    | (refine wpList_store_mid rfl 26 (.tmp 2) (.tmp 86) rfl w.heap.size 0 (rcs ⟨0, ⟨#[]⟩, ⟨#[]⟩, ⟨#[]⟩, ⟨#[]⟩, ⟨#[]⟩, ⟨#[]⟩, [], 0⟩ (.slice none 0 0)) rfl rfl HTZ.out sizeRec (rcs_one _ _ _ _) ?_))
  refine bodyPost_ret (results_c rfl _ rfl (World.rangeAt_setCells_same _ w.heap.size 0 (rcs ⟨0, ⟨#[]⟩, ⟨#[]⟩, ⟨#[]⟩, ⟨#[]⟩, ⟨#[]⟩, ⟨#[]⟩, [], 0⟩ (.slice none 0 0)).toList HTZ.out) Tryz.underlying26 rfl sizeRec) rfl ?_
  rw [← HX0.out]
  unfold DrOut
  exact ⟨⟨0, ⟨#[]⟩, ⟨#[]⟩, ⟨#[]⟩, ⟨#[]⟩, ⟨#[]⟩, ⟨#[]⟩, [], 0⟩, .slice none 0 0, 1, false, rfl, (HD0.out.fin hpw hK _).1, (HD0.out.fin hpw hK _).2, World.ownsRow_nil _ _ _ _, ⟨⟨e_low, e_low, e_low, e_low, e_low, e_low, fun s hs => (by cases hs)⟩, Nat.zero_le _⟩, fun y hm _ e => (by have h := kind_of hm e; rw [HHB.out] at h; exact absurd h.2.1 (by have := h.1; omega))⟩

set_option maxRecDepth 100000 in
set_option maxHeartbeats 25600000 in
theorem drec_2 (K p : Nat) (v : Value) (b : UInt8) (r0 : List UInt8) (w : World) (hb : b.toNat = 2) (hp : Pl K p v (b :: r0) w 0 false) (HTB : ∀ X, Fr [p] w X → HTab X) (hK : K ≤ p) :
    Calls Tryz.prog 28 #[.pointer (some ⟨p, 0, none⟩)] w (DrOut K p v (b :: r0) w) := by
  have hpw : p < w.heap.size := (Array.getElem?_eq_some_iff.1 hp.1).1
  obtain ⟨ov, cv, hvv⟩ : ∃ ov cv, v = .slice ov (b :: r0).length cv := by obtain ⟨x, y, h, _⟩ := hp.2.1; exact ⟨x, y, h⟩
  obtain ⟨g, o, hov, hcell⟩ := Rd.cell (oa := ov) (c := cv) (by rw [← hvv]; exact hp.2.1.rd) (by simp)
  subst hvv hov
  obtain ⟨L, hL⟩ : ∃ L, L = (b :: r0).length := ⟨_, rfl⟩
  have hL0 : ¬ (L : Int) = 0 := by rw [hL, List.length_cons]; omega
  have hL0b : ((L : Int) == 0) = false := beq_false_of_ne hL0
  have hL1 : (0 : Int) < (L : Int) := by rw [hL, List.length_cons]; omega
  obtain ⟨W1, hW1⟩ : ∃ W1, W1 = w.alloc (.cells zrec 26) := ⟨_, rfl⟩
  obtain ⟨W, hW⟩ : ∃ W, W = W1.alloc (.cells (rcs ⟨2, ⟨#[]⟩, ⟨#[]⟩, ⟨#[]⟩, ⟨#[]⟩, ⟨#[]⟩, ⟨#[]⟩, [], 0⟩ (.slice none 0 0)) 26) := ⟨_, rfl⟩
  have hF1 : Fr [p] w W1 := by rw [hW1]; exact ⟨rfl, rfl, rfl, by simp, fun k hk _ => Below.heap_alloc w _ k hk⟩
  have hF2 : Fr [p] W1 W := by rw [hW]; exact ⟨rfl, rfl, rfl, by simp, fun k hk _ => Below.heap_alloc W1 _ k hk⟩
  have hz1 : W1.heap.size = w.heap.size + 1 := by rw [hW1]; simp
  have hP1 : Pl K p (.slice (some ⟨g, o, none⟩) (b :: r0).length cv) (b :: r0) W1 0 false := ⟨by rw [hW1]; exact (Below.heap_alloc w _ p hpw).trans hp.1, hp.2.1.keep (fun g _ hs => by rw [hW1]; exact Below.heap_alloc w _ g hs) hF1.size, hp.2.2⟩
  have hP2 : Pl K p (.slice (some ⟨g, o, none⟩) (b :: r0).length cv) (b :: r0) W 0 false := ⟨by rw [hW]; exact (Below.heap_alloc W1 _ p (by omega)).trans hP1.1, hP1.2.1.keep (fun g _ hs => by rw [hW]; exact Below.heap_alloc W1 _ g hs) hF2.size, hP1.2.2⟩
  have hD0 : Dq K p (.slice (some ⟨g, o, none⟩) (b :: r0).length cv) (b :: r0) w ⟨2, ⟨#[]⟩, ⟨#[]⟩, ⟨#[]⟩, ⟨#[]⟩, ⟨#[]⟩, ⟨#[]⟩, [], 0⟩ (.slice none 0 0) 1 false (((w.setCell ⟨p, 1, none⟩ (.int .i64 1)).alloc (.cells zrec 26)).alloc (.cells (rcs ⟨2, ⟨#[]⟩, ⟨#[]⟩, ⟨#[]⟩, ⟨#[]⟩, ⟨#[]⟩, ⟨#[]⟩, [], 0⟩ (.slice none 0 0)) 26)) := by
    have e0 : (w.setCell ⟨p, 1, none⟩ (.int .i64 1)).heap.size = w.heap.size := size_set _ _ _
    have t0 := hp.to hK 1 (by simp)
    have f0 := fr_sets (Fr.refl [p] w) 1 (.int .i64 1)
    have t0 : Pl K p (.slice (some ⟨g, o, none⟩) (b :: r0).length cv) (b :: r0) (w.setCell ⟨p, 1, none⟩ (.int .i64 1)) 1 false := t0
    generalize w.setCell ⟨p, 1, none⟩ (.int .i64 1) = w0 at *
    have b1 : Below w0.heap.size w0 ((w0.alloc (.cells zrec 26)).alloc (.cells (rcs ⟨2, ⟨#[]⟩, ⟨#[]⟩, ⟨#[]⟩, ⟨#[]⟩, ⟨#[]⟩, ⟨#[]⟩, [], 0⟩ (.slice none 0 0)) 26)) := ((Below.refl _ _).alloc (Nat.le_refl _) _).alloc (by simp) _
    have n1 := heap_alloc_new (w0.alloc (.cells zrec 26)) (.cells (rcs ⟨2, ⟨#[]⟩, ⟨#[]⟩, ⟨#[]⟩, ⟨#[]⟩, ⟨#[]⟩, ⟨#[]⟩, [], 0⟩ (.slice none 0 0)) 26 (0, 0))
    rw [World.size_alloc, e0] at n1
    have n0 := (heap_alloc_old (w0.alloc (.cells zrec 26)) (.cells (rcs ⟨2, ⟨#[]⟩, ⟨#[]⟩, ⟨#[]⟩, ⟨#[]⟩, ⟨#[]⟩, ⟨#[]⟩, [], 0⟩ (.slice none 0 0)) 26 (0, 0)) (r := w0.heap.size) (by simp)).trans (heap_alloc_new w0 _)
    rw [e0] at n0
    exact ⟨n1, n0, t0.low b1 (by rw [e0]; exact hpw) hK, f0.next b1⟩
  have HD0 := hide hD0
  have cb : ∀ X : World, X.heap[g]? = w.heap[g]? → X.cell? ⟨g, o, none⟩ = some (.int .u8 2) := fun X hX => by
    have h := hcell 0 (by simp)
    rw [Nat.add_zero] at h
    rw [World.cell?_of_block hX, h]
    show some (Value.int .u8 ((b.toNat : Nat) : Int)) = _
    rw [hb]; rfl
  have hglt : g < w.heap.size := World.block_lt_of_cell? w _ (hcell 0 (by simp))
  have cb1 : W1.cell? ⟨g, o, none⟩ = some (.int .u8 2) := cb W1 (by rw [hW1]; exact Below.heap_alloc w _ g hglt)
  have p0 : W1.cell? ⟨p, 0, none⟩ = some (.slice (some ⟨g, o, none⟩) L cv) := by rw [hL]; exact cell_of hP1.1 0
  have p1 : W.cell? ⟨p, 1, none⟩ = some (.int .i64 0) := cell_of hP2.1 1
  have pf : W.frozen? ⟨p, 1, none⟩ = false := free_of hP2.1 1
  have HHB := hide hb
  have HTT := hide HTB
  have HWZ : Hid (W1.heap.size = w.heap.size + 1) := hz1
  have HW1 := hide hW1
  have HW := hide hW
  rw [hW, hW1] at p1 pf
  rw [hW1] at cb1 p0
  clear hb hp hP1 hP2 hF1 hF2 hD0 hcell cb hL hW hW1 HTB hz1 hglt
  obtain ⟨X0, hX0⟩ : ∃ X0, X0 = ((w.setCell ⟨p, 1, none⟩ (.int .i64 1)).alloc (.cells zrec 26)).alloc (.cells (rcs ⟨2, ⟨#[]⟩, ⟨#[]⟩, ⟨#[]⟩, ⟨#[]⟩, ⟨#[]⟩, ⟨#[]⟩, [], 0⟩ (.slice none 0 0)) 26) := ⟨_, rfl⟩
  rw [← hX0] at HD0
  have c0 : X0.cell? ⟨w.heap.size + 1, 0, none⟩ = some (.int .i64 2) := (HD0.out.boxed hpw (Fr.refl _ _) 0).1
  have g_id : X0.cell? ⟨13, 2, none⟩ = some (.bool true) := (HTT.out X0 HD0.out.fr).t1 2 (by decide)
  have g_us : X0.cell? ⟨18, 2, none⟩ = some (.bool false) := (HTT.out X0 HD0.out.fr).t2 2 (by decide)
  have g_cl : X0.cell? ⟨16, 2, none⟩ = some (.bool false) := (HTT.out X0 HD0.out.fr).t3 2 (by decide)
  have g_rd : X0.cell? ⟨14, 2, none⟩ = some (.bool false) := (HTT.out X0 HD0.out.fr).t4 2 (by decide)
  have g_cd : X0.cell? ⟨15, 2, none⟩ = some (.bool false) := (HTT.out X0 HD0.out.fr).t6 2 (by decide)
  have g_ss : X0.cell? ⟨17, 2, none⟩ = some (.bool false) := (HTT.out X0 HD0.out.fr).t7 2 (by decide)
  have g_at : X0.cell? ⟨19, 2, none⟩ = some (.bool false) := (HTT.out X0 HD0.out.fr).t8 2 (by decide)
  have HX0 := hide hX0
  rw [HX0.out] at c0 g_id g_us g_cl g_rd g_cd g_ss g_at
  clear hX0
  go_enter Tryz.func28, Tryz.ntmps28
  have HT := hide (dtext_any K p _ (b :: r0) 1 false X0 HD0.out.pl hK)
  go_wp2_with fail
  rw [← HX0.out]
  refine HT.out.mono ?_
  rintro x Y1 ⟨y_id, a1, b1, rfl, hpl, hfr, hy, hon⟩
  have q0 := (HD0.out.boxed hpw hfr 1).1
  have q1 := (HD0.out.boxed hpw hfr 1).2
  have q0 : Y1.cell? ⟨w.heap.size + 1, 1, none⟩ = some (.string ⟨#[]⟩) := q0
  have HD1 := hide (HD0.out.next hpw hK hfr hpl 1 (.string y_id) ⟨2, y_id, ⟨#[]⟩, ⟨#[]⟩, ⟨#[]⟩, ⟨#[]⟩, ⟨#[]⟩, [], 0⟩ (.slice none 0 0) rfl)
  have HS1 := hide hon
  have HY_id := hide hy
  obtain ⟨X1, hX1⟩ : ∃ X, X = Y1.setCell ⟨w.heap.size + 1, 1, none⟩ (.string y_id) := ⟨_, rfl⟩
  rw [← hX1] at HD1
  clear HT hpl hfr hy hon c0 g_id g_us g_cl g_rd g_cd g_ss g_at
  have c0 : X1.cell? ⟨w.heap.size + 1, 0, none⟩ = some (.int .i64 2) := (HD1.out.boxed hpw (Fr.refl _ _) 0).1
  have g_id : X1.cell? ⟨13, 2, none⟩ = some (.bool true) := (HTT.out X1 HD1.out.fr).t1 2 (by decide)
  have g_us : X1.cell? ⟨18, 2, none⟩ = some (.bool false) := (HTT.out X1 HD1.out.fr).t2 2 (by decide)
  have g_cl : X1.cell? ⟨16, 2, none⟩ = some (.bool false) := (HTT.out X1 HD1.out.fr).t3 2 (by decide)
  have g_rd : X1.cell? ⟨14, 2, none⟩ = some (.bool false) := (HTT.out X1 HD1.out.fr).t4 2 (by decide)
  have g_cd : X1.cell? ⟨15, 2, none⟩ = some (.bool false) := (HTT.out X1 HD1.out.fr).t6 2 (by decide)
  have g_ss : X1.cell? ⟨17, 2, none⟩ = some (.bool false) := (HTT.out X1 HD1.out.fr).t7 2 (by decide)
  have g_at : X1.cell? ⟨19, 2, none⟩ = some (.bool false) := (HTT.out X1 HD1.out.fr).t8 2 (by decide)
  have HX1 := hide hX1
  rw [hX1] at c0 g_id g_us g_cl g_rd g_cd g_ss g_at
  clear hX1
  have HRG : Hid (X1.rangeAt (w.heap.size + 1) 0 (rcl9 ⟨2, y_id, ⟨#[]⟩, ⟨#[]⟩, ⟨#[]⟩, ⟨#[]⟩, ⟨#[]⟩, [], 0⟩ (.slice none 0 0))) := range_of (t := 26) HD1.out.box
  have HTZ : Hid (X1.there w.heap.size 0 9) := there_of (cur := zrec.toList) HD1.out.out 0 9 (by simp)
  rw [HX1.out] at HRG HTZ
  go_wp2_with (first
    | (refine wpList_load_mid rfl 26 (.tmp 3) rfl (w.heap.size + 1) 0 rfl _ _ HRG.out Tryz.underlying26 rfl sizeRec ?_)
    | (refine wpList_store_mid rfl 26 (.tmp 2) (.tmp 86) rfl w.heap.size 0 (rcs ⟨2, y_id, ⟨#[]⟩, ⟨#[]⟩, ⟨#[]⟩, ⟨#[]⟩, ⟨#[]⟩, [], 0⟩ (.slice none 0 0)) rfl rfl HTZ.out sizeRec (rcs_one _ _ _ _) ?_))
  refine bodyPost_ret (results_c rfl _ rfl (World.rangeAt_setCells_same _ w.heap.size 0 (rcs ⟨2, y_id, ⟨#[]⟩, ⟨#[]⟩, ⟨#[]⟩, ⟨#[]⟩, ⟨#[]⟩, [], 0⟩ (.slice none 0 0)).toList HTZ.out) Tryz.underlying26 rfl sizeRec) rfl ?_
  rw [← HX1.out]
  unfold DrOut
  exact ⟨⟨2, y_id, ⟨#[]⟩, ⟨#[]⟩, ⟨#[]⟩, ⟨#[]⟩, ⟨#[]⟩, [], 0⟩, .slice none 0 0, a1, b1, rfl, (HD1.out.fin hpw hK _).1, (HD1.out.fin hpw hK _).2, World.ownsRow_nil _ _ _ _, ⟨⟨HY_id.out, e_low, e_low, e_low, e_low, e_low, fun s hs => (by cases hs)⟩, Nat.zero_le _⟩, fun y hm hl e => (by have h := find_2 HHB.out HS1.out y hm hl e; exact ⟨h.1, st_end h.2⟩)⟩

set_option maxRecDepth 100000 in
set_option maxHeartbeats 25600000 in
theorem drec_5 (K p : Nat) (v : Value) (b : UInt8) (r0 : List UInt8) (w : World) (hb : b.toNat = 5) (hp : Pl K p v (b :: r0) w 0 false) (HTB : ∀ X, Fr [p] w X → HTab X) (hK : K ≤ p) :
    Calls Tryz.prog 28 #[.pointer (some ⟨p, 0, none⟩)] w (DrOut K p v (b :: r0) w) := by
  have hpw : p < w.heap.size := (Array.getElem?_eq_some_iff.1 hp.1).1
  obtain ⟨ov, cv, hvv⟩ : ∃ ov cv, v = .slice ov (b :: r0).length cv := by obtain ⟨x, y, h, _⟩ := hp.2.1; exact ⟨x, y, h⟩
  obtain ⟨g, o, hov, hcell⟩ := Rd.cell (oa := ov) (c := cv) (by rw [← hvv]; exact hp.2.1.rd) (by simp)
  subst hvv hov
  obtain ⟨L, hL⟩ : ∃ L, L = (b :: r0).length := ⟨_, rfl⟩
  have hL0 : ¬ (L : Int) = 0 := by rw [hL, List.length_cons]; omega
  have hL0b : ((L : Int) == 0) = false := beq_false_of_ne hL0
  have hL1 : (0 : Int) < (L : Int) := by rw [hL, List.length_cons]; omega
  obtain ⟨W1, hW1⟩ : ∃ W1, W1 = w.alloc (.cells zrec 26) := ⟨_, rfl⟩
  obtain ⟨W, hW⟩ : ∃ W, W = W1.alloc (.cells (rcs ⟨5, ⟨#[]⟩, ⟨#[]⟩, ⟨#[]⟩, ⟨#[]⟩, ⟨#[]⟩, ⟨#[]⟩, [], 0⟩ (.slice none 0 0)) 26) := ⟨_, rfl⟩
  have hF1 : Fr [p] w W1 := by rw [hW1]; exact ⟨rfl, rfl, rfl, by simp, fun k hk _ => Below.heap_alloc w _ k hk⟩
  have hF2 : Fr [p] W1 W := by rw [hW]; exact ⟨rfl, rfl, rfl, by simp, fun k hk _ => Below.heap_alloc W1 _ k hk⟩
  have hz1 : W1.heap.size = w.heap.size + 1 := by rw [hW1]; simp
  have hP1 : Pl K p (.slice (some ⟨g, o, none⟩) (b :: r0).length cv) (b :: r0) W1 0 false := ⟨by rw [hW1]; exact (Below.heap_alloc w _ p hpw).trans hp.1, hp.2.1.keep (fun g _ hs => by rw [hW1]; exact Below.heap_alloc w _ g hs) hF1.size, hp.2.2⟩
  have hP2 : Pl K p (.slice (some ⟨g, o, none⟩) (b :: r0).length cv) (b :: r0) W 0 false := ⟨by rw [hW]; exact (Below.heap_alloc W1 _ p (by omega)).trans hP1.1, hP1.2.1.keep (fun g _ hs => by rw [hW]; exact Below.heap_alloc W1 _ g hs) hF2.size, hP1.2.2⟩
  have hD0 : Dq K p (.slice (some ⟨g, o, none⟩) (b :: r0).length cv) (b :: r0) w ⟨5, ⟨#[]⟩, ⟨#[]⟩, ⟨#[]⟩, ⟨#[]⟩, ⟨#[]⟩, ⟨#[]⟩, [], 0⟩ (.slice none 0 0) 1 false (((w.setCell ⟨p, 1, none⟩ (.int .i64 1)).alloc (.cells zrec 26)).alloc (.cells (rcs ⟨5, ⟨#[]⟩, ⟨#[]⟩, ⟨#[]⟩, ⟨#[]⟩, ⟨#[]⟩, ⟨#[]⟩, [], 0⟩ (.slice none 0 0)) 26)) := by
    have e0 : (w.setCell ⟨p, 1, none⟩ (.int .i64 1)).heap.size = w.heap.size := size_set _ _ _
    have t0 := hp.to hK 1 (by simp)
    have f0 := fr_sets (Fr.refl [p] w) 1 (.int .i64 1)
    have t0 : Pl K p (.slice (some ⟨g, o, none⟩) (b :: r0).length cv) (b :: r0) (w.setCell ⟨p, 1, none⟩ (.int .i64 1)) 1 false := t0
    generalize w.setCell ⟨p, 1, none⟩ (.int .i64 1) = w0 at *
    have b1 : Below w0.heap.size w0 ((w0.alloc (.cells zrec 26)).alloc (.cells (rcs ⟨5, ⟨#[]⟩, ⟨#[]⟩, ⟨#[]⟩, ⟨#[]⟩, ⟨#[]⟩, ⟨#[]⟩, [], 0⟩ (.slice none 0 0)) 26)) := ((Below.refl _ _).alloc (Nat.le_refl _) _).alloc (by simp) _
    have n1 := heap_alloc_new (w0.alloc (.cells zrec 26)) (.cells (rcs ⟨5, ⟨#[]⟩, ⟨#[]⟩, ⟨#[]⟩, ⟨#[]⟩, ⟨#[]⟩, ⟨#[]⟩, [], 0⟩ (.slice none 0 0)) 26 (0, 0))
    rw [World.size_alloc, e0] at n1
    have n0 := (heap_alloc_old (w0.alloc (.cells zrec 26)) (.cells (rcs ⟨5, ⟨#[]⟩, ⟨#[]⟩, ⟨#[]⟩, ⟨#[]⟩, ⟨#[]⟩, ⟨#[]⟩, [], 0⟩ (.slice none 0 0)) 26 (0, 0)) (r := w0.heap.size) (by simp)).trans (heap_alloc_new w0 _)
    rw [e0] at n0
    exact ⟨n1, n0, t0.low b1 (by rw [e0]; exact hpw) hK, f0.next b1⟩
  have HD0 := hide hD0
  have cb : ∀ X : World, X.heap[g]? = w.heap[g]? → X.cell? ⟨g, o, none⟩ = some (.int .u8 5) := fun X hX => by
    have h := hcell 0 (by simp)
    rw [Nat.add_zero] at h
    rw [World.cell?_of_block hX, h]
    show some (Value.int .u8 ((b.toNat : Nat) : Int)) = _
    rw [hb]; rfl
  have hglt : g < w.heap.size := World.block_lt_of_cell? w _ (hcell 0 (by simp))
  have cb1 : W1.cell? ⟨g, o, none⟩ = some (.int .u8 5) := cb W1 (by rw [hW1]; exact Below.heap_alloc w _ g hglt)
  have p0 : W1.cell? ⟨p, 0, none⟩ = some (.slice (some ⟨g, o, none⟩) L cv) := by rw [hL]; exact cell_of hP1.1 0
  have p1 : W.cell? ⟨p, 1, none⟩ = some (.int .i64 0) := cell_of hP2.1 1
  have pf : W.frozen? ⟨p, 1, none⟩ = false := free_of hP2.1 1
  have HHB := hide hb
  have HTT := hide HTB
  have HWZ : Hid (W1.heap.size = w.heap.size + 1) := hz1
  have HW1 := hide hW1
  have HW := hide hW
  rw [hW, hW1] at p1 pf
  rw [hW1] at cb1 p0
  clear hb hp hP1 hP2 hF1 hF2 hD0 hcell cb hL hW hW1 HTB hz1 hglt
  obtain ⟨X0, hX0⟩ : ∃ X0, X0 = ((w.setCell ⟨p, 1, none⟩ (.int .i64 1)).alloc (.cells zrec 26)).alloc (.cells (rcs ⟨5, ⟨#[]⟩, ⟨#[]⟩, ⟨#[]⟩, ⟨#[]⟩, ⟨#[]⟩, ⟨#[]⟩, [], 0⟩ (.slice none 0 0)) 26) := ⟨_, rfl⟩
  rw [← hX0] at HD0
  have c0 : X0.cell? ⟨w.heap.size + 1, 0, none⟩ = some (.int .i64 5) := (HD0.out.boxed hpw (Fr.refl _ _) 0).1
  have g_id : X0.cell? ⟨13, 5, none⟩ = some (.bool true) := (HTT.out X0 HD0.out.fr).t1 5 (by decide)
  have g_us : X0.cell? ⟨18, 5, none⟩ = some (.bool false) := (HTT.out X0 HD0.out.fr).t2 5 (by decide)
  have g_cl : X0.cell? ⟨16, 5, none⟩ = some (.bool false) := (HTT.out X0 HD0.out.fr).t3 5 (by decide)
  have g_rd : X0.cell? ⟨14, 5, none⟩ = some (.bool false) := (HTT.out X0 HD0.out.fr).t4 5 (by decide)
  have g_cd : X0.cell? ⟨15, 5, none⟩ = some (.bool false) := (HTT.out X0 HD0.out.fr).t6 5 (by decide)
  have g_ss : X0.cell? ⟨17, 5, none⟩ = some (.bool false) := (HTT.out X0 HD0.out.fr).t7 5 (by decide)
  have g_at : X0.cell? ⟨19, 5, none⟩ = some (.bool false) := (HTT.out X0 HD0.out.fr).t8 5 (by decide)
  have HX0 := hide hX0
  rw [HX0.out] at c0 g_id g_us g_cl g_rd g_cd g_ss g_at
  clear hX0
  go_enter Tryz.func28, Tryz.ntmps28
  have HT := hide (dtext_any K p _ (b :: r0) 1 false X0 HD0.out.pl hK)
  go_wp2_with fail
  rw [← HX0.out]
  refine HT.out.mono ?_
  rintro x Y1 ⟨y_id, a1, b1, rfl, hpl, hfr, hy, hon⟩
  have q0 := (HD0.out.boxed hpw hfr 1).1
  have q1 := (HD0.out.boxed hpw hfr 1).2
  have q0 : Y1.cell? ⟨w.heap.size + 1, 1, none⟩ = some (.string ⟨#[]⟩) := q0
  have HD1 := hide (HD0.out.next hpw hK hfr hpl 1 (.string y_id) ⟨5, y_id, ⟨#[]⟩, ⟨#[]⟩, ⟨#[]⟩, ⟨#[]⟩, ⟨#[]⟩, [], 0⟩ (.slice none 0 0) rfl)
  have HS1 := hide hon
  have HY_id := hide hy
  obtain ⟨X1, hX1⟩ : ∃ X, X = Y1.setCell ⟨w.heap.size + 1, 1, none⟩ (.string y_id) := ⟨_, rfl⟩
  rw [← hX1] at HD1
  clear HT hpl hfr hy hon c0 g_id g_us g_cl g_rd g_cd g_ss g_at
  have c0 : X1.cell? ⟨w.heap.size + 1, 0, none⟩ = some (.int .i64 5) := (HD1.out.boxed hpw (Fr.refl _ _) 0).1
  have g_id : X1.cell? ⟨13, 5, none⟩ = some (.bool true) := (HTT.out X1 HD1.out.fr).t1 5 (by decide)
  have g_us : X1.cell? ⟨18, 5, none⟩ = some (.bool false) := (HTT.out X1 HD1.out.fr).t2 5 (by decide)
  have g_cl : X1.cell? ⟨16, 5, none⟩ = some (.bool false) := (HTT.out X1 HD1.out.fr).t3 5 (by decide)
  have g_rd : X1.cell? ⟨14, 5, none⟩ = some (.bool false) := (HTT.out X1 HD1.out.fr).t4 5 (by decide)
  have g_cd : X1.cell? ⟨15, 5, none⟩ = some (.bool false) := (HTT.out X1 HD1.out.fr).t6 5 (by decide)
  have g_ss : X1.cell? ⟨17, 5, none⟩ = some (.bool false) := (HTT.out X1 HD1.out.fr).t7 5 (by decide)
  have g_at : X1.cell? ⟨19, 5, none⟩ = some (.bool false) := (HTT.out X1 HD1.out.fr).t8 5 (by decide)
  have HX1 := hide hX1
  rw [hX1] at c0 g_id g_us g_cl g_rd g_cd g_ss g_at
  clear hX1
  have HRG : Hid (X1.rangeAt (w.heap.size + 1) 0 (rcl9 ⟨5, y_id, ⟨#[]⟩, ⟨#[]⟩, ⟨#[]⟩, ⟨#[]⟩, ⟨#[]⟩, [], 0⟩ (.slice none 0 0))) := range_of (t := 26) HD1.out.box
  have HTZ : Hid (X1.there w.heap.size 0 9) := there_of (cur := zrec.toList) HD1.out.out 0 9 (by simp)
  rw [HX1.out] at HRG HTZ
  go_wp2_with (first
    | (refine wpList_load_mid rfl 26 (.tmp 3) rfl (w.heap.size + 1) 0 rfl _ _ HRG.out Tryz.underlying26 rfl sizeRec ?_)
    | (refine wpList_store_mid rfl 26 (.tmp 2) (.tmp 86) rfl w.heap.size 0 (rcs ⟨5, y_id, ⟨#[]⟩, ⟨#[]⟩, ⟨#[]⟩, ⟨#[]⟩, ⟨#[]⟩, [], 0⟩ (.slice none 0 0)) rfl rfl HTZ.out sizeRec (rcs_one _ _ _ _) ?_))
  refine bodyPost_ret (results_c rfl _ rfl (World.rangeAt_setCells_same _ w.heap.size 0 (rcs ⟨5, y_id, ⟨#[]⟩, ⟨#[]⟩, ⟨#[]⟩, ⟨#[]⟩, ⟨#[]⟩, [], 0⟩ (.slice none 0 0)).toList HTZ.out) Tryz.underlying26 rfl sizeRec) rfl ?_
  rw [← HX1.out]
  unfold DrOut
  exact ⟨⟨5, y_id, ⟨#[]⟩, ⟨#[]⟩, ⟨#[]⟩, ⟨#[]⟩, ⟨#[]⟩, [], 0⟩, .slice none 0 0, a1, b1, rfl, (HD1.out.fin hpw hK _).1, (HD1.out.fin hpw hK _).2, World.ownsRow_nil _ _ _ _, ⟨⟨HY_id.out, e_low, e_low, e_low, e_low, e_low, fun s hs => (by cases hs)⟩, Nat.zero_le _⟩, fun y hm hl e => (by have h := find_5 HHB.out HS1.out y hm hl e; exact ⟨h.1, st_end h.2⟩)⟩

set_option maxRecDepth 100000 in
set_option maxHeartbeats 25600000 in
theorem drec_7 (K p : Nat) (v : Value) (b : UInt8) (r0 : List UInt8) (w : World) (hb : b.toNat = 7) (hp : Pl K p v (b :: r0) w 0 false) (HTB : ∀ X, Fr [p] w X → HTab X) (hK : K ≤ p) :
    Calls Tryz.prog 28 #[.pointer (some ⟨p, 0, none⟩)] w (DrOut K p v (b :: r0) w) := by
  have hpw : p < w.heap.size := (Array.getElem?_eq_some_iff.1 hp.1).1
  obtain ⟨ov, cv, hvv⟩ : ∃ ov cv, v = .slice ov (b :: r0).length cv := by obtain ⟨x, y, h, _⟩ := hp.2.1; exact ⟨x, y, h⟩
  obtain ⟨g, o, hov, hcell⟩ := Rd.cell (oa := ov) (c := cv) (by rw [← hvv]; exact hp.2.1.rd) (by simp)
  subst hvv hov
  obtain ⟨L, hL⟩ : ∃ L, L = (b :: r0).length := ⟨_, rfl⟩
  have hL0 : ¬ (L : Int) = 0 := by rw [hL, List.length_cons]; omega
  have hL0b : ((L : Int) == 0) = false := beq_false_of_ne hL0
  have hL1 : (0 : Int) < (L : Int) := by rw [hL, List.length_cons]; omega
  obtain ⟨W1, hW1⟩ : ∃ W1, W1 = w.alloc (.cells zrec 26) := ⟨_, rfl⟩
  obtain ⟨W, hW⟩ : ∃ W, W = W1.alloc (.cells (rcs ⟨7, ⟨#[]⟩, ⟨#[]⟩, ⟨#[]⟩, ⟨#[]⟩, ⟨#[]⟩, ⟨#[]⟩, [], 0⟩ (.slice none 0 0)) 26) := ⟨_, rfl⟩
  have hF1 : Fr [p] w W1 := by rw [hW1]; exact ⟨rfl, rfl, rfl, by simp, fun k hk _ => Below.heap_alloc w _ k hk⟩
  have hF2 : Fr [p] W1 W := by rw [hW]; exact ⟨rfl, rfl, rfl, by simp, fun k hk _ => Below.heap_alloc W1 _ k hk⟩
  have hz1 : W1.heap.size = w.heap.size + 1 := by rw [hW1]; simp
  have hP1 : Pl K p (.slice (some ⟨g, o, none⟩) (b :: r0).length cv) (b :: r0) W1 0 false := ⟨by rw [hW1]; exact (Below.heap_alloc w _ p hpw).trans hp.1, hp.2.1.keep (fun g _ hs => by rw [hW1]; exact Below.heap_alloc w _ g hs) hF1.size, hp.2.2⟩
  have hP2 : Pl K p (.slice (some ⟨g, o, none⟩) (b :: r0).length cv) (b :: r0) W 0 false := ⟨by rw [hW]; exact (Below.heap_alloc W1 _ p (by omega)).trans hP1.1, hP1.2.1.keep (fun g _ hs => by rw [hW]; exact Below.heap_alloc W1 _ g hs) hF2.size, hP1.2.2⟩
  have hD0 : Dq K p (.slice (some ⟨g, o, none⟩) (b :: r0).length cv) (b :: r0) w ⟨7, ⟨#[]⟩, ⟨#[]⟩, ⟨#[]⟩, ⟨#[]⟩, ⟨#[]⟩, ⟨#[]⟩, [], 0⟩ (.slice none 0 0) 1 false (((w.setCell ⟨p, 1, none⟩ (.int .i64 1)).alloc (.cells zrec 26)).alloc (.cells (rcs ⟨7, ⟨#[]⟩, ⟨#[]⟩, ⟨#[]⟩, ⟨#[]⟩, ⟨#[]⟩, ⟨#[]⟩, [], 0⟩ (.slice none 0 0)) 26)) := by
    have e0 : (w.setCell ⟨p, 1, none⟩ (.int .i64 1)).heap.size = w.heap.size := size_set _ _ _
    have t0 := hp.to hK 1 (by simp)
    have f0 := fr_sets (Fr.refl [p] w) 1 (.int .i64 1)
    have t0 : Pl K p (.slice (some ⟨g, o, none⟩) (b :: r0).length cv) (b :: r0) (w.setCell ⟨p, 1, none⟩ (.int .i64 1)) 1 false := t0
    generalize w.setCell ⟨p, 1, none⟩ (.int .i64 1) = w0 at *
    have b1 : Below w0.heap.size w0 ((w0.alloc (.cells zrec 26)).alloc (.cells (rcs ⟨7, ⟨#[]⟩, ⟨#[]⟩, ⟨#[]⟩, ⟨#[]⟩, ⟨#[]⟩, ⟨#[]⟩, [], 0⟩ (.slice none 0 0)) 26)) := ((Below.refl _ _).alloc (Nat.le_refl _) _).alloc (by simp) _
    have n1 := heap_alloc_new (w0.alloc (.cells zrec 26)) (.cells (rcs ⟨7, ⟨#[]⟩, ⟨#[]⟩, ⟨#[]⟩, ⟨#[]⟩, ⟨#[]⟩, ⟨#[]⟩, [], 0⟩ (.slice none 0 0)) 26 (0, 0))
    rw [World.size_alloc, e0] at n1
    have n0 := (heap_alloc_old (w0.alloc (.cells zrec 26)) (.cells (rcs ⟨7, ⟨#[]⟩, ⟨#[]⟩, ⟨#[]⟩, ⟨#[]⟩, ⟨#[]⟩, ⟨#[]⟩, [], 0⟩ (.slice none 0 0)) 26 (0, 0)) (r := w0.heap.size) (by simp)).trans (heap_alloc_new w0 _)
    rw [e0] at n0
    exact ⟨n1, n0, t0.low b1 (by rw [e0]; exact hpw) hK, f0.next b1⟩
  have HD0 := hide hD0
  have cb : ∀ X : World, X.heap[g]? = w.heap[g]? → X.cell? ⟨g, o, none⟩ = some (.int .u8 7) := fun X hX => by
    have h := hcell 0 (by simp)
    rw [Nat.add_zero] at h
    rw [World.cell?_of_block hX, h]
    show some (Value.int .u8 ((b.toNat : Nat) : Int)) = _
    rw [hb]; rfl
  have hglt : g < w.heap.size := World.block_lt_of_cell? w _ (hcell 0 (by simp))
  have cb1 : W1.cell? ⟨g, o, none⟩ = some (.int .u8 7) := cb W1 (by rw [hW1]; exact Below.heap_alloc w _ g hglt)
  have p0 : W1.cell? ⟨p, 0, none⟩ = some (.slice (some ⟨g, o, none⟩) L cv) := by rw [hL]; exact cell_of hP1.1 0
  have p1 : W.cell? ⟨p, 1, none⟩ = some (.int .i64 0) := cell_of hP2.1 1
  have pf : W.frozen? ⟨p, 1, none⟩ = false := free_of hP2.1 1
  have HHB := hide hb
  have HTT := hide HTB
  have HWZ : Hid (W1.heap.size = w.heap.size + 1) := hz1
  have HW1 := hide hW1
  have HW := hide hW
  rw [hW, hW1] at p1 pf
  rw [hW1] at cb1 p0
  clear hb hp hP1 hP2 hF1 hF2 hD0 hcell cb hL hW hW1 HTB hz1 hglt
  obtain ⟨X0, hX0⟩ : ∃ X0, X0 = ((w.setCell ⟨p, 1, none⟩ (.int .i64 1)).alloc (.cells zrec 26)).alloc (.cells (rcs ⟨7, ⟨#[]⟩, ⟨#[]⟩, ⟨#[]⟩, ⟨#[]⟩, ⟨#[]⟩, ⟨#[]⟩, [], 0⟩ (.slice none 0 0)) 26) := ⟨_, rfl⟩
  rw [← hX0] at HD0
  have c0 : X0.cell? ⟨w.heap.size + 1, 0, none⟩ = some (.int .i64 7) := (HD0.out.boxed hpw (Fr.refl _ _) 0).1
  have g_id : X0.cell? ⟨13, 7, none⟩ = some (.bool true) := (HTT.out X0 HD0.out.fr).t1 7 (by decide)
  have g_us : X0.cell? ⟨18, 7, none⟩ = some (.bool false) := (HTT.out X0 HD0.out.fr).t2 7 (by decide)
  have g_cl : X0.cell? ⟨16, 7, none⟩ = some (.bool false) := (HTT.out X0 HD0.out.fr).t3 7 (by decide)
  have g_rd : X0.cell? ⟨14, 7, none⟩ = some (.bool false) := (HTT.out X0 HD0.out.fr).t4 7 (by decide)
  have g_cd : X0.cell? ⟨15, 7, none⟩ = some (.bool false) := (HTT.out X0 HD0.out.fr).t6 7 (by decide)
  have g_ss : X0.cell? ⟨17, 7, none⟩ = some (.bool false) := (HTT.out X0 HD0.out.fr).t7 7 (by decide)
  have g_at : X0.cell? ⟨19, 7, none⟩ = some (.bool false) := (HTT.out X0 HD0.out.fr).t8 7 (by decide)
  have HX0 := hide hX0
  rw [HX0.out] at c0 g_id g_us g_cl g_rd g_cd g_ss g_at
  clear hX0
  go_enter Tryz.func28, Tryz.ntmps28
  have HT := hide (dtext_any K p _ (b :: r0) 1 false X0 HD0.out.pl hK)
  go_wp2_with fail
  rw [← HX0.out]
  refine HT.out.mono ?_
  rintro x Y1 ⟨y_id, a1, b1, rfl, hpl, hfr, hy, hon⟩
  have q0 := (HD0.out.boxed hpw hfr 1).1
  have q1 := (HD0.out.boxed hpw hfr 1).2
  have q0 : Y1.cell? ⟨w.heap.size + 1, 1, none⟩ = some (.string ⟨#[]⟩) := q0
  have HD1 := hide (HD0.out.next hpw hK hfr hpl 1 (.string y_id) ⟨7, y_id, ⟨#[]⟩, ⟨#[]⟩, ⟨#[]⟩, ⟨#[]⟩, ⟨#[]⟩, [], 0⟩ (.slice none 0 0) rfl)
  have HS1 := hide hon
  have HY_id := hide hy
  obtain ⟨X1, hX1⟩ : ∃ X, X = Y1.setCell ⟨w.heap.size + 1, 1, none⟩ (.string y_id) := ⟨_, rfl⟩
  rw [← hX1] at HD1
  clear HT hpl hfr hy hon c0 g_id g_us g_cl g_rd g_cd g_ss g_at
  have c0 : X1.cell? ⟨w.heap.size + 1, 0, none⟩ = some (.int .i64 7) := (HD1.out.boxed hpw (Fr.refl _ _) 0).1
  have g_id : X1.cell? ⟨13, 7, none⟩ = some (.bool true) := (HTT.out X1 HD1.out.fr).t1 7 (by decide)
  have g_us : X1.cell? ⟨18, 7, none⟩ = some (.bool false) := (HTT.out X1 HD1.out.fr).t2 7 (by decide)
  have g_cl : X1.cell? ⟨16, 7, none⟩ = some (.bool false) := (HTT.out X1 HD1.out.fr).t3 7 (by decide)
  have g_rd : X1.cell? ⟨14, 7, none⟩ = some (.bool false) := (HTT.out X1 HD1.out.fr).t4 7 (by decide)
  have g_cd : X1.cell? ⟨15, 7, none⟩ = some (.bool false) := (HTT.out X1 HD1.out.fr).t6 7 (by decide)
  have g_ss : X1.cell? ⟨17, 7, none⟩ = some (.bool false) := (HTT.out X1 HD1.out.fr).t7 7 (by decide)
  have g_at : X1.cell? ⟨19, 7, none⟩ = some (.bool false) := (HTT.out X1 HD1.out.fr).t8 7 (by decide)
  have HX1 := hide hX1
  rw [hX1] at c0 g_id g_us g_cl g_rd g_cd g_ss g_at
  clear hX1
  have HRG : Hid (X1.rangeAt (w.heap.size + 1) 0 (rcl9 ⟨7, y_id, ⟨#[]⟩, ⟨#[]⟩, ⟨#[]⟩, ⟨#[]⟩, ⟨#[]⟩, [], 0⟩ (.slice none 0 0))) := range_of (t := 26) HD1.out.box
  have HTZ : Hid (X1.there w.heap.size 0 9) := there_of (cur := zrec.toList) HD1.out.out 0 9 (by simp)
  rw [HX1.out] at HRG HTZ
  go_wp2_with (first
    | (refine wpList_load_mid rfl 26 (.tmp 3) rfl (w.heap.size + 1) 0 rfl _ _ HRG.out Tryz.underlying26 rfl sizeRec ?_)
    | (refine wpList_store_mid rfl 26 (.tmp 2) (.tmp 86) rfl w.heap.size 0 (rcs ⟨7, y_id, ⟨#[]⟩, ⟨#[]⟩, ⟨#[]⟩, ⟨#[]⟩, ⟨#[]⟩, [], 0⟩ (.slice none 0 0)) rfl rfl HTZ.out sizeRec (rcs_one _ _ _ _) ?_))
  refine bodyPost_ret (results_c rfl _ rfl (World.rangeAt_setCells_same _ w.heap.size 0 (rcs ⟨7, y_id, ⟨#[]⟩, ⟨#[]⟩, ⟨#[]⟩, ⟨#[]⟩, ⟨#[]⟩, [], 0⟩ (.slice none 0 0)).toList HTZ.out) Tryz.underlying26 rfl sizeRec) rfl ?_
  rw [← HX1.out]
  unfold DrOut
  exact ⟨⟨7, y_id, ⟨#[]⟩, ⟨#[]⟩, ⟨#[]⟩, ⟨#[]⟩, ⟨#[]⟩, [], 0⟩, .slice none 0 0, a1, b1, rfl, (HD1.out.fin hpw hK _).1, (HD1.out.fin hpw hK _).2, World.ownsRow_nil _ _ _ _, ⟨⟨HY_id.out, e_low, e_low, e_low, e_low, e_low, fun s hs => (by cases hs)⟩, Nat.zero_le _⟩, fun y hm hl e => (by have h := find_7 HHB.out HS1.out y hm hl e; exact ⟨h.1, st_end h.2⟩)⟩

set_option maxRecDepth 100000 in
set_option maxHeartbeats 25600000 in
theorem drec_8 (K p : Nat) (v : Value) (b : UInt8) (r0 : List UInt8) (w : World) (hb : b.toNat = 8) (hp : Pl K p v (b :: r0) w 0 false) (HTB : ∀ X, Fr [p] w X → HTab X) (hK : K ≤ p) :
    Calls Tryz.prog 28 #[.pointer (some ⟨p, 0, none⟩)] w (DrOut K p v (b :: r0) w) := by
  have hpw : p < w.heap.size := (Array.getElem?_eq_some_iff.1 hp.1).1
  obtain ⟨ov, cv, hvv⟩ : ∃ ov cv, v = .slice ov (b :: r0).length cv := by obtain ⟨x, y, h, _⟩ := hp.2.1; exact ⟨x, y, h⟩
  obtain ⟨g, o, hov, hcell⟩ := Rd.cell (oa := ov) (c := cv) (by rw [← hvv]; exact hp.2.1.rd) (by simp)
  subst hvv hov
  obtain ⟨L, hL⟩ : ∃ L, L = (b :: r0).length := ⟨_, rfl⟩
  have hL0 : ¬ (L : Int) = 0 := by rw [hL, List.length_cons]; omega
  have hL0b : ((L : Int) == 0) = false := beq_false_of_ne hL0
  have hL1 : (0 : Int) < (L : Int) := by rw [hL, List.length_cons]; omega
  obtain ⟨W1, hW1⟩ : ∃ W1, W1 = w.alloc (.cells zrec 26) := ⟨_, rfl⟩
  obtain ⟨W, hW⟩ : ∃ W, W = W1.alloc (.cells (rcs ⟨8, ⟨#[]⟩, ⟨#[]⟩, ⟨#[]⟩, ⟨#[]⟩, ⟨#[]⟩, ⟨#[]⟩, [], 0⟩ (.slice none 0 0)) 26) := ⟨_, rfl⟩
  have hF1 : Fr [p] w W1 := by rw [hW1]; exact ⟨rfl, rfl, rfl, by simp, fun k hk _ => Below.heap_alloc w _ k hk⟩
  have hF2 : Fr [p] W1 W := by rw [hW]; exact ⟨rfl, rfl, rfl, by simp, fun k hk _ => Below.heap_alloc W1 _ k hk⟩
  have hz1 : W1.heap.size = w.heap.size + 1 := by rw [hW1]; simp
  have hP1 : Pl K p (.slice (some ⟨g, o, none⟩) (b :: r0).length cv) (b :: r0) W1 0 false := ⟨by rw [hW1]; exact (Below.heap_alloc w _ p hpw).trans hp.1, hp.2.1.keep (fun g _ hs => by rw [hW1]; exact Below.heap_alloc w _ g hs) hF1.size, hp.2.2⟩
  have hP2 : Pl K p (.slice (some ⟨g, o, none⟩) (b :: r0).length cv) (b :: r0) W 0 false := ⟨by rw [hW]; exact (Below.heap_alloc W1 _ p (by omega)).trans hP1.1, hP1.2.1.keep (fun g _ hs => by rw [hW]; exact Below.heap_alloc W1 _ g hs) hF2.size, hP1.2.2⟩
  have hD0 : Dq K p (.slice (some ⟨g, o, none⟩) (b :: r0).length cv) (b :: r0) w ⟨8, ⟨#[]⟩, ⟨#[]⟩, ⟨#[]⟩, ⟨#[]⟩, ⟨#[]⟩, ⟨#[]⟩, [], 0⟩ (.slice none 0 0) 1 false (((w.setCell ⟨p, 1, none⟩ (.int .i64 1)).alloc (.cells zrec 26)).alloc (.cells (rcs ⟨8, ⟨#[]⟩, ⟨#[]⟩, ⟨#[]⟩, ⟨#[]⟩, ⟨#[]⟩, ⟨#[]⟩, [], 0⟩ (.slice none 0 0)) 26)) := by
    have e0 : (w.setCell ⟨p, 1, none⟩ (.int .i64 1)).heap.size = w.heap.size := size_set _ _ _
    have t0 := hp.to hK 1 (by simp)
    have f0 := fr_sets (Fr.refl [p] w) 1 (.int .i64 1)
    have t0 : Pl K p (.slice (some ⟨g, o, none⟩) (b :: r0).length cv) (b :: r0) (w.setCell ⟨p, 1, none⟩ (.int .i64 1)) 1 false := t0
    generalize w.setCell ⟨p, 1, none⟩ (.int .i64 1) = w0 at *
    have b1 : Below w0.heap.size w0 ((w0.alloc (.cells zrec 26)).alloc (.cells (rcs ⟨8, ⟨#[]⟩, ⟨#[]⟩, ⟨#[]⟩, ⟨#[]⟩, ⟨#[]⟩, ⟨#[]⟩, [], 0⟩ (.slice none 0 0)) 26)) := ((Below.refl _ _).alloc (Nat.le_refl _) _).alloc (by simp) _
    have n1 := heap_alloc_new (w0.alloc (.cells zrec 26)) (.cells (rcs ⟨8, ⟨#[]⟩, ⟨#[]⟩, ⟨#[]⟩, ⟨#[]⟩, ⟨#[]⟩, ⟨#[]⟩, [], 0⟩ (.slice none 0 0)) 26 (0, 0))
    rw [World.size_alloc, e0] at n1
    have n0 := (heap_alloc_old (w0.alloc (.cells zrec 26)) (.cells (rcs ⟨8, ⟨#[]⟩, ⟨#[]⟩, ⟨#[]⟩, ⟨#[]⟩, ⟨#[]⟩, ⟨#[]⟩, [], 0⟩ (.slice none 0 0)) 26 (0, 0)) (r := w0.heap.size) (by simp)).trans (heap_alloc_new w0 _)
    rw [e0] at n0
    exact ⟨n1, n0, t0.low b1 (by rw [e0]; exact hpw) hK, f0.next b1⟩
  have HD0 := hide hD0
  have cb : ∀ X : World, X.heap[g]? = w.heap[g]? → X.cell? ⟨g, o, none⟩ = some (.int .u8 8) := fun X hX => by
    have h := hcell 0 (by simp)
    rw [Nat.add_zero] at h
    rw [World.cell?_of_block hX, h]
    show some (Value.int .u8 ((b.toNat : Nat) : Int)) = _
    rw [hb]; rfl
  have hglt : g < w.heap.size := World.block_lt_of_cell? w _ (hcell 0 (by simp))
  have cb1 : W1.cell? ⟨g, o, none⟩ = some (.int .u8 8) := cb W1 (by rw [hW1]; exact Below.heap_alloc w _ g hglt)
  have p0 : W1.cell? ⟨p, 0, none⟩ = some (.slice (some ⟨g, o, none⟩) L cv) := by rw [hL]; exact cell_of hP1.1 0
  have p1 : W.cell? ⟨p, 1, none⟩ = some (.int .i64 0) := cell_of hP2.1 1
  have pf : W.frozen? ⟨p, 1, none⟩ = false := free_of hP2.1 1
  have HHB := hide hb
  have HTT := hide HTB
  have HWZ : Hid (W1.heap.size = w.heap.size + 1) := hz1
  have HW1 := hide hW1
  have HW := hide hW
  rw [hW, hW1] at p1 pf
  rw [hW1] at cb1 p0
  clear hb hp hP1 hP2 hF1 hF2 hD0 hcell cb hL hW hW1 HTB hz1 hglt
  obtain ⟨X0, hX0⟩ : ∃ X0, X0 = ((w.setCell ⟨p, 1, none⟩ (.int .i64 1)).alloc (.cells zrec 26)).alloc (.cells (rcs ⟨8, ⟨#[]⟩, ⟨#[]⟩, ⟨#[]⟩, ⟨#[]⟩, ⟨#[]⟩, ⟨#[]⟩, [], 0⟩ (.slice none 0 0)) 26) := ⟨_, rfl⟩
  rw [← hX0] at HD0
  have c0 : X0.cell? ⟨w.heap.size + 1, 0, none⟩ = some (.int .i64 8) := (HD0.out.boxed hpw (Fr.refl _ _) 0).1
  have g_id : X0.cell? ⟨13, 8, none⟩ = some (.bool true) := (HTT.out X0 HD0.out.fr).t1 8 (by decide)
  have g_us : X0.cell? ⟨18, 8, none⟩ = some (.bool false) := (HTT.out X0 HD0.out.fr).t2 8 (by decide)
  have g_cl : X0.cell? ⟨16, 8, none⟩ = some (.bool false) := (HTT.out X0 HD0.out.fr).t3 8 (by decide)
  have g_rd : X0.cell? ⟨14, 8, none⟩ = some (.bool false) := (HTT.out X0 HD0.out.fr).t4 8 (by decide)
  have g_cd : X0.cell? ⟨15, 8, none⟩ = some (.bool false) := (HTT.out X0 HD0.out.fr).t6 8 (by decide)
  have g_ss : X0.cell? ⟨17, 8, none⟩ = some (.bool false) := (HTT.out X0 HD0.out.fr).t7 8 (by decide)
  have g_at : X0.cell? ⟨19, 8, none⟩ = some (.bool false) := (HTT.out X0 HD0.out.fr).t8 8 (by decide)
  have HX0 := hide hX0
  rw [HX0.out] at c0 g_id g_us g_cl g_rd g_cd g_ss g_at
  clear hX0
  go_enter Tryz.func28, Tryz.ntmps28
  have HT := hide (dtext_any K p _ (b :: r0) 1 false X0 HD0.out.pl hK)
  go_wp2_with fail
  rw [← HX0.out]
  refine HT.out.mono ?_
  rintro x Y1 ⟨y_id, a1, b1, rfl, hpl, hfr, hy, hon⟩
  have q0 := (HD0.out.boxed hpw hfr 1).1
  have q1 := (HD0.out.boxed hpw hfr 1).2
  have q0 : Y1.cell? ⟨w.heap.size + 1, 1, none⟩ = some (.string ⟨#[]⟩) := q0
  have HD1 := hide (HD0.out.next hpw hK hfr hpl 1 (.string y_id) ⟨8, y_id, ⟨#[]⟩, ⟨#[]⟩, ⟨#[]⟩, ⟨#[]⟩, ⟨#[]⟩, [], 0⟩ (.slice none 0 0) rfl)
  have HS1 := hide hon
  have HY_id := hide hy
  obtain ⟨X1, hX1⟩ : ∃ X, X = Y1.setCell ⟨w.heap.size + 1, 1, none⟩ (.string y_id) := ⟨_, rfl⟩
  rw [← hX1] at HD1
  clear HT hpl hfr hy hon c0 g_id g_us g_cl g_rd g_cd g_ss g_at
  have c0 : X1.cell? ⟨w.heap.size + 1, 0, none⟩ = some (.int .i64 8) := (HD1.out.boxed hpw (Fr.refl _ _) 0).1
  have g_id : X1.cell? ⟨13, 8, none⟩ = some (.bool true) := (HTT.out X1 HD1.out.fr).t1 8 (by decide)
  have g_us : X1.cell? ⟨18, 8, none⟩ = some (.bool false) := (HTT.out X1 HD1.out.fr).t2 8 (by decide)
  have g_cl : X1.cell? ⟨16, 8, none⟩ = some (.bool false) := (HTT.out X1 HD1.out.fr).t3 8 (by decide)
  have g_rd : X1.cell? ⟨14, 8, none⟩ = some (.bool false) := (HTT.out X1 HD1.out.fr).t4 8 (by decide)
  have g_cd : X1.cell? ⟨15, 8, none⟩ = some (.bool false) := (HTT.out X1 HD1.out.fr).t6 8 (by decide)
  have g_ss : X1.cell? ⟨17, 8, none⟩ = some (.bool false) := (HTT.out X1 HD1.out.fr).t7 8 (by decide)
  have g_at : X1.cell? ⟨19, 8, none⟩ = some (.bool false) := (HTT.out X1 HD1.out.fr).t8 8 (by decide)
  have HX1 := hide hX1
  rw [hX1] at c0 g_id g_us g_cl g_rd g_cd g_ss g_at
  clear hX1
  have HRG : Hid (X1.rangeAt (w.heap.size + 1) 0 (rcl9 ⟨8, y_id, ⟨#[]⟩, ⟨#[]⟩, ⟨#[]⟩, ⟨#[]⟩, ⟨#[]⟩, [], 0⟩ (.slice none 0 0))) := range_of (t := 26) HD1.out.box
  have HTZ : Hid (X1.there w.heap.size 0 9) := there_of (cur := zrec.toList) HD1.out.out 0 9 (by simp)
  rw [HX1.out] at HRG HTZ
  go_wp2_with (first
    | (refine wpList_load_mid rfl 26 (.tmp 3) rfl (w.heap.size + 1) 0 rfl _ _ HRG.out Tryz.underlying26 rfl sizeRec ?_)
    | (refine wpList_store_mid rfl 26 (.tmp 2) (.tmp 86) rfl w.heap.size 0 (rcs ⟨8, y_id, ⟨#[]⟩, ⟨#[]⟩, ⟨#[]⟩, ⟨#[]⟩, ⟨#[]⟩, [], 0⟩ (.slice none 0 0)) rfl rfl HTZ.out sizeRec (rcs_one _ _ _ _) ?_))
  refine bodyPost_ret (results_c rfl _ rfl (World.rangeAt_setCells_same _ w.heap.size 0 (rcs ⟨8, y_id, ⟨#[]⟩, ⟨#[]⟩, ⟨#[]⟩, ⟨#[]⟩, ⟨#[]⟩, [], 0⟩ (.slice none 0 0)).toList HTZ.out) Tryz.underlying26 rfl sizeRec) rfl ?_
  rw [← HX1.out]
  unfold DrOut
  exact ⟨⟨8, y_id, ⟨#[]⟩, ⟨#[]⟩, ⟨#[]⟩, ⟨#[]⟩, ⟨#[]⟩, [], 0⟩, .slice none 0 0, a1, b1, rfl, (HD1.out.fin hpw hK _).1, (HD1.out.fin hpw hK _).2, World.ownsRow_nil _ _ _ _, ⟨⟨HY_id.out, e_low, e_low, e_low, e_low, e_low, fun s hs => (by cases hs)⟩, Nat.zero_le _⟩, fun y hm hl e => (by have h := find_8 HHB.out HS1.out y hm hl e; exact ⟨h.1, st_end h.2⟩)⟩

set_option maxRecDepth 100000 in
set_option maxHeartbeats 25600000 in
theorem drec_10 (K p : Nat) (v : Value) (b : UInt8) (r0 : List UInt8) (w : World) (hb : b.toNat = 10) (hp : Pl K p v (b :: r0) w 0 false) (HTB : ∀ X, Fr [p] w X → HTab X) (hK : K ≤ p) :
    Calls Tryz.prog 28 #[.pointer (some ⟨p, 0, none⟩)] w (DrOut K p v (b :: r0) w) := by
  have hpw : p < w.heap.size := (Array.getElem?_eq_some_iff.1 hp.1).1
  obtain ⟨ov, cv, hvv⟩ : ∃ ov cv, v = .slice ov (b :: r0).length cv := by obtain ⟨x, y, h, _⟩ := hp.2.1; exact ⟨x, y, h⟩
  obtain ⟨g, o, hov, hcell⟩ := Rd.cell (oa := ov) (c := cv) (by rw [← hvv]; exact hp.2.1.rd) (by simp)
  subst hvv hov
  obtain ⟨L, hL⟩ : ∃ L, L = (b :: r0).length := ⟨_, rfl⟩
  have hL0 : ¬ (L : Int) = 0 := by rw [hL, List.length_cons]; omega
  have hL0b : ((L : Int) == 0) = false := beq_false_of_ne hL0
  have hL1 : (0 : Int) < (L : Int) := by rw [hL, List.length_cons]; omega
  obtain ⟨W1, hW1⟩ : ∃ W1, W1 = w.alloc (.cells zrec 26) := ⟨_, rfl⟩
  obtain ⟨W, hW⟩ : ∃ W, W = W1.alloc (.cells (rcs ⟨10, ⟨#[]⟩, ⟨#[]⟩, ⟨#[]⟩, ⟨#[]⟩, ⟨#[]⟩, ⟨#[]⟩, [], 0⟩ (.slice none 0 0)) 26) := ⟨_, rfl⟩
  have hF1 : Fr [p] w W1 := by rw [hW1]; exact ⟨rfl, rfl, rfl, by simp, fun k hk _ => Below.heap_alloc w _ k hk⟩
  have hF2 : Fr [p] W1 W := by rw [hW]; exact ⟨rfl, rfl, rfl, by simp, fun k hk _ => Below.heap_alloc W1 _ k hk⟩
  have hz1 : W1.heap.size = w.heap.size + 1 := by rw [hW1]; simp
  have hP1 : Pl K p (.slice (some ⟨g, o, none⟩) (b :: r0).length cv) (b :: r0) W1 0 false := ⟨by rw [hW1]; exact (Below.heap_alloc w _ p hpw).trans hp.1, hp.2.1.keep (fun g _ hs => by rw [hW1]; exact Below.heap_alloc w _ g hs) hF1.size, hp.2.2⟩
  have hP2 : Pl K p (.slice (some ⟨g, o, none⟩) (b :: r0).length cv) (b :: r0) W 0 false := ⟨by rw [hW]; exact (Below.heap_alloc W1 _ p (by omega)).trans hP1.1, hP1.2.1.keep (fun g _ hs => by rw [hW]; exact Below.heap_alloc W1 _ g hs) hF2.size, hP1.2.2⟩
  have hD0 : Dq K p (.slice (some ⟨g, o, none⟩) (b :: r0).length cv) (b :: r0) w ⟨10, ⟨#[]⟩, ⟨#[]⟩, ⟨#[]⟩, ⟨#[]⟩, ⟨#[]⟩, ⟨#[]⟩, [], 0⟩ (.slice none 0 0) 1 false (((w.setCell ⟨p, 1, none⟩ (.int .i64 1)).alloc (.cells zrec 26)).alloc (.cells (rcs ⟨10, ⟨#[]⟩, ⟨#[]⟩, ⟨#[]⟩, ⟨#[]⟩, ⟨#[]⟩, ⟨#[]⟩, [], 0⟩ (.slice none 0 0)) 26)) := by
    have e0 : (w.setCell ⟨p, 1, none⟩ (.int .i64 1)).heap.size = w.heap.size := size_set _ _ _
    have t0 := hp.to hK 1 (by simp)
    have f0 := fr_sets (Fr.refl [p] w) 1 (.int .i64 1)
    have t0 : Pl K p (.slice (some ⟨g, o, none⟩) (b :: r0).length cv) (b :: r0) (w.setCell ⟨p, 1, none⟩ (.int .i64 1)) 1 false := t0
    generalize w.setCell ⟨p, 1, none⟩ (.int .i64 1) = w0 at *
    have b1 : Below w0.heap.size w0 ((w0.alloc (.cells zrec 26)).alloc (.cells (rcs ⟨10, ⟨#[]⟩, ⟨#[]⟩, ⟨#[]⟩, ⟨#[]⟩, ⟨#[]⟩, ⟨#[]⟩, [], 0⟩ (.slice none 0 0)) 26)) := ((Below.refl _ _).alloc (Nat.le_refl _) _).alloc (by simp) _
    have n1 := heap_alloc_new (w0.alloc (.cells zrec 26)) (.cells (rcs ⟨10, ⟨#[]⟩, ⟨#[]⟩, ⟨#[]⟩, ⟨#[]⟩, ⟨#[]⟩, ⟨#[]⟩, [], 0⟩ (.slice none 0 0)) 26 (0, 0))
    rw [World.size_alloc, e0] at n1
    have n0 := (heap_alloc_old (w0.alloc (.cells zrec 26)) (.cells (rcs ⟨10, ⟨#[]⟩, ⟨#[]⟩, ⟨#[]⟩, ⟨#[]⟩, ⟨#[]⟩, ⟨#[]⟩, [], 0⟩ (.slice none 0 0)) 26 (0, 0)) (r := w0.heap.size) (by simp)).trans (heap_alloc_new w0 _)
    rw [e0] at n0
    exact ⟨n1, n0, t0.low b1 (by rw [e0]; exact hpw) hK, f0.next b1⟩
  have HD0 := hide hD0
  have cb : ∀ X : World, X.heap[g]? = w.heap[g]? → X.cell? ⟨g, o, none⟩ = some (.int .u8 10) := fun X hX => by
    have h := hcell 0 (by simp)
    rw [Nat.add_zero] at h
    rw [World.cell?_of_block hX, h]
    show some (Value.int .u8 ((b.toNat : Nat) : Int)) = _
    rw [hb]; rfl
  have hglt : g < w.heap.size := World.block_lt_of_cell? w _ (hcell 0 (by simp))
  have cb1 : W1.cell? ⟨g, o, none⟩ = some (.int .u8 10) := cb W1 (by rw [hW1]; exact Below.heap_alloc w _ g hglt)
  have p0 : W1.cell? ⟨p, 0, none⟩ = some (.slice (some ⟨g, o, none⟩) L cv) := by rw [hL]; exact cell_of hP1.1 0
  have p1 : W.cell? ⟨p, 1, none⟩ = some (.int .i64 0) := cell_of hP2.1 1
  have pf : W.frozen? ⟨p, 1, none⟩ = false := free_of hP2.1 1
  have HHB := hide hb
  have HTT := hide HTB
  have HWZ : Hid (W1.heap.size = w.heap.size + 1) := hz1
  have HW1 := hide hW1
  have HW := hide hW
  rw [hW, hW1] at p1 pf
  rw [hW1] at cb1 p0
  clear hb hp hP1 hP2 hF1 hF2 hD0 hcell cb hL hW hW1 HTB hz1 hglt
  obtain ⟨X0, hX0⟩ : ∃ X0, X0 = ((w.setCell ⟨p, 1, none⟩ (.int .i64 1)).alloc (.cells zrec 26)).alloc (.cells (rcs ⟨10, ⟨#[]⟩, ⟨#[]⟩, ⟨#[]⟩, ⟨#[]⟩, ⟨#[]⟩, ⟨#[]⟩, [], 0⟩ (.slice none 0 0)) 26) := ⟨_, rfl⟩
  rw [← hX0] at HD0
  have c0 : X0.cell? ⟨w.heap.size + 1, 0, none⟩ = some (.int .i64 10) := (HD0.out.boxed hpw (Fr.refl _ _) 0).1
  have g_id : X0.cell? ⟨13, 10, none⟩ = some (.bool true) := (HTT.out X0 HD0.out.fr).t1 10 (by decide)
  have g_us : X0.cell? ⟨18, 10, none⟩ = some (.bool false) := (HTT.out X0 HD0.out.fr).t2 10 (by decide)
  have g_cl : X0.cell? ⟨16, 10, none⟩ = some (.bool false) := (HTT.out X0 HD0.out.fr).t3 10 (by decide)
  have g_rd : X0.cell? ⟨14, 10, none⟩ = some (.bool false) := (HTT.out X0 HD0.out.fr).t4 10 (by decide)
  have g_cd : X0.cell? ⟨15, 10, none⟩ = some (.bool false) := (HTT.out X0 HD0.out.fr).t6 10 (by decide)
  have g_ss : X0.cell? ⟨17, 10, none⟩ = some (.bool false) := (HTT.out X0 HD0.out.fr).t7 10 (by decide)
  have g_at : X0.cell? ⟨19, 10, none⟩ = some (.bool false) := (HTT.out X0 HD0.out.fr).t8 10 (by decide)
  have HX0 := hide hX0
  rw [HX0.out] at c0 g_id g_us g_cl g_rd g_cd g_ss g_at
  clear hX0
  go_enter Tryz.func28, Tryz.ntmps28
  have HT := hide (dtext_any K p _ (b :: r0) 1 false X0 HD0.out.pl hK)
  go_wp2_with fail
  rw [← HX0.out]
  refine HT.out.mono ?_
  rintro x Y1 ⟨y_id, a1, b1, rfl, hpl, hfr, hy, hon⟩
  have q0 := (HD0.out.boxed hpw hfr 1).1
  have q1 := (HD0.out.boxed hpw hfr 1).2
  have q0 : Y1.cell? ⟨w.heap.size + 1, 1, none⟩ = some (.string ⟨#[]⟩) := q0
  have HD1 := hide (HD0.out.next hpw hK hfr hpl 1 (.string y_id) ⟨10, y_id, ⟨#[]⟩, ⟨#[]⟩, ⟨#[]⟩, ⟨#[]⟩, ⟨#[]⟩, [], 0⟩ (.slice none 0 0) rfl)
  have HS1 := hide hon
  have HY_id := hide hy
  obtain ⟨X1, hX1⟩ : ∃ X, X = Y1.setCell ⟨w.heap.size + 1, 1, none⟩ (.string y_id) := ⟨_, rfl⟩
  rw [← hX1] at HD1
  clear HT hpl hfr hy hon c0 g_id g_us g_cl g_rd g_cd g_ss g_at
  have c0 : X1.cell? ⟨w.heap.size + 1, 0, none⟩ = some (.int .i64 10) := (HD1.out.boxed hpw (Fr.refl _ _) 0).1
  have g_id : X1.cell? ⟨13, 10, none⟩ = some (.bool true) := (HTT.out X1 HD1.out.fr).t1 10 (by decide)
  have g_us : X1.cell? ⟨18, 10, none⟩ = some (.bool false) := (HTT.out X1 HD1.out.fr).t2 10 (by decide)
  have g_cl : X1.cell? ⟨16, 10, none⟩ = some (.bool false) := (HTT.out X1 HD1.out.fr).t3 10 (by decide)
  have g_rd : X1.cell? ⟨14, 10, none⟩ = some (.bool false) := (HTT.out X1 HD1.out.fr).t4 10 (by decide)
  have g_cd : X1.cell? ⟨15, 10, none⟩ = some (.bool false) := (HTT.out X1 HD1.out.fr).t6 10 (by decide)
  have g_ss : X1.cell? ⟨17, 10, none⟩ = some (.bool false) := (HTT.out X1 HD1.out.fr).t7 10 (by decide)
  have g_at : X1.cell? ⟨19, 10, none⟩ = some (.bool false) := (HTT.out X1 HD1.out.fr).t8 10 (by decide)
  have HX1 := hide hX1
  rw [hX1] at c0 g_id g_us g_cl g_rd g_cd g_ss g_at
  clear hX1
  have HRG : Hid (X1.rangeAt (w.heap.size + 1) 0 (rcl9 ⟨10, y_id, ⟨#[]⟩, ⟨#[]⟩, ⟨#[]⟩, ⟨#[]⟩, ⟨#[]⟩, [], 0⟩ (.slice none 0 0))) := range_of (t := 26) HD1.out.box
  have HTZ : Hid (X1.there w.heap.size 0 9) := there_of (cur := zrec.toList) HD1.out.out 0 9 (by simp)
  rw [HX1.out] at HRG HTZ
  go_wp2_with (first
    | (refine wpList_load_mid rfl 26 (.tmp 3) rfl (w.heap.size + 1) 0 rfl _ _ HRG.out Tryz.underlying26 rfl sizeRec ?_)
    | (refine wpList_store_mid rfl 26 (.tmp 2) (.tmp 86) rfl w.heap.size 0 (rcs ⟨10, y_id, ⟨#[]⟩, ⟨#[]⟩, ⟨#[]⟩, ⟨#[]⟩, ⟨#[]⟩, [], 0⟩ (.slice none 0 0)) rfl rfl HTZ.out sizeRec (rcs_one _ _ _ _) ?_))
  refine bodyPost_ret (results_c rfl _ rfl (World.rangeAt_setCells_same _ w.heap.size 0 (rcs ⟨10, y_id, ⟨#[]⟩, ⟨#[]⟩, ⟨#[]⟩, ⟨#[]⟩, ⟨#[]⟩, [], 0⟩ (.slice none 0 0)).toList HTZ.out) Tryz.underlying26 rfl sizeRec) rfl ?_
  rw [← HX1.out]
  unfold DrOut
  exact ⟨⟨10, y_id, ⟨#[]⟩, ⟨#[]⟩, ⟨#[]⟩, ⟨#[]⟩, ⟨#[]⟩, [], 0⟩, .slice none 0 0, a1, b1, rfl, (HD1.out.fin hpw hK _).1, (HD1.out.fin hpw hK _).2, World.ownsRow_nil _ _ _ _, ⟨⟨HY_id.out, e_low, e_low, e_low, e_low, e_low, fun s hs => (by cases hs)⟩, Nat.zero_le _⟩, fun y hm hl e => (by have h := find_10 HHB.out HS1.out y hm hl e; exact ⟨h.1, st_end h.2⟩)⟩
end Go.Proofs.YtimbhneegphhbaaGreatDoor.rc
