import Derived.Test.YtlbhiefamnpphaaDoorJfW4
namespace Go.Proofs.YtlbhiefamnpphaaDoor.jf
open Go.ChangeShapes Go.WideShapes Go.ChangeAt Go.RowKit Go.Proofs.YtlbhiefamnpphaaDoor.common Go.Proofs.YtlbhiefamnpphaaDoor.Jc Go.Proofs.YtlbhiefamnpphaaDoor.jc Go.Proofs.YtlbhiefamnpphaaDoor.je
attribute [local go_sem ↓] Go.wp_at_zero Go.wp_at_succ

abbrev spo (a n k : Int) : Obj := .cells #[.int .i64 a, .int .i64 n, .int .i64 k] 23
abbrev frm (a b c d : ByteArray) : Obj := .cells #[.string a, .string b, .string c, .string d] 32
theorem spc {W : World} {b : Nat} {a n k : Int} (h : W.heap[b]? = some (spo a n k)) : W.cell? ⟨b, 0, none⟩ = some (.int .i64 a) ∧ W.cell? ⟨b, 1, none⟩ = some (.int .i64 n) := ⟨by simp [World.cell?, h], by simp [World.cell?, h]⟩
theorem pick_nat (a : Int) : ∃ s : Nat, s ≤ 253402300799 ∧ kitw.pick a 253402300800 = (s : Int) := by
  have h := kitw.pick_bounds a 253402300800
  have h2 := h.2 (by omega)
  exact ⟨(kitw.pick a 253402300800).toNat, by omega, by omega⟩
set_option maxRecDepth 100000 in
set_option maxHeartbeats 12800000 in
theorem lawForms (a n k : Int) (w : World) (eT : Value) (hF : Fv w eT) : Calls Tryd.prog 3 #[.agg #[.int .i64 a, .int .i64 n, .int .i64 k]] w fun q w' => q = .returned (.bool true) ∧ Below w.heap.size w w' := by
  obtain ⟨s, hs, hp⟩ := pick_nat a
  obtain ⟨m, hm, hq⟩ := pick_nat n
  have HP1 : Hid (∀ W, Calls Tryd.prog 4 #[.int .i64 a, .int .i64 253402300800] W fun e w' => e = .returned (.int .i64 (s : Int)) ∧ w' = W) := fun W => by
    have h := kitw.pick_all a 253402300800 W (by omega) (by omega); rw [hp] at h; exact h
  have HP2 : Hid (∀ W, Calls Tryd.prog 4 #[.int .i64 n, .int .i64 253402300800] W fun e w' => e = .returned (.int .i64 (m : Int)) ∧ w' = W) := fun W => by
    have h := kitw.pick_all n 253402300800 W (by omega) (by omega); rw [hq] at h; exact h
  have B0 : Below w.heap.size w (w.alloc (spo a n k)) := (Below.refl _ _).alloc (Nat.le_refl _) _
  have o0 := heap_new w (spo a n k)
  have HF0 := hide (fun W (h : Below w.heap.size w W) => hF.fr h)
  have HB0 := hide B0
  have HO0 := hide o0
  have HC := hide (civil_ok s (w.alloc (spo a n k)) (HF0.out _ B0).mt hs)
  obtain ⟨c0, c1⟩ := spc o0
  obtain ⟨zm, hzm⟩ := has_date m
  have HZM := hide hzm
  clear hp hq B0 o0 hF hzm
  go_enter Tryd.func3, Tryd.ntmps3
  go_wp2_with fail
  refine (HP1.out _).mono ?_
  rintro q w0 ⟨rfl, e0⟩
  subst e0
  go_wp2_with fail
  refine (HP2.out _).mono ?_
  rintro q w0 ⟨rfl, e0⟩
  subst e0
  go_wp2_with fail
  refine HC.out.mono ?_
  rintro q w1 ⟨x, rfl, hx, b1⟩
  have hv := vd_is hx hs
  have hfm := hv.fm
  have hd : x.d < 100 := by have := hx.ok.d1; have := (md_most x.y x.m hx.ok.m0 hx.ok.m1).2; omega
  have B1 : Below w.heap.size w (w1.alloc (ob x)) := (keepW HB0.out b1 HB0.out.size).alloc (Nat.le_trans HB0.out.size b1.size) _
  have o1 := heap_new w1 (ob x)
  have s1 : (w1.alloc (ob x)).heap[w.heap.size]? = some (spo a n k) := blk (blk HO0.out b1) ((Below.refl _ _).alloc (Nat.le_refl _) _)
  have HDT := hide (dated_any x hx.ok hfm.w hv.y1 (w1.alloc (ob x)))
  have HR1 := hide (obr o1)
  have HB1 := hide B1
  have HO1 := hide o1
  have HS1 := hide s1
  have HX := hide hx
  have HV := hide hv
  have HFM := hide hfm
  clear HB0 HO0 HC HP1 HP2 c0 c1 b1 B1 o1 s1 hx hv hfm
  unfold dv at HDT ⊢
  go_wp2_with (refine wpList_load_mid rfl 26 (.tmp 5) rfl w1.heap.size 0 rfl _ _ HR1.out Tryd.underlying26 rfl sizeD ?_)
  refine HDT.out.mono ?_
  rintro q w2 ⟨rfl, b2⟩
  have B2 := keepW HB1.out b2 HB1.out.size
  have HFO := hide (forms_any x HFM.out hd w2 (HF0.out _ B2).lf)
  have HR2 := hide (obr (blk HO1.out b2))
  have HO2 := hide (blk HO1.out b2)
  have HS2 := hide (blk HS1.out b2)
  have HB2 := hide B2
  clear HB1 HO1 HS1 HR1 HDT b2 B2 hd
  unfold dv at HFO
  go_wp2_with (refine wpList_load_mid rfl 26 (.tmp 5) rfl w1.heap.size 0 rfl _ _ HR2.out Tryd.underlying26 rfl sizeD ?_)
  refine HFO.out.mono ?_
  rintro q w3 ⟨rfl, b3⟩
  have hsec : (x.sec : Int) = (s : Int) := by rw [HX.out.sec]
  obtain ⟨n0, n1, n2, n3⟩ := nearY_is x.y k HX.out.ok.y0 HV.out.y1
  obtain ⟨zn, hzn⟩ := has_date (86400 * yb (nearY x.y k))
  have hzy := year_of n0 hzn
  have hzs := near_small n0 n1
  have hx9 := HV.out.y1
  have R0 : Hid (∀ W, Fv W eT → Calls Tryd.prog 10 #[.string (tx (imfL x)), .int .i64 (m : Int)] W fun e w' => e = .returned (.tuple #[.int .i64 (s : Int), .nilIface]) ∧ Below W.heap.size W w') := fun W hW => by
    rw [← hsec]; exact rd_is _ x HV.out m zm HZM.out hm ⟨HFM.out, Or.inl rfl⟩ eT W hW
  have R1 : Hid (∀ W, Fv W eT → Calls Tryd.prog 10 #[.string (tx (rfcL x)), .int .i64 ((86400 * yb (nearY x.y k) : Nat) : Int)] W fun e w' => e = .returned (.tuple #[.int .i64 (s : Int), .nilIface]) ∧ Below W.heap.size W w') := fun W hW => by
    rw [← hsec]; exact rd_is _ x HV.out _ zn hzn hzs ⟨HFM.out, Or.inr (Or.inl ⟨rfl, by rw [hzy]; omega, by rw [hzy]; omega⟩)⟩ eT W hW
  have R2 : Hid (∀ W, Fv W eT → Calls Tryd.prog 10 #[.string (tx (ascL false x)), .int .i64 (m : Int)] W fun e w' => e = .returned (.tuple #[.int .i64 (s : Int), .nilIface]) ∧ Below W.heap.size W w') := fun W hW => by
    rw [← hsec]; exact rd_is _ x HV.out m zm HZM.out hm ⟨HFM.out, Or.inr (Or.inr (Or.inr rfl))⟩ eT W hW
  have R3 : Hid (∀ W, Fv W eT → Calls Tryd.prog 10 #[.string (tx (ascL true x)), .int .i64 (m : Int)] W fun e w' => e = .returned (.tuple #[.int .i64 (s : Int), .nilIface]) ∧ Below W.heap.size W w') := fun W hW => by
    rw [← hsec]; exact rd_is _ x HV.out m zm HZM.out hm ⟨HFM.out, Or.inr (Or.inr (Or.inl rfl))⟩ eT W hW
  have HNR := hide (fun W => near_any x k HX.out.ok.y0 hx9 W)
  have B3 : Below w.heap.size w (w3.alloc (frm (tx (imfL x)) (tx (rfcL x)) (tx (ascL false x)) (tx (ascL true x)))) := (keepW HB2.out b3 HB2.out.size).alloc (Nat.le_trans HB2.out.size b3.size) _
  have HFX : Hid (Calls Tryd.prog 8 #[.int .i64 (s : Int)] (w3.alloc (frm (tx (imfL x)) (tx (rfcL x)) (tx (ascL false x)) (tx (ascL true x)))) fun e w' => e = .returned (.tuple #[.string (tx (imfL x)), .nilIface]) ∧ Below (w3.alloc (frm (tx (imfL x)) (tx (rfcL x)) (tx (ascL false x)) (tx (ascL true x)))).heap.size (w3.alloc (frm (tx (imfL x)) (tx (rfcL x)) (tx (ascL false x)) (tx (ascL true x)))) w') := by
    have f3 := HF0.out _ B3
    exact (fixdate_ok s _ f3.mt f3.pw f3.wt f3.ot hs).mono fun e w' ⟨y, h1, h2, h3⟩ => ⟨by rw [h1, h2.one HX.out], h3⟩
  have HO3 := hide (blk HO2.out b3)
  have HS3 := hide (blk HS2.out b3)
  have HB3 := hide B3
  have HQ3 : Hid (Below w3.heap.size w3 (w3.alloc (frm (tx (imfL x)) (tx (rfcL x)) (tx (ascL false x)) (tx (ascL true x))))) := (Below.refl _ _).alloc (Nat.le_refl _) _
  have HG3 := hide (heap_new w3 (frm (tx (imfL x)) (tx (rfcL x)) (tx (ascL false x)) (tx (ascL true x))))
  clear HB2 HO2 HS2 HR2 HFO b3 B3 hsec n0 n1 n2 n3 hzn hzy hzs hx9 HZM HV HFM HX hm hs
  generalize 86400 * yb (nearY x.y k) = NR at *
  generalize tx (imfL x) = T0 at *
  generalize tx (rfcL x) = T1 at *
  generalize tx (ascL false x) = T2 at *
  generalize tx (ascL true x) = T3 at *
  unfold dv at HNR
  go_wp2_with fail
  refine HFX.out.mono ?_
  rintro q w4 ⟨rfl, b4⟩
  have HS : Hid (Fs w w4 w1.heap.size w3.heap.size a n k x T0 T1 T2 T3) := ⟨blk (blk HS3.out HQ3.out) b4, blk (blk HO3.out HQ3.out) b4, blk HG3.out b4, keepW HB3.out b4 HB3.out.size⟩
  obtain ⟨_, f0, _, _, _⟩ := HS.out.cells
  clear HB3 HO3 HS3 HQ3 HG3 HFX b4
  go_wp2_with fail
  clear f0
  go_loopw [11, 12, 13, 14] (fun i _ _ _ wr => (i = .int .i64 0 ∨ i = .int .i64 1 ∨ i = .int .i64 2 ∨ i = .int .i64 3 ∨ i = .int .i64 4) ∧ Fs w wr w1.heap.size w3.heap.size a n k x T0 T1 T2 T3) (fun i _ _ _ _ => 4 - (intOf i).toNat)
  case atStart => exact ⟨Or.inl rfl, HS.out⟩
  case round =>
    obtain ⟨hi, hS⟩ := hrel
    obtain ⟨c2, f0, f1, f2, f3⟩ := hS.cells
    have HSS := hide hS
    have HFW := hide (HF0.out _ hS.bel)
    have HOR := hide (obr hS.dt)
    clear hS HS
    rcases hi with rfl | rfl | rfl | rfl | rfl
    · go_wp2_with fail
      refine (R0.out _ HFW.out).mono ?_
      rintro q w5 ⟨rfl, b5⟩
      have HS5 := hide (HSS.out.next b5)
      clear c2 f0 f1 f2 f3 b5 HSS HOR HFW
      go_wp2_with fail
      go_roundw
      case rel => exact ⟨Or.inr (Or.inl rfl), HS5.out⟩
      case measure => simp [intOf]
    · go_wp2_with (refine wpList_load_mid rfl 26 (.tmp 5) rfl w1.heap.size 0 rfl _ _ HOR.out Tryd.underlying26 rfl sizeD ?_)
      refine (HNR.out _).mono ?_
      rintro q w5 ⟨rfl, b5⟩
      have HS5 := hide (HSS.out.next b5)
      obtain ⟨_, _, g1, _, _⟩ := HS5.out.cells
      clear c2 f0 f1 f2 f3 b5 HSS HOR HFW
      go_wp2_with fail
      refine (R1.out _ (HF0.out _ HS5.out.bel)).mono ?_
      rintro q w6 ⟨rfl, b6⟩
      have HS6 := hide (HS5.out.next b6)
      clear g1 b6 HS5
      go_wp2_with fail
      go_roundw
      case rel => exact ⟨Or.inr (Or.inr (Or.inl rfl)), HS6.out⟩
      case measure => simp [intOf]
    · go_wp2_with fail
      refine (R2.out _ HFW.out).mono ?_
      rintro q w5 ⟨rfl, b5⟩
      have HS5 := hide (HSS.out.next b5)
      clear c2 f0 f1 f2 f3 b5 HSS HOR HFW
      go_wp2_with fail
      go_roundw
      case rel => exact ⟨Or.inr (Or.inr (Or.inr (Or.inl rfl))), HS5.out⟩
      case measure => simp [intOf]
    · go_wp2_with fail
      refine (R3.out _ HFW.out).mono ?_
      rintro q w5 ⟨rfl, b5⟩
      have HS5 := hide (HSS.out.next b5)
      clear c2 f0 f1 f2 f3 b5 HSS HOR HFW
      go_wp2_with fail
      go_roundw
      case rel => exact ⟨Or.inr (Or.inr (Or.inr (Or.inr rfl))), HS5.out⟩
      case measure => simp [intOf]
    · clear c2 f0 f1 f2 f3
      go_wp2_with fail
      go_ret
      exact ⟨rfl, HSS.out.bel⟩
end Go.Proofs.YtlbhiefamnpphaaDoor.jf
