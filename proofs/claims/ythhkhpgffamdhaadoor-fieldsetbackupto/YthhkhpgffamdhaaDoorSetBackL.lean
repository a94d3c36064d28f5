import Derived.Test.YthhkhpgffamdhaaDoorSeemW3
import Derived.Test.YthhkhpgffamdhaaDoorCrumb
import Derived.Test.YthhkhpgffamdhaaDoorFourOpenS
namespace Go.Proofs.YthhkhpgffamdhaaDoor.fd
open Go.ChangeShapes Go.WideShapes Go.ChangeAt Go.RowKit Go.Proofs.YthhkhpgffamdhaaDoor.common Go.Proofs.YthhkhpgffamdhaaDoor.bk
attribute [local go_sem ↓] Go.wp_at_zero Go.wp_at_succ

theorem err_eqlS (w : World) (a : Addr) : (binOp .eql 28 (X a) (X a)).run Tryd.prog w = .ok (.bool true) w := by
  obtain ⟨info, hinfo, hcomp⟩ := Option.map_eq_some_iff.1 errw.compErr
  obtain ⟨jinfo, hj1, hj2⟩ := Option.map_eq_some_iff.1 errw.sizeErr
  exact run_eql_iface_ptr_same w a Tryd.underlying28 Tryd.underlying172 hinfo hcomp hj1
theorem err_neqS (w : World) (a : Addr) : (binOp .neq 28 (X a) (X a)).run Tryd.prog w = .ok (.bool false) w := by
  obtain ⟨info, hinfo, hcomp⟩ := Option.map_eq_some_iff.1 errw.compErr
  obtain ⟨jinfo, hj1, hj2⟩ := Option.map_eq_some_iff.1 errw.sizeErr
  simp only [binOp]
  simp [Op.equal, Op.maxDepth, run_equalIn_iface_ptr_same w 9998 a Tryd.underlying28 Tryd.underlying172 hinfo hcomp hj1]
theorem not_good_nil (n v : ByteArray) (m : Int) : ¬ Good [] n v m := by
  rintro ⟨_, _, h⟩
  rw [set_list] at h
  simp at h
/-- the age that is read back -/
def ageOf (m : Int) : Int := if m < 0 then -1 else m
theorem good_back (n v : ByteArray) (m : Int) (hm : inR m) (h : isCk n v = true) : Good (setB n v m).data.toList n v (ageOf m) := by
  unfold ageOf
  by_cases h0 : m < 0
  · rw [if_pos h0]
    exact ⟨h, Or.inl rfl, by rw [set_low n v m (by omega)]⟩
  · rw [if_neg h0]
    exact ⟨h, Or.inr ⟨by omega, hm.2⟩, rfl⟩

set_option maxRecDepth 100000 in
set_option maxHeartbeats 6400000 in
theorem lawSetBack (n v : ByteArray) (m : Int) (tx : ByteArray) (w : World) (hm : inR m) (hs : n.size + v.size ≤ 1048576) (ht : tx.size ≤ 1048576) (ea : Addr) (he : Env6 w ea) :
    Calls Tryd.prog 7 #[.agg #[.string n, .string v, .int .i64 m, .string tx]] w fun x w' => x = .returned (.bool true) ∧ Below w.heap.size w w' := by
  obtain ⟨hx0, hx1, hx2, hx3, hbox⟩ := box4 w (.string n) (.string v) (.int .i64 m) (.string tx) 54
  have HX0 := hide hx0
  have HX1 := hide hx1
  have HX2 := hide hx2
  have HX3 := hide hx3
  have HBOX := hide hbox
  have HE := hide (he.below hbox)
  clear hx0 hx1 hx2 hx3 hbox he
  have hsb : (setB n v m).size ≤ 4194304 := by
    have h1 := attrB_size m hm
    rw [show setB n v m = ckB n v ++ attrB m from rfl, ByteArray.size_append, ckB_size]
    omega
  go_enter Tryd.func7, Tryd.ntmps7
  obtain ⟨W0, hW0⟩ : ∃ W0 : World, w.alloc (.cells #[.string n, .string v, .int .i64 m, .string tx] 54) = W0 := ⟨_, rfl⟩
  rw [hW0] at HX0 HX1 HX2 HX3 HBOX HE
  have HW0 := hide hW0
  have a0 := HX0.out W0 (Below.refl _ _)
  have a1 := HX1.out W0 (Below.refl _ _)
  have a2 := HX2.out W0 (Below.refl _ _)
  rw [← hW0] at a0 a1 a2
  clear hW0
  go_wp2_with fail
  rw [HW0.out]
  clear a0 a1 a2
  have H1 := hide (fun W (hW : Env6 W ea) => setCookie_any n v m W hm (by omega) hW.pow (X ea) hW.txt)
  have H3 : Hid (∀ W, Below W0.heap.size W0 W → Calls Tryd.prog 25 #[.string tx] W fun e w' => RdOut tx.data.toList (X ea) .nilIface e ∧ Below W.heap.size W w') := fun W hW => readSet_any tx W ea (by omega) (HE.out.below hW)
  refine (H1.out W0 HE.out).mono ?_
  rintro x w1 ⟨rfl, hb1⟩
  have HB1 := hide hb1
  clear hb1
  cases hck : isCk n v with
  | false =>
    rw [if_neg (by decide)]
    go_wp2_with fail
    refine (readSet_any ⟨#[]⟩ w1 ea (by decide) (HE.out.below HB1.out)).mono ?_
    rintro x w2 ⟨hro, hb2⟩
    have HB2 := hide (keepD HB1.out hb2)
    clear hb2
    rcases hro with ⟨n2, v2, m2, hg2, _⟩ | ⟨_, rfl⟩
    · exact absurd hg2 (not_good_nil _ _ _)
    · have HC2 : Hid (ckC ⟨#[]⟩ ⟨#[]⟩ 0 = .agg #[.string ⟨#[]⟩, .string ⟨#[]⟩, .int .i64 0]) := rfl
      rw [HC2.out]
      obtain ⟨W2, hW2⟩ : ∃ W2 : World, w2.alloc (.cells #[.string ⟨#[]⟩, .string ⟨#[]⟩, .int .i64 0] 52) = W2 := ⟨_, rfl⟩
      have HBW2 : Hid (Below W0.heap.size W0 W2) := by rw [← hW2]; exact HB2.out.alloc HB2.out.size _
      have HW2 := hide hW2
      have a0 := HX0.out W2 HBW2.out
      rw [← hW2] at a0
      clear hW2
      go_wp2_with fail
      rw [HW2.out]
      clear a0
      refine (token_any n W2 (by omega)).mono ?_
      rintro x w3 ⟨rfl, hb3⟩
      have HB3 := hide (keepD HBW2.out hb3)
      clear hb3
      unfold isCk at hck
      cases htk : Fd.token n.data.toList with
      | false =>
        have hq := err_neqS w3 ea
        have hx : w3.cell? ⟨0, 0, none⟩ = some (X ea) := (HE.out.below HB3.out).txt
        have b3 := HX3.out w3 HB3.out
        have HBk := hide HB3.out
        clear hck htk
        go_wp2_with fail
        refine (H3.out _ HBk.out).mono ?_
        rintro x w8 ⟨hro, hb8⟩
        have HB8 := hide (keepD HBk.out hb8)
        clear hb8
        rcases hro with ⟨n2, v2, m2, hg2, rfl⟩ | ⟨_, rfl⟩
        · obtain ⟨gk, gm, gl⟩ := hg2
          have heq : setB n2 v2 m2 = tx := ba_ext gl
          have hm2 : (-1 : Int) ≤ m2 := by omega
          have hin2 : inR m2 := by unfold inR; omega
          have hsz2 : n2.size + v2.size ≤ 4611686018427387000 := by
            have h1 := congrArg ByteArray.size heq
            rw [show setB n2 v2 m2 = ckB n2 v2 ++ attrB m2 from rfl, ByteArray.size_append, ckB_size] at h1
            omega
          have H4 := hide (fun W (hW : Env6 W ea) => setCookie_any n2 v2 m2 W hin2 hsz2 hW.pow (X ea) hW.txt)
          rw [gk, if_pos rfl, heq] at H4
          have HC2 : Hid (ckC n2 v2 m2 = .agg #[.string n2, .string v2, .int .i64 m2]) := rfl
          rw [HC2.out]
          clear gk gm gl heq hsz2
          go_wp2_with fail
          obtain ⟨z0, z1, z2, hbl8⟩ := box3 w8 (.string n2) (.string v2) (.int .i64 m2) 52
          have HB9 := hide (keepD HB8.out hbl8)
          clear hbl8
          generalize w8.alloc (.cells #[.string n2, .string v2, .int .i64 m2] 52) = W9 at *
          refine (H4.out W9 (HE.out.below HB9.out)).mono ?_
          rintro x w10 ⟨rfl, hb10⟩
          have zz2 := z2 w10 hb10
          have HB10 := hide (keepD HB9.out hb10)
          have xt := HX3.out w10 HB10.out
          clear hb10 z0 z1 z2
          go_wp2_with fail
          go_ret
          exact ⟨by simp, HBOX.out.trans (HB10.out.mono HBOX.out.size)⟩
        · have HC2 : Hid (ckC ⟨#[]⟩ ⟨#[]⟩ 0 = .agg #[.string ⟨#[]⟩, .string ⟨#[]⟩, .int .i64 0]) := rfl
          rw [HC2.out]
          have hq2 := err_eqlS (w8.alloc (.cells #[.string ⟨#[]⟩, .string ⟨#[]⟩, .int .i64 0] 52)) ea
          have hx8 : (w8.alloc (.cells #[.string ⟨#[]⟩, .string ⟨#[]⟩, .int .i64 0] 52)).cell? ⟨0, 0, none⟩ = some (X ea) := ((HE.out.below HB8.out).below ((Below.refl _ _).alloc (Nat.le_refl _) _)).txt
          go_wp2_with fail
          go_ret
          exact ⟨by simp, HBOX.out.trans ((HB8.out.alloc (HB8.out.size) _).mono HBOX.out.size)⟩
      | true =>
        rw [htk, Bool.true_and] at hck
        have b1 := HX1.out w3 HB3.out
        go_wp2_with fail
        refine (crumb_any v w3 (by omega)).mono ?_
        rintro x w4 ⟨rfl, rfl⟩
        rw [hck]
        have hq := err_neqS w4 ea
        have hx : w4.cell? ⟨0, 0, none⟩ = some (X ea) := (HE.out.below HB3.out).txt
        have b3 := HX3.out w4 HB3.out
        have HBk := hide HB3.out
        clear hck htk b1
        go_wp2_with fail
        refine (H3.out _ HBk.out).mono ?_
        rintro x w8 ⟨hro, hb8⟩
        have HB8 := hide (keepD HBk.out hb8)
        clear hb8
        rcases hro with ⟨n2, v2, m2, hg2, rfl⟩ | ⟨_, rfl⟩
        · obtain ⟨gk, gm, gl⟩ := hg2
          have heq : setB n2 v2 m2 = tx := ba_ext gl
          have hm2 : (-1 : Int) ≤ m2 := by omega
          have hin2 : inR m2 := by unfold inR; omega
          have hsz2 : n2.size + v2.size ≤ 4611686018427387000 := by
            have h1 := congrArg ByteArray.size heq
            rw [show setB n2 v2 m2 = ckB n2 v2 ++ attrB m2 from rfl, ByteArray.size_append, ckB_size] at h1
            omega
          have H4 := hide (fun W (hW : Env6 W ea) => setCookie_any n2 v2 m2 W hin2 hsz2 hW.pow (X ea) hW.txt)
          rw [gk, if_pos rfl, heq] at H4
          have HC2 : Hid (ckC n2 v2 m2 = .agg #[.string n2, .string v2, .int .i64 m2]) := rfl
          rw [HC2.out]
          clear gk gm gl heq hsz2
          go_wp2_with fail
          obtain ⟨z0, z1, z2, hbl8⟩ := box3 w8 (.string n2) (.string v2) (.int .i64 m2) 52
          have HB9 := hide (keepD HB8.out hbl8)
          clear hbl8
          generalize w8.alloc (.cells #[.string n2, .string v2, .int .i64 m2] 52) = W9 at *
          refine (H4.out W9 (HE.out.below HB9.out)).mono ?_
          rintro x w10 ⟨rfl, hb10⟩
          have zz2 := z2 w10 hb10
          have HB10 := hide (keepD HB9.out hb10)
          have xt := HX3.out w10 HB10.out
          clear hb10 z0 z1 z2
          go_wp2_with fail
          go_ret
          exact ⟨by simp, HBOX.out.trans (HB10.out.mono HBOX.out.size)⟩
        · have HC2 : Hid (ckC ⟨#[]⟩ ⟨#[]⟩ 0 = .agg #[.string ⟨#[]⟩, .string ⟨#[]⟩, .int .i64 0]) := rfl
          rw [HC2.out]
          have hq2 := err_eqlS (w8.alloc (.cells #[.string ⟨#[]⟩, .string ⟨#[]⟩, .int .i64 0] 52)) ea
          have hx8 : (w8.alloc (.cells #[.string ⟨#[]⟩, .string ⟨#[]⟩, .int .i64 0] 52)).cell? ⟨0, 0, none⟩ = some (X ea) := ((HE.out.below HB8.out).below ((Below.refl _ _).alloc (Nat.le_refl _) _)).txt
          go_wp2_with fail
          go_ret
          exact ⟨by simp, HBOX.out.trans ((HB8.out.alloc (HB8.out.size) _).mono HBOX.out.size)⟩
  | true =>
    rw [if_pos rfl]
    have HGB := hide (good_back n v m hm hck)
    go_wp2_with fail
    refine (readSet_any (setB n v m) w1 ea hsb (HE.out.below HB1.out)).mono ?_
    rintro x w2 ⟨hro, hb2⟩
    have HB2 := hide (keepD HB1.out hb2)
    clear hb2
    rcases hro with ⟨n2, v2, m2, hg2, rfl⟩ | ⟨hno, _⟩
    · obtain ⟨rfl, rfl, rfl⟩ := good_eq hg2 HGB.out
      clear hg2
      have HC2 : Hid (ckC n2 v2 (ageOf m) = .agg #[.string n2, .string v2, .int .i64 (ageOf m)]) := rfl
      rw [HC2.out]
      obtain ⟨htk, hcv⟩ := (Bool.and_eq_true _ _).mp (show (Fd.token n2.data.toList && v2.data.toList.all Fd.ck) = true from hck)
      obtain ⟨y0, y1, y2, hbl2⟩ := box3 w2 (.string n2) (.string v2) (.int .i64 (ageOf m)) 52
      have HBW2 := hide (keepD HB2.out hbl2)
      have HY0 := hide y0
      have HY1 := hide y1
      have HY2 := hide y2
      have a0 := HX0.out _ HBW2.out
      clear hbl2 y0 y1 y2
      obtain ⟨W2, hW2⟩ : ∃ W2 : World, w2.alloc (.cells #[.string n2, .string v2, .int .i64 (ageOf m)] 52) = W2 := ⟨_, rfl⟩
      rw [hW2] at HBW2 HY0 HY1 HY2
      have HW2 := hide hW2
      have HS2 : Hid (W2.heap.size = w2.heap.size + 1) := by show _ = _; rw [← hW2]; simp
      clear hW2
      go_wp2_with fail
      rw [HW2.out]
      clear a0
      refine (token_any n2 W2 (by omega)).mono ?_
      rintro x w3 ⟨rfl, hb3⟩
      have HB3 := hide (keepD HBW2.out hb3)
      have HB23 := hide hb3
      clear hb3
      rw [htk]
      have b1 := HX1.out w3 HB3.out
      go_wp2_with fail
      refine (crumb_any v2 w3 (by omega)).mono ?_
      rintro x w4 ⟨rfl, rfl⟩
      rw [hcv]
      have e0 := HX0.out w4 HB3.out
      have e1 := HX1.out w4 HB3.out
      have e2 := HX2.out w4 HB3.out
      have d0 := HY0.out w4 HB23.out
      have d1 := HY1.out w4 HB23.out
      have d2 := HY2.out w4 HB23.out
      have hlt24 : w2.heap.size < w4.heap.size := by have h1 := HB23.out.size; have h2 := HS2.out; omega
      have hlt0 : w.heap.size < w4.heap.size := World.block_lt_of_cell? w4 _ e0
      have e3 := HX3.out w4 HB3.out
      obtain ⟨u0, u1, u2, hbl4⟩ := box3 w4 (.string n2) (.string v2) (.int .i64 m) 52
      have p0 := (hbl4.cell (p := ⟨w2.heap.size, 0, none⟩) hlt24).trans d0
      have p1 := (hbl4.cell (p := ⟨w2.heap.size, 1, none⟩) hlt24).trans d1
      have p2 := (hbl4.cell (p := ⟨w2.heap.size, 2, none⟩) hlt24).trans d2
      have p3 := (hbl4.cell (p := ⟨w.heap.size, 3, none⟩) hlt0).trans e3
      have q0 := u0 _ (Below.refl _ _)
      have q1 := u1 _ (Below.refl _ _)
      have q2 := u2 _ (Below.refl _ _)
      have f2 : (w4.alloc (.cells #[.string n2, .string v2, .int .i64 m] 52)).frozen? ⟨w4.heap.size, 2, none⟩ = false := World.frozen?_alloc_at _ _ _ _ rfl
      have HBA := hide (keepD HB3.out hbl4)
      have hle4 : W0.heap.size ≤ w4.heap.size := HB3.out.size
      clear u0 u1 u2 hbl4 b1 hck htk hcv HX0 HX1 HX2 HY0 HY1 HY2
      by_cases h0 : m < 0
      · have hag : ageOf m = -1 := by unfold ageOf; rw [if_pos h0]
        rw [hag] at p2 ⊢
        obtain ⟨x0, x1, x2, hblB⟩ := box3 w4 (.string n2) (.string v2) (.int .i64 (-1)) 52
        have r0 := (hblB.cell (p := ⟨w2.heap.size, 0, none⟩) hlt24).trans d0
        have r1 := (hblB.cell (p := ⟨w2.heap.size, 1, none⟩) hlt24).trans d1
        have r2 := (hblB.cell (p := ⟨w2.heap.size, 2, none⟩) hlt24).trans d2
        rw [hag] at r2
        have r3 := (hblB.cell (p := ⟨w.heap.size, 3, none⟩) hlt0).trans e3
        have s0 := x0 _ (Below.refl _ _)
        have s1 := x1 _ (Below.refl _ _)
        have s2 := x2 _ (Below.refl _ _)
        have HBk := hide (keepD HB3.out hblB)
        clear x0 x1 x2 hblB
        clear hag
        go_wp2_with fail
        refine (H3.out _ HBk.out).mono ?_
        rintro x w8 ⟨hro, hb8⟩
        have HB8 := hide (keepD HBk.out hb8)
        clear hb8
        rcases hro with ⟨n2, v2, m2, hg2, rfl⟩ | ⟨_, rfl⟩
        · obtain ⟨gk, gm, gl⟩ := hg2
          have heq : setB n2 v2 m2 = tx := ba_ext gl
          have hm2 : (-1 : Int) ≤ m2 := by omega
          have hin2 : inR m2 := by unfold inR; omega
          have hsz2 : n2.size + v2.size ≤ 4611686018427387000 := by
            have h1 := congrArg ByteArray.size heq
            rw [show setB n2 v2 m2 = ckB n2 v2 ++ attrB m2 from rfl, ByteArray.size_append, ckB_size] at h1
            omega
          have H4 := hide (fun W (hW : Env6 W ea) => setCookie_any n2 v2 m2 W hin2 hsz2 hW.pow (X ea) hW.txt)
          rw [gk, if_pos rfl, heq] at H4
          have HC2 : Hid (ckC n2 v2 m2 = .agg #[.string n2, .string v2, .int .i64 m2]) := rfl
          rw [HC2.out]
          clear gk gm gl heq hsz2
          go_wp2_with fail
          obtain ⟨z0, z1, z2, hbl8⟩ := box3 w8 (.string n2) (.string v2) (.int .i64 m2) 52
          have HB9 := hide (keepD HB8.out hbl8)
          clear hbl8
          generalize w8.alloc (.cells #[.string n2, .string v2, .int .i64 m2] 52) = W9 at *
          refine (H4.out W9 (HE.out.below HB9.out)).mono ?_
          rintro x w10 ⟨rfl, hb10⟩
          have zz2 := z2 w10 hb10
          have HB10 := hide (keepD HB9.out hb10)
          have xt := HX3.out w10 HB10.out
          clear hb10 z0 z1 z2
          go_wp2_with fail
          go_ret
          exact ⟨by simp, HBOX.out.trans (HB10.out.mono HBOX.out.size)⟩
        · have HC2 : Hid (ckC ⟨#[]⟩ ⟨#[]⟩ 0 = .agg #[.string ⟨#[]⟩, .string ⟨#[]⟩, .int .i64 0]) := rfl
          rw [HC2.out]
          have hq2 := err_eqlS (w8.alloc (.cells #[.string ⟨#[]⟩, .string ⟨#[]⟩, .int .i64 0] 52)) ea
          have hx8 : (w8.alloc (.cells #[.string ⟨#[]⟩, .string ⟨#[]⟩, .int .i64 0] 52)).cell? ⟨0, 0, none⟩ = some (X ea) := ((HE.out.below HB8.out).below ((Below.refl _ _).alloc (Nat.le_refl _) _)).txt
          go_wp2_with fail
          go_ret
          exact ⟨by simp, HBOX.out.trans ((HB8.out.alloc (HB8.out.size) _).mono HBOX.out.size)⟩
      · have h0' : ¬ m < 0 := h0
        have hag : ageOf m = m := by unfold ageOf; rw [if_neg h0]
        rw [hag] at p2 ⊢
        have HBk := hide HBA.out
        clear hag
        go_wp2_with fail
        refine (H3.out _ HBk.out).mono ?_
        rintro x w8 ⟨hro, hb8⟩
        have HB8 := hide (keepD HBk.out hb8)
        clear hb8
        rcases hro with ⟨n2, v2, m2, hg2, rfl⟩ | ⟨_, rfl⟩
        · obtain ⟨gk, gm, gl⟩ := hg2
          have heq : setB n2 v2 m2 = tx := ba_ext gl
          have hm2 : (-1 : Int) ≤ m2 := by omega
          have hin2 : inR m2 := by unfold inR; omega
          have hsz2 : n2.size + v2.size ≤ 4611686018427387000 := by
            have h1 := congrArg ByteArray.size heq
            rw [show setB n2 v2 m2 = ckB n2 v2 ++ attrB m2 from rfl, ByteArray.size_append, ckB_size] at h1
            omega
          have H4 := hide (fun W (hW : Env6 W ea) => setCookie_any n2 v2 m2 W hin2 hsz2 hW.pow (X ea) hW.txt)
          rw [gk, if_pos rfl, heq] at H4
          have HC2 : Hid (ckC n2 v2 m2 = .agg #[.string n2, .string v2, .int .i64 m2]) := rfl
          rw [HC2.out]
          clear gk gm gl heq hsz2
          go_wp2_with fail
          obtain ⟨z0, z1, z2, hbl8⟩ := box3 w8 (.string n2) (.string v2) (.int .i64 m2) 52
          have HB9 := hide (keepD HB8.out hbl8)
          clear hbl8
          generalize w8.alloc (.cells #[.string n2, .string v2, .int .i64 m2] 52) = W9 at *
          refine (H4.out W9 (HE.out.below HB9.out)).mono ?_
          rintro x w10 ⟨rfl, hb10⟩
          have zz2 := z2 w10 hb10
          have HB10 := hide (keepD HB9.out hb10)
          have xt := HX3.out w10 HB10.out
          clear hb10 z0 z1 z2
          go_wp2_with fail
          go_ret
          exact ⟨by simp, HBOX.out.trans (HB10.out.mono HBOX.out.size)⟩
        · have HC2 : Hid (ckC ⟨#[]⟩ ⟨#[]⟩ 0 = .agg #[.string ⟨#[]⟩, .string ⟨#[]⟩, .int .i64 0]) := rfl
          rw [HC2.out]
          have hq2 := err_eqlS (w8.alloc (.cells #[.string ⟨#[]⟩, .string ⟨#[]⟩, .int .i64 0] 52)) ea
          have hx8 : (w8.alloc (.cells #[.string ⟨#[]⟩, .string ⟨#[]⟩, .int .i64 0] 52)).cell? ⟨0, 0, none⟩ = some (X ea) := ((HE.out.below HB8.out).below ((Below.refl _ _).alloc (Nat.le_refl _) _)).txt
          go_wp2_with fail
          go_ret
          exact ⟨by simp, HBOX.out.trans ((HB8.out.alloc (HB8.out.size) _).mono HBOX.out.size)⟩
    · exact absurd HGB.out (hno _ _ _)

end Go.Proofs.YthhkhpgffamdhaaDoor.fd
