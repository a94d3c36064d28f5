import Derived.Test.YtaejlcffimkopaaDoorRefFm
namespace Go.Proofs.YtaejlcffimkopaaDoor.pg
open Go.ChangeShapes Go.WideShapes Go.ChangeAt Go.RowKit Go.Proofs.YtaejlcffimkopaaDoor.common Go.Maps
attribute [local go_sem ↓] Go.wp_at_zero Go.wp_at_succ

def refPageR (t : ByteArray) (ls : List ByteArray) (fs : List Frm) : Value := if fs.all okF = true then .tuple #[S (pageL t ls fs), .int .i64 0] else .tuple #[S [], .int .i64 1]
theorem head_is (t : ByteArray) : (mPageHead ++ eb t ++ mPageTitle ++ eb t ++ mPageBody).data.toList = partsA true (headP t) := by
  simp only [cat_list, List.append_assoc]
  simp only [headP, partsA, List.append_nil]
theorem lineT_is (s : ByteArray) : (mLineHead ++ eb s ++ mLineEnd).data.toList = lineT s := by
  simp only [cat_list, List.append_assoc]
  show _ = partsA true [mLineHead, s, mLineEnd]
  simp only [partsA, List.append_nil]

set_option maxRecDepth 100000 in
set_option maxHeartbeats 3200000 in
theorem refPage_any (w : World) (t : ByteArray) (vL vF : Value) (ls : List ByteArray) (fs : List Frm) (hL : LiesS w vL ls) (hF : LiesF w vF fs) (hl : 6 * pageW t ls fs + 6 ≤ 140737488355) (hls : ls.length ≤ 4611686018427387904) (hfs : fs.length ≤ 4611686018427387904) (hfi : ∀ f ∈ fs, f.ins.length ≤ 4611686018427387904) :
    Calls Tryd.prog 26 #[.agg #[.string t, vL, vF]] w fun e w' => e = .returned (refPageR t ls fs) ∧ Below w.heap.size w w' := by
  obtain ⟨ol, cl, rfl, hLc⟩ := hL
  obtain ⟨of, cf, rfl, hFc⟩ := hF
  have hpl : 6 * (t.size + t.size + linesW ls + frmsW fs + 300) + 6 ≤ 140737488355 := hl
  have BA : Below w.heap.size w (w.alloc (.cells #[.string t, .slice ol ls.length cl, .slice of fs.length cf] 25)) := (Below.refl _ _).alloc (Nat.le_refl _) _
  have hP : (w.alloc (.cells #[.string t, .slice ol ls.length cl, .slice of fs.length cf] 25)).heap[w.heap.size]? = some (.cells #[.string t, .slice ol ls.length cl, .slice of fs.length cf] 25) := by show (w.heap.push _)[w.heap.size]? = _; simp
  have hPl := (Array.getElem?_eq_some_iff.1 hP).1
  have HP := hide hP
  have HBA := hide BA
  have HLC := hide hLc
  have HFC := hide hFc
  clear hP BA hLc hFc
  go_enter Tryd.func26, Tryd.ntmps26
  go_wp2_with fail
  generalize w.alloc (.cells #[.string t, .slice ol ls.length cl, .slice of fs.length cf] 25) = W at *
  have hwW := HBA.out.size
  go_loopw [4] (fun i wr => ∃ k : Nat, k ≤ fs.length ∧ i = .int .i64 k ∧ (fs.take k).all okF = true ∧ Below W.heap.size W wr) (fun i _ => fs.length - (intOf i).toNat)
  case atStart => exact ⟨0, by omega, rfl, by simp, Below.refl _ _⟩
  case round =>
    obtain ⟨k, hk, rfl, hok, hbw⟩ := hrel
    have HOK := hide hok
    have HBW := hide hbw
    clear hok hbw
    have hPr := (HBW.out.block _ hPl).trans HP.out
    have f2 : wr.cell? ⟨w.heap.size, 2, none⟩ = some (.slice of fs.length cf) := by simp [World.cell?, hPr]
    clear hPr
    by_cases hlt : k < fs.length
    · have hki : (k : Int) < (fs.length : Int) := by omega
      have k0 : (0 : Int) ≤ (k : Int) := Int.natCast_nonneg _
      have HS := hide (all_snoc okF fs k hlt)
      have hil := hfi fs[k] (List.getElem_mem hlt)
      have hfc := HFC.out k hlt
      obtain ⟨X, hXe⟩ : ∃ X, fs[k] = X := ⟨_, rfl⟩
      rw [hXe] at HS hil hfc
      clear hXe
      obtain ⟨fa, fi, fb⟩ := X
      obtain ⟨bl, o, vI, ho, hbl, c0, c1, c2, hI0⟩ := hfc
      cases ho
      obtain ⟨oI, cI, rfl, hIc⟩ := hI0
      have HIC := hide hIc
      have HC1 := hide c1
      clear c0 c1 c2 hIc
      simp only at hil
      go_wp2_with fail
      go_loopw [5] (fun i wx => ∃ j : Nat, j ≤ fi.length ∧ i = .int .i64 j ∧ (fi.take j).all mayB = true ∧ Below W.heap.size W wx) (fun i _ => fi.length - (intOf i).toNat)
      case atStart => exact ⟨0, by omega, rfl, by simp, HBW.out⟩
      case round =>
        obtain ⟨j, hj, rfl, hoj, hbx⟩ := hrel
        have HOJ := hide hoj
        have HBX := hide hbx
        clear hoj hbx f2
        have hbr : Below w.heap.size w wr := HBA.out.trans (HBX.out.mono hwW)
        have hPr := (HBX.out.block _ hPl).trans HP.out
        have f2 : wr.cell? ⟨w.heap.size, 2, none⟩ = some (.slice (some ⟨bl, o, none⟩) fs.length cf) := by simp [World.cell?, hPr]
        have d1 := (hbr.cell (p := ⟨bl, o + k * 3 + 1, none⟩) hbl).trans HC1.out
        clear hPr
        by_cases hlj : j < fi.length
        · have hji : (j : Int) < (fi.length : Int) := by omega
          have j0 : (0 : Int) ≤ (j : Int) := Int.natCast_nonneg _
          have HSJ := hide (all_snoc mayB fi j hlj)
          obtain ⟨b2, o2, ho, hb2, c0, c1, c2, c3⟩ := HIC.out j hlj
          cases ho
          have g0 := (hbr.cell (p := ⟨b2, o2 + j * 4, none⟩) hb2).trans c0
          have g1 := (hbr.cell (p := ⟨b2, o2 + j * 4 + 1, none⟩) hb2).trans c1
          have g2 := (hbr.cell (p := ⟨b2, o2 + j * 4 + 2, none⟩) hb2).trans c2
          have g3 := (hbr.cell (p := ⟨b2, o2 + j * 4 + 3, none⟩) hb2).trans c3
          clear c0 c1 c2 c3 hbr
          obtain ⟨Y, hYe⟩ : ∃ Y, fi[j] = Y := ⟨_, rfl⟩
          rw [hYe] at HSJ g0 g1 g2 g3
          clear hYe
          have HM := hide (refMayBe_any Y wr)
          unfold inV at HM
          go_wp2_with fail
          refine HM.out.mono ?_
          rintro e w5 ⟨rfl, hb5⟩
          have HB5 : Hid (Below W.heap.size W w5) := HBX.out.trans (hb5.mono HBX.out.size)
          clear hb5 HM g0 g1 g2 g3
          generalize mayB Y = R at *
          cases R with
          | true =>
            go_wp2_with fail
            go_roundw
            case rel => exact ⟨j + 1, by omega, by go_num, by rw [HSJ.out, HOJ.out]; rfl, HB5.out⟩
            case measure => simp [intOf] <;> omega
          | false =>
            have HNO : Hid (fs.all okF = false) := by
              refine all_head okF fs (k + 1) ?_
              rw [HS.out]
              have : okF ⟨fa, fi, fb⟩ = false := all_head mayB fi (j + 1) (by rw [HSJ.out, Bool.and_false])
              rw [this, Bool.and_false]
            have HPR : Hid (refPageR t ls fs = .tuple #[S [], .int .i64 1]) := by show _ = _; unfold refPageR; rw [HNO.out]; rfl
            have HZ : Hid (Below w.heap.size w w5) := HBA.out.trans (HB5.out.mono hwW)
            go_wp2_with fail
            go_ret2
            exact ⟨by rw [HPR.out]; rfl, HZ.out⟩
        · have hj8 : ¬ (j : Int) < (fi.length : Int) := by omega
          obtain rfl : j = fi.length := by omega
          have HOF : Hid (okF ⟨fa, fi, fb⟩ = true) := by
            have := HOJ.out
            rw [List.take_length] at this
            exact this
          clear hbr
          go_wp2_with fail
          go_roundw
          case rel => exact ⟨k + 1, by omega, by go_num, by rw [HS.out, HOK.out, HOF.out]; rfl, HBX.out⟩
          case measure => simp [intOf] <;> omega
    · have hk8 : ¬ (k : Int) < (fs.length : Int) := by omega
      obtain rfl : k = fs.length := by omega
      have hall : fs.all okF = true := by
        have := HOK.out
        rwa [List.take_length] at this
      have HPR : Hid (refPageR t ls fs = .tuple #[S (pageL t ls fs), .int .i64 0]) := by show _ = _; unfold refPageR; rw [if_pos hall]
      have hPr := (HBW.out.block _ hPl).trans HP.out
      have f0 : wr.cell? ⟨w.heap.size, 0, none⟩ = some (.string t) := by simp [World.cell?, hPr]
      have het := (Pg.esc_len t.data.toList).2
      rw [len_list] at het
      have HHL := hide (headP_wt t)
      have HHA := hide (partsA_len (headP t) true)
      clear hPr hall HOK
      go_wp2_with fail
      refine (refEscape_any t wr (by omega)).mono ?_
      rintro e w1 ⟨rfl, hb1⟩
      have H1 := hide (HBW.out.trans (hb1.mono HBW.out.size))
      have hz1 := H1.out.size
      clear hb1 f0 f2
      have HE0 := hide (head_is t)
      go_wp2_with (at_builtin; refine app_str _ rfl _ _ rfl W.heap.size _ [] rfl (World.ownsRow_nil _ _ _ _) (mPageHead ++ eb t ++ mPageTitle ++ eb t ++ mPageBody) rfl ?c3 hz1 ?_)
      case c3 => 
        have h1 := congrArg List.length HE0.out
        rw [len_list] at h1
        have h2 := HHL.out
        have h3 := HHA.out
        rw [h1, List.length_nil]
        omega
      intro v2 w2 L2 E2 N2 own2 k2
      have E2' : Hid (L2 = partsA true (headP t)) := by
        show _ = _
        first | exact E2.out.trans rfl | (rw [← HE0.out]; simpa using E2.out)
      have O2 := hide own2
      have H2 := hide (k2 _ H1.out)
      have n2' : L2.length ≤ 6 * (t.size + t.size + 200) := by
        have h2 := HHL.out
        have h3 := HHA.out
        rw [E2'.out]
        omega
      obtain ⟨ao2, nn2, c2, rfl⟩ := own_form own2
      clear own2 k2 H1 E2 N2 HE0 HHL HHA het
      go_wp2_with fail
      go_loopw [8, 9] (fun v i wr => ∃ (k : Nat) (L : List UInt8), k ≤ ls.length ∧ i = .int .i64 k ∧ Hid (L = L2 ++ (ls.take k).flatMap lineT) ∧ Hid (wr.ownsRow W.heap.size 5 1 v L.length (L.map B)) ∧ Hid (Below W.heap.size W wr)) (fun _ i _ => ls.length - (intOf i).toNat)
      case atStart => exact ⟨0, L2, by omega, rfl, by show _ = _; rw [List.take_zero]; show _ = _ ++ []; rw [List.append_nil], O2, H2⟩
      case round =>
        obtain ⟨k, L, hk, rfl, EL, OL, HL⟩ := hrel
        obtain ⟨aol, nl, cll, rfl⟩ := own_form OL.out
        clear O2 H2
        have hPr := (HL.out.block _ hPl).trans HP.out
        have f1 : wr.cell? ⟨w.heap.size, 1, none⟩ = some (.slice ol ls.length cl) := by simp [World.cell?, hPr]
        have f2 : wr.cell? ⟨w.heap.size, 2, none⟩ = some (.slice of fs.length cf) := by simp [World.cell?, hPr]
        clear hPr
        have hbr : Below w.heap.size w wr := HBA.out.trans (HL.out.mono hwW)
        by_cases hlt : k < ls.length
        · have hki : (k : Int) < (ls.length : Int) := by omega
          have k0 : (0 : Int) ≤ (k : Int) := Int.natCast_nonneg _
          have HS := hide (flat_snocL lineT ls k hlt)
          have HLN : Hid (L.length + 6 * (ls[k].size + 20) ≤ 140737488355) := by
            have h1 := lines_len (ls.take k)
            have h2 := linesW_take ls k hlt
            show _ ≤ _
            rw [EL.out, List.length_append]
            omega
          obtain ⟨bl, o, ho, hbl, c0⟩ := HLC.out k hlt
          cases ho
          have d0 := (hbr.cell (p := ⟨bl, o + k, none⟩) hbl).trans c0
          clear c0 hbr
          generalize ls[k] = X at *
          have HLL := hide (lineT_len X)
          have HLI := hide (lineT_is X)
          have hX := HLN.out
          go_wp2_with fail
          refine (refEscape_any X wr (by omega)).mono ?_
          rintro e w5 ⟨rfl, hb5⟩
          have O5 := hide (own_below OL.out hb5)
          have H5 := hide (HL.out.trans (hb5.mono HL.out.size))
          have hex := (Pg.esc_len X.data.toList).2
          rw [len_list] at hex
          clear hb5 d0
          go_wp2_with (at_builtin; refine app_str _ rfl _ _ rfl W.heap.size _ L rfl O5.out (mLineHead ++ eb X ++ mLineEnd) rfl ?c4 H5.out.size ?_)
          case c4 =>
            have h1 := congrArg List.length HLI.out
            rw [len_list] at h1
            have h2 := HLL.out
            rw [h1]
            omega
          intro v6 w6 L6 E6 N6 own6 k6
          have O6 := hide own6
          have H6 := hide (k6 _ H5.out)
          have E6' : Hid (L6 = L ++ lineT X) := by
            show _ = _
            first | exact E6.out.trans rfl | (rw [← HLI.out]; simpa using E6.out)
          clear own6 k6 O5 H5 E6 N6
          go_wp2
          go_roundw
          case rel => exact ⟨k + 1, L6, by omega, by go_num, by show _ = _; rw [E6'.out, EL.out, HS.out, List.append_assoc], O6, H6⟩
          case measure => simp [intOf] <;> omega
        · have hk8 : ¬ (k : Int) < (ls.length : Int) := by omega
          obtain rfl : k = ls.length := by omega
          rw [List.take_length] at EL
          have hLn : L.length ≤ L2.length + 6 * linesW ls := by
            have h1 := lines_len ls
            rw [EL.out, List.length_append]
            omega
          clear hbr
          go_wp2_with fail
          clear f1
          go_loopw [8, 11] (fun v i wr => ∃ (k : Nat) (M : List UInt8), k ≤ fs.length ∧ i = .int .i64 k ∧ Hid (M = L ++ (fs.take k).flatMap frmL) ∧ Hid (wr.ownsRow W.heap.size 5 1 v M.length (M.map B)) ∧ Hid (Below W.heap.size W wr)) (fun _ i _ => fs.length - (intOf i).toNat)
          case atStart => exact ⟨0, L, by omega, rfl, by show _ = _; rw [List.take_zero]; show _ = _ ++ []; rw [List.append_nil], OL, HL⟩
          case round =>
            obtain ⟨k, M, hk, rfl, EM, OM, HM⟩ := hrel
            obtain ⟨aom, nm, cm, rfl⟩ := own_form OM.out
            clear OL HL f2
            have hPr := (HM.out.block _ hPl).trans HP.out
            have f2 : wr.cell? ⟨w.heap.size, 2, none⟩ = some (.slice of fs.length cf) := by simp [World.cell?, hPr]
            clear hPr
            have hbr : Below w.heap.size w wr := HBA.out.trans (HM.out.mono hwW)
            by_cases hlt : k < fs.length
            · have hki : (k : Int) < (fs.length : Int) := by omega
              have k0 : (0 : Int) ≤ (k : Int) := Int.natCast_nonneg _
              have HS := hide (flat_snocL frmL fs k hlt)
              have hil := hfi fs[k] (List.getElem_mem hlt)
              have HLN : Hid (M.length + 6 * frmW fs[k] + 6 ≤ 140737488355) := by
                have h1 := frms_len (fs.take k)
                have h2 := frmsW_take fs k hlt
                show _ ≤ _
                rw [EM.out, List.length_append]
                omega
              have hfc := HFC.out k hlt
              obtain ⟨X, hXe⟩ : ∃ X, fs[k] = X := ⟨_, rfl⟩
              rw [hXe] at HS hil hfc HLN
              clear hXe
              obtain ⟨fa, fi, fb⟩ := X
              obtain ⟨bl, o, vI, ho, hbl, c0, c1, c2, hI0⟩ := hfc
              cases ho
              have d0 := (hbr.cell (p := ⟨bl, o + k * 3, none⟩) hbl).trans c0
              have d1 := (hbr.cell (p := ⟨bl, o + k * 3 + 1, none⟩) hbl).trans c1
              have d2 := (hbr.cell (p := ⟨bl, o + k * 3 + 2, none⟩) hbl).trans c2
              have HI0 := hide (hI0.below hbr)
              obtain ⟨oI, cI, rfl, _⟩ := hI0
              clear c0 c1 c2 hbr
              simp only at d0 d1 d2 hil
              have hfw : frmW ⟨fa, fi, fb⟩ = formW fa fi fb := rfl
              have HLL : Hid ((frmL ⟨fa, fi, fb⟩).length ≤ 6 * frmW ⟨fa, fi, fb⟩) := formL_len fa fi fb
              have HC := hide (refForm_any wr fa fb (.slice oI fi.length cI) fi HI0.out (by have := HLN.out; rw [hfw] at this; omega) hil)
              go_wp2_with fail
              refine HC.out.mono ?_
              rintro e w5 ⟨rfl, hb5⟩
              have O5 := hide (own_below OM.out hb5)
              have H5 := hide (HM.out.trans (hb5.mono HM.out.size))
              clear hb5 d0 d1 d2 HC
              obtain ⟨Z, hZ⟩ : ∃ Z : ByteArray, (⟨(formL fa fi fb).toArray⟩ : ByteArray) = Z := ⟨_, rfl⟩
              have hZs : Hid (Z.size ≤ 6 * frmW ⟨fa, fi, fb⟩) := by show _ ≤ _; rw [← hZ, str_size]; exact HLL.out
              have hZl : Hid (Z.data.toList = frmL ⟨fa, fi, fb⟩) := by show _ = _; rw [← hZ]; rfl
              rw [show S (formL fa fi fb) = Value.string Z from congrArg Value.string hZ]
              clear hZ
              go_wp2_with (at_builtin; refine app_str _ rfl _ _ rfl W.heap.size _ M rfl O5.out Z rfl (by have := HLN.out; have := hZs.out; omega) H5.out.size ?_)
              intro v6 w6 L6 E6 N6 own6 k6
              have O6 := hide own6
              have H6 := hide (k6 _ H5.out)
              clear own6 k6 O5 H5
              go_wp2
              go_roundw
              case rel => exact ⟨k + 1, L6, by omega, by go_num, by show _ = _; rw [E6.out, EM.out, hZl.out, HS.out, List.append_assoc], O6, H6⟩
              case measure => simp [intOf] <;> omega
            · have hk8 : ¬ (k : Int) < (fs.length : Int) := by omega
              obtain rfl : k = fs.length := by omega
              rw [List.take_length] at EM
              have hMn : M.length ≤ L.length + 6 * frmsW fs := by
                have h1 := frms_len fs
                rw [EM.out, List.length_append]
                omega
              clear hbr
              have s9 : mPageEnd.size = 16 := rfl
              go_wp2_with (at_builtin; refine app_str _ rfl _ _ rfl W.heap.size _ M rfl OM.out mPageEnd rfl (by rw [s9]; omega) HM.out.size ?_)
              intro v9 w9 L9 E9 N9 own9 k9
              have hc := conv_own own9 rfl
              have H9 := hide (HBA.out.trans ((k9 _ HM.out).mono hwW))
              have HR : Hid (pageL t ls fs = L9) := by
                show _ = _
                rw [E9.out, EM.out, EL.out, E2'.out]
                rfl
              clear own9 k9
              go_wp2
              go_ret2
              exact ⟨by rw [HPR.out, HR.out]; rfl, H9.out⟩
end Go.Proofs.YtaejlcffimkopaaDoor.pg
