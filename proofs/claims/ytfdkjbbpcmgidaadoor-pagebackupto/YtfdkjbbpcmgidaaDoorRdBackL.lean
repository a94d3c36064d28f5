import Derived.Test.YtfdkjbbpcmgidaaDoorTidyPg
import Derived.Test.YtfdkjbbpcmgidaaDoorRdFine
namespace Go.Proofs.YtfdkjbbpcmgidaaDoor.pg
open Go.ChangeShapes Go.WideShapes Go.ChangeAt Go.RowKit Go.Proofs.YtfdkjbbpcmgidaaDoor.common Go.Maps
attribute [local go_sem ↓] Go.wp_at_zero Go.wp_at_succ

theorem page_ne (t : ByteArray) (ls : List ByteArray) (fs : List Frm) (Z : ByteArray) (h : Z.data.toList = pageL t ls fs) : Z.toList.isEmpty = false := by
  rw [ByteArray.toList_eq, h, pageL_is]
  rfl

set_option maxRecDepth 100000 in
set_option maxHeartbeats 3200000 in
theorem lawBack (w : World) (t : ByteArray) (vL vF : Value) (ls : List ByteArray) (fs : List Frm) (hL : LiesS w vL ls) (hF : LiesF w vF fs) (ht : Esc w) (e : Nat → Addr) (he : errw.Errs w e) (hl : 6 * (t.size + t.size + linesW ls + 2 * frmsW fs + 300) + 6 ≤ 1099511627776) (hls : ls.length ≤ 1000000000) (hfs : fs.length ≤ 1000000000) (hfi : ∀ f ∈ fs, f.ins.length ≤ 1000000000) (hfk : ∀ f ∈ fs, ∀ x ∈ f.ins, inK x) :
    Calls Tryd.prog 4 #[.agg #[.string t, vL, vF]] w fun e w' => e = .returned (.bool true) ∧ Below w.heap.size w w' := by
  have HLw := hide hL
  have HFw := hide hF
  have HFK := hide hfk
  have HFI := hide hfi
  have HHL0 := hide hl
  clear hfk hfi
  obtain ⟨ol, cl, rfl, _⟩ := hL
  obtain ⟨of, cf, rfl, _⟩ := hF
  have BA : Below w.heap.size w (w.alloc (.cells #[.string t, .slice ol ls.length cl, .slice of fs.length cf] 29)) := (Below.refl _ _).alloc (Nat.le_refl _) _
  have HPB := hide (at_new w (.cells #[.string t, .slice ol ls.length cl, .slice of fs.length cf] 29))
  have HBA := hide BA
  have HET : Hid (∀ X, Below w.heap.size w X → Esc X ∧ Txt X (e 1) ∧ errw.Errs X e ∧ X.cell? ⟨0, 0, none⟩ = some (errw.E e 0)) := fun X hb => ⟨ht.next hb, (he.below hb).cell 1 (by decide), he.below hb, (he.below hb).cell 0 (by decide)⟩
  clear BA ht he
  go_enter Tryd.func4, Tryd.ntmps4
  go_wp2_with fail
  generalize w.alloc (.cells #[.string t, .slice ol ls.length cl, .slice of fs.length cf] 29) = W at *
  refine (tidy_any W t _ _ ls fs (HLw.out.below HBA.out) (HFw.out.below HBA.out) hls hfs HFI.out HFK.out).mono ?_
  rintro x w1 ⟨vL', vF', gs, rfl, hL1, hF1, hT1, b1⟩
  have HB1 := hide (HBA.out.trans (b1.mono HBA.out.size))
  have hPW := (Array.getElem?_eq_some_iff.1 HPB.out).1
  have HP1 := hide ((b1.block _ hPW).trans HPB.out)
  have hgl : gs.length = fs.length := hT1.len
  have hgw : frmsW gs ≤ 2 * frmsW fs := by have := hT1.wt; rwa [List.take_length] at this
  have HGO := hide (List.all_eq_true.2 hT1.ok)
  have HGI : Hid (∀ f ∈ gs, f.ins.length ≤ 4611686018427387904) := fun f hf => Nat.le_trans (hT1.short f hf) (by decide)
  have HHL : Hid (6 * pageW t ls gs + 6 ≤ 1099511627776) := by show 6 * (t.size + t.size + linesW ls + frmsW gs + 300) + 6 ≤ _; omega
  have HGS : Hid (gs.length ≤ 4611686018427387904) := by show _ ≤ _; omega
  have hls2 : ls.length ≤ 4611686018427387904 := by omega
  have hfs2 : fs.length ≤ 4611686018427387904 := by omega
  have BQ : Below w1.heap.size w1 (w1.alloc (.cells #[.string t, vL', vF'] 29)) := (Below.refl _ _).alloc (Nat.le_refl _) _
  have HQ := hide (at_new w1 (.cells #[.string t, vL', vF'] 29))
  have HB2 := hide (HB1.out.trans (BQ.mono HB1.out.size))
  have HLQ := hide (hL1.below BQ)
  have HFQ := hide (hF1.below BQ)
  have HP2 := hide ((BQ.block _ (Array.getElem?_eq_some_iff.1 HP1.out).1).trans HP1.out)
  obtain ⟨o1, c1, rfl, _⟩ := hL1
  obtain ⟨o2, c2, rfl, _⟩ := hF1
  have HPG := hide (page_any _ t _ _ (errw.E e 0) ls gs HLQ.out HFQ.out (HET.out _ HB2.out).1 (HET.out _ HB2.out).2.2.2 (by have := HHL.out; omega) hls2 HGS.out HGI.out)
  have hcp : pageR (errw.E e 0) t ls gs = .tuple #[S (pageL t ls gs), .nilIface] := by unfold pageR; rw [if_pos HGO.out]
  rw [hcp] at HPG
  obtain ⟨Z, hZ⟩ : ∃ Z : ByteArray, (⟨(pageL t ls gs).toArray⟩ : ByteArray) = Z := ⟨_, rfl⟩
  have HZl : Hid (Z.data.toList = pageL t ls gs) := by show _ = _; rw [← hZ]
  have HZs : Hid (Z.size ≤ 1099511627776) := by have h1 := pageL_most' t ls gs; have h2 := HHL.out; show _ ≤ _; rw [← hZ, size_mk]; omega
  rw [show S (pageL t ls gs) = Value.string Z from congrArg Value.string hZ] at HPG
  clear b1 hT1 hgl hgw BQ hPW hcp hZ HP1 HPB
  go_wp2_with fail
  generalize w1.alloc (.cells #[.string t, .slice o1 ls.length c1, .slice o2 gs.length c2] 29) = V at *
  refine HPG.out.mono ?_
  rintro x w2 ⟨rfl, b2⟩
  have HB3 := hide (HB2.out.trans (b2.mono HB2.out.size))
  have HQ2 := hide ((b2.block _ (Array.getElem?_eq_some_iff.1 HQ.out).1).trans HQ.out)
  have HP3 := hide ((b2.block _ (Array.getElem?_eq_some_iff.1 HP2.out).1).trans HP2.out)
  have HL3 := hide (HLQ.out.below b2)
  have HF3 := hide (HFQ.out.below b2)
  have HRD := hide (read_some Z w2 HZs.out (e 1) (HET.out _ HB3.out).1 (HET.out _ HB3.out).2.1 (t := t) (ls := ls) (fs := gs) (by rw [HZl.out]; exact pageRd_app t ls gs HGO.out))
  clear b2 HPG HQ HP2 HLQ HFQ
  go_wp2_with fail
  refine HRD.out.mono ?_
  rintro x w3 ⟨oa, ca, ob, cb, ss, rfl, hL4, hF4, _, b4⟩
  have HB4 := hide (HB3.out.trans (b4.mono HB3.out.size))
  have B5 : Below w3.heap.size w3 (w3.alloc (.cells #[.string t, .slice oa ls.length ca, .slice ob gs.length cb] 29)) := (Below.refl _ _).alloc (Nat.le_refl _) _
  have HB5 := hide (HB4.out.trans (B5.mono HB4.out.size))
  have hQ3 := (b4.block _ (Array.getElem?_eq_some_iff.1 HQ2.out).1).trans HQ2.out
  have hP3 := (b4.block _ (Array.getElem?_eq_some_iff.1 HP3.out).1).trans HP3.out
  have hQ5 := (B5.block _ (Array.getElem?_eq_some_iff.1 hQ3).1).trans hQ3
  have HP5 := hide ((B5.block _ (Array.getElem?_eq_some_iff.1 hP3).1).trans hP3)
  have HSP := hide (samePage_any t _ _ _ _ ls gs _ ((HL3.out.below b4).below B5) ((HF3.out.below b4).below B5) ((liesS_of_own hL4).below B5) (hF4.lies.below B5) hls2 HGS.out HGI.out)
  obtain ⟨q0, q1, q2, _, _, _⟩ := three_cells hQ5
  clear b4 B5 hQ3 hP3 hQ5 hL4 hF4 HRD HL3 HF3 HQ2 HP3
  go_wp2_with fail
  generalize w3.alloc (.cells #[.string t, .slice oa ls.length ca, .slice ob gs.length cb] 29) = V5 at *
  refine HSP.out.mono ?_
  rintro x w6 ⟨rfl, b6⟩
  have HB6 := hide (HB5.out.trans (b6.mono HB5.out.size))
  have hP6 := (b6.block _ (Array.getElem?_eq_some_iff.1 HP5.out).1).trans HP5.out
  have HP6 := hide hP6
  obtain ⟨p0, p1, p2, _, _, _⟩ := three_cells hP6
  have HFI2 : Hid (∀ f ∈ fs, f.ins.length ≤ 4611686018427387904) := fun f hf => Nat.le_trans (HFI.out f hf) (by decide)
  have HPG := hide (page_any w6 t _ _ (errw.E e 0) ls fs (HLw.out.below HB6.out) (HFw.out.below HB6.out) (HET.out _ HB6.out).1 (HET.out _ HB6.out).2.2.2 (by have := HHL0.out; show 6 * (t.size + t.size + linesW ls + frmsW fs + 300) + 6 ≤ _; omega) hls2 hfs2 HFI2.out)
  clear b6 hP6 HSP q0 q1 q2 HP5
  cases hR : fs.all okF with
  | true =>
    have hcp : pageR (errw.E e 0) t ls fs = .tuple #[S (pageL t ls fs), .nilIface] := by unfold pageR; rw [if_pos hR]
    rw [hcp] at HPG
    obtain ⟨Y, hY⟩ : ∃ Y : ByteArray, (⟨(pageL t ls fs).toArray⟩ : ByteArray) = Y := ⟨_, rfl⟩
    have hne : Y.toList.isEmpty = false := page_ne t ls fs Y (by rw [← hY])
    rw [show S (pageL t ls fs) = Value.string Y from congrArg Value.string hY] at HPG
    clear hcp hY
    go_wp2_with fail
    refine HPG.out.mono ?_
    rintro x w7 ⟨rfl, b7⟩
    have HB7 := hide (HB6.out.trans (b7.mono HB6.out.size))
    obtain ⟨p0', p1', p2', _, _, _⟩ := three_cells ((b7.block _ (Array.getElem?_eq_some_iff.1 HP6.out).1).trans HP6.out)
    have HFN := hide (fine_any w7 t _ _ ls fs (HLw.out.below HB7.out) (HFw.out.below HB7.out) hfs HFI.out)
    rw [hR] at HFN
    clear b7 p0 p1 p2 hR HPG
    go_wp2_with fail
    refine HFN.out.mono ?_
    rintro x w8 ⟨rfl, b8⟩
    have HB8 := hide (HB7.out.trans (b8.mono HB7.out.size))
    clear b8 p0' p1' p2'
    go_wp2
    go_ret
    exact ⟨rfl, HB8.out⟩
  | false =>
    have hcp : pageR (errw.E e 0) t ls fs = .tuple #[S [], errw.E e 0] := by unfold pageR; rw [if_neg (by rw [hR]; decide)]
    rw [hcp] at HPG
    clear hcp
    go_wp2_with fail
    refine HPG.out.mono ?_
    rintro x w7 ⟨rfl, b7⟩
    have HB7 := hide (HB6.out.trans (b7.mono HB6.out.size))
    obtain ⟨p0', p1', p2', _, _, _⟩ := three_cells ((b7.block _ (Array.getElem?_eq_some_iff.1 HP6.out).1).trans HP6.out)
    have HFN := hide (fine_any w7 t _ _ ls fs (HLw.out.below HB7.out) (HFw.out.below HB7.out) hfs HFI.out)
    rw [hR] at HFN
    clear b7 p0 p1 p2 hR HPG
    go_wp2_with fail
    refine HFN.out.mono ?_
    rintro x w8 ⟨rfl, b8⟩
    have HB8 := hide (HB7.out.trans (b8.mono HB7.out.size))
    have HN := hide (errw.num_0 w8 e (HET.out w8 HB8.out).2.2.1)
    clear b8 p0' p1' p2'
    go_wp2_with fail
    refine HN.out.mono ?_
    rintro x w9 ⟨rfl, h9⟩
    obtain rfl := h9.symm
    go_wp2
    go_ret
    exact ⟨rfl, HB8.out⟩
end Go.Proofs.YtfdkjbbpcmgidaaDoor.pg
