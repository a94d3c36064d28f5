import Derived.Test.YtaeleccngpfngaaDoorTidyPg
import Derived.Test.YtaeleccngpfngaaDoorTagsW
import Derived.Test.YtaeleccngpfngaaDoorShapeW
namespace Go.Proofs.YtaeleccngpfngaaDoor.pg
open Go.ChangeShapes Go.WideShapes Go.ChangeAt Go.RowKit Go.Proofs.YtaeleccngpfngaaDoor.common Go.Maps
attribute [local go_sem ↓] Go.wp_at_zero Go.wp_at_succ

theorem pageL_most (t : ByteArray) (ls : List ByteArray) (fs : List Frm) : (pageL t ls fs).length ≤ 6 * pageW t ls fs := by
  have h1 := partsA_len (headP t) true
  have h2 := headP_wt t
  have h3 := lines_len ls
  have h4 := frms_len fs
  have e : mPageEnd.data.toList.length = 16 := rfl
  unfold pageL pageW
  rw [List.length_append, List.length_append, List.length_append, e]
  omega

set_option maxRecDepth 100000 in
set_option maxHeartbeats 1600000 in
theorem lawTags (w : World) (t : ByteArray) (vL vF : Value) (ls : List ByteArray) (fs : List Frm) (hL : LiesS w vL ls) (hF : LiesF w vF fs) (ht : Esc w) (eA : Value) (hE : w.cell? ⟨0, 0, none⟩ = some eA) (hl : 6 * (t.size + t.size + linesW ls + 2 * frmsW fs + 300) + 6 ≤ 140737488355) (hls : ls.length ≤ 1000000000) (hfs : fs.length ≤ 1000000000) (hfi : ∀ f ∈ fs, f.ins.length ≤ 1000000000) (hfk : ∀ f ∈ fs, ∀ x ∈ f.ins, inK x) :
    Calls Tryd.prog 3 #[.agg #[.string t, vL, vF]] w fun e w' => e = .returned (.bool true) ∧ Below w.heap.size w w' := by
  have HLw := hide hL
  have HFw := hide hF
  have HFK := hide hfk
  clear hfk
  obtain ⟨ol, cl, rfl, _⟩ := hL
  obtain ⟨of, cf, rfl, _⟩ := hF
  have hls2 : ls.length ≤ 4611686018427387904 := by omega
  have BA : Below w.heap.size w (w.alloc (.cells #[.string t, .slice ol ls.length cl, .slice of fs.length cf] 25)) := (Below.refl _ _).alloc (Nat.le_refl _) _
  have HBA := hide BA
  have HT := hide (ht.next BA)
  have HE := hide ((BA.cell (p := ⟨0, 0, none⟩) (World.block_lt_of_cell? _ _ hE)).trans hE)
  clear BA ht hE
  go_enter Tryd.func3, Tryd.ntmps3
  go_wp2_with fail
  generalize w.alloc (.cells #[.string t, .slice ol ls.length cl, .slice of fs.length cf] 25) = W at *
  refine (tidy_any W t _ _ ls fs (HLw.out.below HBA.out) (HFw.out.below HBA.out) hls hfs hfi HFK.out).mono ?_
  rintro x w1 ⟨vL', vF', gs, rfl, hL1, hF1, hT1, b1⟩
  have hgl : gs.length = fs.length := hT1.len
  have hgw : frmsW gs ≤ 2 * frmsW fs := by have := hT1.wt; rwa [List.take_length] at this
  have HGO := hide hT1.ok
  have HGI : Hid (∀ f ∈ gs, f.ins.length ≤ 4611686018427387904) := fun f hf => Nat.le_trans (hT1.short f hf) (by decide)
  have hl2 : 6 * pageW t ls gs + 6 ≤ 140737488355 := by show 6 * (t.size + t.size + linesW ls + frmsW gs + 300) + 6 ≤ _; omega
  have hgs2 : gs.length ≤ 4611686018427387904 := by omega
  have HHL := hide hl2
  have HGS := hide hgs2
  clear hT1 hgw hl2 hgs2
  have BQ : Below w1.heap.size w1 (w1.alloc (.cells #[.string t, vL', vF'] 25)) := (Below.refl _ _).alloc (Nat.le_refl _) _
  have hQ : (w1.alloc (.cells #[.string t, vL', vF'] 25)).heap[w1.heap.size]? = some (.cells #[.string t, vL', vF'] 25) := by show (w1.heap.push _)[w1.heap.size]? = _; simp
  have HLQ := hide (hL1.below BQ)
  have HFQ := hide (hF1.below BQ)
  have HWQ := hide (b1.trans (BQ.mono b1.size))
  have HQ := hide hQ
  have hQl := (Array.getElem?_eq_some_iff.1 hQ).1
  have HRQ := hide (range3 hQ)
  obtain ⟨o1, c1, rfl, _⟩ := hL1
  obtain ⟨o2, c2, hv2, _⟩ := hF1
  rw [hgl] at hv2
  subst hv2
  have HGL := hide hgl
  clear b1 BQ hQ hgl
  go_wp2_with (refine wpList_load_mid rfl 25 _ rfl w1.heap.size 0 rfl _ _ HRQ.out Tryd.underlying25 rfl sizePg ?_)
  generalize w1.alloc (.cells #[.string t, .slice o1 ls.length c1, .slice o2 fs.length c2] 25) = V at *
  have HBV := hide (HBA.out.trans (HWQ.out.mono HBA.out.size))
  refine (page_any V t _ _ eA ls gs HLQ.out HFQ.out (HT.out.next HWQ.out) ((HWQ.out.cell (p := ⟨0, 0, none⟩) (World.block_lt_of_cell? _ _ HE.out)).trans HE.out) (by have := HHL.out; omega) hls2 HGS.out HGI.out).mono ?_
  rintro x w2 ⟨rfl, b2⟩
  have HPR : Hid (pageR eA t ls gs = .tuple #[S (pageL t ls gs), .nilIface]) := by
    show _ = _
    unfold pageR
    rw [if_pos (List.all_eq_true.2 HGO.out)]
  rw [HPR.out]
  clear HPR
  obtain ⟨Z, hZ⟩ : ∃ Z : ByteArray, (⟨(pageL t ls gs).toArray⟩ : ByteArray) = Z := ⟨_, rfl⟩
  have HZl : Hid (Z.data.toList = pageL t ls gs) := by show _ = _; rw [← hZ]
  have hZs : Z.size ≤ 140737488355 := by have h1 := pageL_most t ls gs; have h2 := HHL.out; rw [← hZ, str_size]; omega
  rw [show S (pageL t ls gs) = Value.string Z from congrArg Value.string hZ]
  have HV2 := hide b2
  clear hZ b2 HRQ
  go_wp2_with fail
  refine (tags_any Z w2 hZs).mono ?_
  rintro x w3 ⟨rfl, b3⟩
  rw [HZl.out, page_tags]
  have HV3 := hide (HV2.out.trans (b3.mono HV2.out.size))
  have hq3 := (HV3.out.block _ hQl).trans HQ.out
  have HRQ3 := hide (range3 hq3)
  obtain ⟨Y, hY⟩ : ∃ Y : ByteArray, (⟨(shPage ls gs).toArray⟩ : ByteArray) = Y := ⟨_, rfl⟩
  have HYS : Hid (S (shPage ls gs) = Value.string Y) := congrArg Value.string hY
  rw [HYS.out]
  clear b3 hq3 hY
  go_wp2_with (refine wpList_load_mid rfl 25 _ rfl w1.heap.size 0 rfl _ _ HRQ3.out Tryd.underlying25 rfl sizePg ?_)
  refine (shape_any w3 t _ _ ls gs (HLQ.out.below HV3.out) (HFQ.out.below HV3.out) HHL.out hls2 HGS.out HGI.out HGO.out).mono ?_
  rintro x w4 ⟨rfl, b4⟩
  rw [HYS.out]
  have HB4 := hide (HBV.out.trans ((HV3.out.trans (b4.mono HV3.out.size)).mono HBV.out.size))
  clear b4 HRQ3
  go_wp2_with fail
  go_ret
  exact ⟨by simp, HB4.out⟩

theorem arg_of_laid {W : World} {rest : List (String × DataW Unit)} (h : laidMet Tryd.prog (("usher/api.ErrArg", Rows.laid_usher_api_ErrArg) :: rest) W) : ∃ eA, W.cell? ⟨0, 0, none⟩ = some eA := by
  obtain ⟨ps, h0, _, hrows⟩ := h
  obtain ⟨a0, q0, c0, _, rfl⟩ := errw.peel h0 (fun b off hm => hrows b off (by simp [hm])) errw.g0 errw.t0 Tryd.underlying28 errw.rowErr Tryd.underlying98 Tryd.underlying114 rfl rfl Tryd.underlying9 errw.cellsErr errw.cellsStr
  exact ⟨_, c0⟩
end Go.Proofs.YtaeleccngpfngaaDoor.pg
