import Derived.Test.YtjalggkhpnfbiaaDoorMTidyPg
import Derived.Test.YtjalggkhpnfbiaaDoorMPmQ
import Derived.Test.YtjalggkhpnfbiaaDoorMPmMark
namespace Go.Proofs.YtjalggkhpnfbiaaDoor.pg
open Go.ChangeShapes Go.WideShapes Go.ChangeAt Go.RowKit Go.Proofs.YtjalggkhpnfbiaaDoor.common Go.Maps
open Go.Proofs.YtjalggkhpnfbiaaDoor.mm (Mid Fx Rws Gs)
attribute [local go_sem ↓] Go.wp_at_zero Go.wp_at_succ

theorem rep_two {α : Type} (l : List α) (x : α) (k : Nat) : l ++ List.replicate (k + 1) x = (l ++ List.replicate k x) ++ [x] := by
  rw [List.append_assoc, List.replicate_succ']
theorem lit_row (w : World) (base : Nat) (hb : base ≤ w.heap.size) (x y : Inp) : (w.alloc (.cells #[.int .i64 x.kind, .string x.name, .string x.value, .string x.label, .int .i64 y.kind, .string y.name, .string y.value, .string y.label] 28)).ownsRow base 28 4 (.slice (some ⟨w.heap.size, 0, none⟩) 2 2) 2 (ic [x, y]) :=
  ⟨rfl, Or.inr ⟨_, 2, _, rfl, hb, by show (w.heap.push _)[w.heap.size]? = _; simp; rfl, Nat.le_refl _, by decide, rfl, rfl⟩⟩
theorem okF_nf : okF nf = true := by unfold okF; simp [mayB, emp, ByteArray.toList_eq]
theorem okF_nfo : okF nfo = true := by unfold okF; simp [mayB, emp, ByteArray.toList_eq]
theorem all_two {gs : List Frm} (h : gs.all okF = true) : (gs ++ [nf, nf]).all okF = true ∧ ((gs ++ [nf]) ++ [nfo]).all okF = true := by
  constructor
  · simp [h, okF_nf]
  · simp [h, okF_nf, okF_nfo]

theorem rep_set {α : Type} (l : List α) (c : α) (k : Nat) (h : k < l.length) : (List.replicate k c ++ l.drop k).set k c = List.replicate (k + 1) c ++ l.drop (k + 1) := by
  rw [List.drop_eq_getElem_cons h, List.replicate_succ', List.append_assoc, List.set_append_right _ _ (by simp), List.length_replicate, Nat.sub_self]
  rfl
theorem insOf_le {hs : List Frm} (h : ∀ f ∈ hs, f.ins.length ≤ 32) (j : Nat) : (insOf hs j).length ≤ 32 := by
  unfold insOf
  cases e : hs[j]? with
  | none => exact Nat.zero_le _
  | some f => exact h f (List.mem_of_getElem? e)
theorem ok_in {hs : List Frm} (h : hs.all okF = true) : ∀ f ∈ hs, ∀ x ∈ f.ins, inK x := fun f hf x hx => by
  have h1 : okF f = true := List.all_eq_true.1 h f hf
  have h2 := mayB_kind (List.all_eq_true.1 (show f.ins.all mayB = true from h1) x hx)
  unfold inK
  omega
abbrev iB : Inp := ⟨99, bBeside, e0B, e0B⟩

set_option maxRecDepth 100000 in
set_option maxHeartbeats 12800000 in
theorem lawPM (w : World) (t : ByteArray) (vL vF : Value) (ls : List ByteArray) (fs : List Frm) (hL : LiesS w vL ls) (hF : LiesF w vF fs) (ht : Esc w) (eA : Value) (hE : w.cell? ⟨0, 0, none⟩ = some eA) (ea : Addr) (hT : Txt w ea) (hl : 6 * (t.size + t.size + linesW ls + 2 * frmsW fs + 300) + 6 ≤ 1000000000000) (hls : ls.length ≤ 100000000) (hfs : fs.length ≤ 100000000) (hfi : ∀ f ∈ fs, f.ins.length ≤ 1000000000) (hfk : ∀ f ∈ fs, ∀ x ∈ f.ins, inK x) :
    Calls Tryd.prog 3 #[.agg #[.string t, vL, vF]] w fun e w' => e = .returned (.bool true) ∧ Below w.heap.size w w' := by
  have HLw := hide hL
  have HFw := hide hF
  have HFK := hide hfk
  have HFI := hide hfi
  have HHL0 := hide hl
  clear hfk hfi hl
  obtain ⟨ol, cl, rfl, _⟩ := hL
  obtain ⟨of, cf, rfl, _⟩ := hF
  obtain ⟨k0s, hsn, hs0, hs1', hs2'⟩ := info_parts infoS
  obtain ⟨j0, hjn, hy0, hy1, hy2⟩ := info_parts infoF
  obtain ⟨i0, hin, hz0, hz1, hz2⟩ := info_parts infoI
  have BA : Below w.heap.size w (w.alloc (.cells #[.string t, .slice ol ls.length cl, .slice of fs.length cf] 25)) := (Below.refl _ _).alloc (Nat.le_refl _) _
  have HBA := hide BA
  have HET : Hid (∀ X, Below w.heap.size w X → Esc X ∧ Txt X ea ∧ X.cell? ⟨0, 0, none⟩ = some eA) := fun X hb => ⟨ht.next hb, hT.under hb hT.lt, (hb.cell (p := ⟨0, 0, none⟩) (World.block_lt_of_cell? w _ hE)).trans hE⟩
  clear BA ht hE hT
  go_enter Tryd.func3, Tryd.ntmps3
  go_wp2_with fail
  generalize w.alloc (.cells #[.string t, .slice ol ls.length cl, .slice of fs.length cf] 25) = W at *
  refine (tidy_own W t _ _ ls fs (HLw.out.below HBA.out) (HFw.out.below HBA.out) (by omega) (by omega) HFI.out HFK.out).mono ?_
  rintro x w1 ⟨vL', vF', gs, ss, rfl, hL1, hF1, hT1, b1⟩
  have HB1 := hide (HBA.out.trans (b1.mono HBA.out.size))
  have hgl : gs.length = fs.length := hT1.len
  have hgw : frmsW gs ≤ 2 * frmsW fs := by have := hT1.wt; rwa [List.take_length] at this
  have HGO := hide (List.all_eq_true.2 hT1.ok)
  have HGI := hide hT1.short
  have HGL : Hid (gs.length ≤ 100000000) := by show _ ≤ _; omega
  have HHL : Hid (6 * pageW t ls gs + 6 ≤ 1000000000000) := by have := HHL0.out; show 6 * (t.size + t.size + linesW ls + frmsW gs + 300) + 6 ≤ _; omega
  have HWs := hide b1.size
  obtain ⟨base, hbase⟩ : ∃ base, base = W.heap.size := ⟨_, rfl⟩
  rw [← hbase] at hL1 hF1 HWs
  have BQ : Below w1.heap.size w1 (w1.alloc (.cells #[.string t, vL', vF'] 25)) := (Below.refl _ _).alloc (Nat.le_refl _) _
  have HQ0 : Hid (Qp base w1.heap.size t ls gs vL' vF' ss (w1.alloc (.cells #[.string t, vL', vF'] 25))) := ⟨at_new _ _, own_below hL1 BQ, hF1.below BQ⟩
  have HB2 := hide (HB1.out.trans (BQ.mono HB1.out.size))
  have HZ0 : Hid (base ≤ (w1.alloc (.cells #[.string t, vL', vF'] 25)).heap.size) := by have := HWs.out; have := BQ.size; show _ ≤ _; omega
  have HWB : Hid (w.heap.size ≤ base) := by show _ ≤ _; rw [hbase]; exact HBA.out.size
  have HBQ : Hid (w.heap.size ≤ w1.heap.size) := HB1.out.size
  obtain ⟨o1, c1, rfl⟩ := form_w hL1
  obtain ⟨o2, c2, rfl⟩ := form_w hF1.row
  have HROW := hide (own_below HQ0.out.lines ((Below.refl _ _).alloc (Nat.le_refl _) (.cells #[.string bLine] 9)))
  have HNEW := hide (cells_new (w1.alloc (.cells #[.string t, .slice o1 ls.length c1, .slice o2 gs.length c2] 25)) [.string bLine] 9)
  rw [World.size_alloc] at HNEW
  clear hL1 hF1 hT1 b1 BQ hgl hgw hbase
  go_wp2_with (at_builtin; refine wpList_append_own _ rfl _ _ 22 rfl base 9 k0s (.string ⟨#[]⟩) 1 16 Tryd.underlying22 hsn hs0 hs1' hs2' rfl (by decide) _ _ _ rfl HROW.out ⟨w1.heap.size + 1, 0, none⟩ 1 1 [.string bLine] rfl rfl HNEW.out ?c2 ?c3 ?c4 ?c5 ?_)
  case c2 => first | rfl | (intro u hu; simp at hu; rw [hu]; rfl)
  case c3 => unfold maxLen; omega
  case c4 => omega
  case c5 => have := HZ0.out; simp at this ⊢; omega
  intro v2 w2 own2 hg2 _
  obtain ⟨oL, cL, rfl⟩ := form_w own2
  have HQ1 := hide (HQ0.out.addL hg2 own2)
  have HB3 : Hid (Below w.heap.size w (w2.setCell ⟨w1.heap.size, 1, none⟩ (.slice oL (ls.length + 1) cL))) := by
    refine Below.setCell (p := ⟨w1.heap.size, 1, none⟩) ?_ HBQ.out _
    exact (HB2.out.alloc HB2.out.size _).grown hg2 (by have := HB2.out.size; simp at this ⊢; omega) (fun k hk => by have := own_ge HQ0.out.lines k hk; have := HWB.out; omega)
  have HZ3 : Hid (base ≤ (w2.setCell ⟨w1.heap.size, 1, none⟩ (.slice oL (ls.length + 1) cL)).heap.size) := by
    have h1 := hg2.size
    have h2 := HZ0.out
    have e : (w2.setCell ⟨w1.heap.size, 1, none⟩ (.slice oL (ls.length + 1) cL)).heap.size = w2.heap.size := by simp [World.setCell]
    show _ ≤ _
    rw [e]
    simp at h1 h2
    omega
  obtain ⟨_, q1, _, _, z1, _⟩ := three_cells (HQ0.out.boxL hg2)
  clear own2 hg2 HROW HNEW HQ0 HB2 HZ0
  go_wp2_with fail
  go_loopw [4] (fun vi wr => ∃ (k : Nat) (vF : Value) (sv : List Value), k ≤ 2 ∧ vi = .int .i64 k ∧ Hid (Qp base w1.heap.size t (ls ++ [bLine]) (gs ++ List.replicate k nf) (.slice oL (ls.length + 1) cL) vF sv wr) ∧ Hid (k = 2 → Lst sv) ∧ Hid (Below w.heap.size w wr) ∧ Hid (base ≤ wr.heap.size)) (fun vi _ => 2 - (intOf vi).toNat)
  case atStart => exact ⟨0, _, _, by omega, rfl, (by show Qp _ _ _ _ _ _ _ _ _; rw [List.replicate_zero, List.append_nil]; exact HQ1.out), (fun h => by cases h), HB3, HZ3⟩
  case round =>
    obtain ⟨k, vG, sv, hk, rfl, HQ, HLS, HB, HZ⟩ := hrel
    clear HQ1 HB3 HZ3 q1 z1
    obtain ⟨oF, cF, rfl⟩ := form_w HQ.out.forms.row
    obtain ⟨_, _, q2, _, _, z2⟩ := three_cells HQ.out.box
    by_cases hlt : k < 2
    · have k1 : (k : Int) < 2 := by omega
      have HHS : Hid (gs ++ List.replicate (k + 1) nf = (gs ++ List.replicate k nf) ++ [nf]) := rep_two gs nf k
      have HHN : Hid ((gs ++ List.replicate k nf).length ≤ 100000002) := by have := HGL.out; show _ ≤ _; rw [List.length_append, List.length_replicate]; omega
      generalize gs ++ List.replicate k nf = hs at *
      have HLR := hide (lit_row wr base HZ.out iN iM)
      have HROW := hide (own_below (own_below HQ.out.forms.row ((Below.refl _ _).alloc (Nat.le_refl _) (.cells #[.int .i64 2, .string bN, .string e0B, .string e0B, .int .i64 2, .string bM, .string e0B, .string e0B] 28))) ((Below.refl _ _).alloc (Nat.le_refl _) (.cells #[.string e0B, .slice (some ⟨wr.heap.size, 0, none⟩) 2 2, .string e0B] 31)))
      have HNEW := hide (cells_new (wr.alloc (.cells #[.int .i64 2, .string bN, .string e0B, .string e0B, .int .i64 2, .string bM, .string e0B, .string e0B] 28)) [.string e0B, .slice (some ⟨wr.heap.size, 0, none⟩) 2 2, .string e0B] 31)
      rw [World.size_alloc] at HNEW
      have hhn := HHN.out
      go_wp2_with (at_builtin; refine wpList_append_own _ rfl _ _ 23 rfl base 31 j0 (.agg #[.string ⟨#[]⟩, .slice none 0 0, .string ⟨#[]⟩]) 3 56 Tryd.underlying23 hjn hy0 hy1 hy2 rfl (by decide) _ _ _ rfl HROW.out ⟨wr.heap.size + 1, 0, none⟩ 1 1 [.string e0B, .slice (some ⟨wr.heap.size, 0, none⟩) 2 2, .string e0B] rfl rfl HNEW.out ?d2 ?d3 ?d4 ?d5 ?_)
      try case d2 => first | rfl | exact ⟨rfl, rfl, rfl⟩ | (intro u hu; simp at hu; rcases hu with rfl | rfl | rfl <;> rfl)
      try case d3 => unfold maxLen; omega
      try case d4 => omega
      try case d5 => have := HZ.out; simp; omega
      intro v3 w3 own3 hg3 _
      obtain ⟨o3, c3, rfl⟩ := form_w own3
      have HQ3 := hide (HQ.out.addF (f := nf) HLR.out hg3 own3)
      have HL3 := hide (lst_new HQ.out)
      have HB3 : Hid (Below w.heap.size w (w3.setCell ⟨w1.heap.size, 2, none⟩ (.slice o3 (hs.length + 1) c3))) := by
        refine Below.setCell (p := ⟨w1.heap.size, 2, none⟩) ?_ HBQ.out _
        refine (((HB.out.alloc HB.out.size _).alloc (by have := HB.out.size; simp; omega) _).grown hg3 (by have := HB.out.size; simp at this ⊢; omega) (fun k hk => by have := own_ge HQ.out.forms.row k hk; have := HWB.out; omega))
      have HZ3 : Hid (base ≤ (w3.setCell ⟨w1.heap.size, 2, none⟩ (.slice o3 (hs.length + 1) c3)).heap.size) := by
        have h1 := hg3.size
        have h2 := HZ.out
        have e : (w3.setCell ⟨w1.heap.size, 2, none⟩ (.slice o3 (hs.length + 1) c3)).heap.size = w3.heap.size := by simp [World.setCell]
        show _ ≤ _
        rw [e]
        simp at h1 h2
        omega
      obtain ⟨_, _, q3, _, _, z3⟩ := three_cells (HQ.out.boxF hg3)
      rw [← HHS.out] at HQ3
      clear own3 hg3 HROW HNEW HQ HB HZ HLR HLS q2 z2 hhn
      go_wp2_with fail
      go_roundw
      case rel => exact ⟨k + 1, _, _, by omega, by go_num, HQ3, (fun _ => HL3.out), HB3, HZ3⟩
      case measure => simp [intOf]; omega
    · have k1 : ¬ (k : Int) < 2 := by omega
      obtain rfl : k = 2 := by omega
      have HLS2 := hide (HLS.out rfl)
      have HREP : Hid (gs ++ List.replicate 2 nf = (gs ++ [nf]) ++ [nf]) := by show _ = _; simp
      have HHO : Hid ((gs ++ List.replicate 2 nf).all okF = true) := (all_two HGO.out).1
      have HHI : Hid (∀ f ∈ gs ++ List.replicate 2 nf, f.ins.length ≤ 32) := fun f hf => by
        rcases List.mem_append.1 hf with h | h
        · exact HGI.out f h
        · rw [List.mem_replicate] at h; rw [h.2]; show (2 : Nat) ≤ 32; decide
      have HHN : Hid ((gs ++ List.replicate 2 nf).length ≤ 100000002 ∧ 2 ≤ (gs ++ List.replicate 2 nf).length) := by have := HGL.out; show _ ∧ _; rw [List.length_append, List.length_replicate]; omega
      have HHW : Hid (6 * pageW t (ls ++ [bLine]) (gs ++ List.replicate 2 nf) + 6 ≤ 1000000010000) := by
        have h1 := HHL.out
        unfold pageW at h1
        have h2 : linesW [bLine] = 24 := rfl
        have h3 : frmsW (List.replicate 2 nf) = 604 := rfl
        show 6 * (t.size + t.size + linesW (ls ++ [bLine]) + frmsW (gs ++ List.replicate 2 nf) + 300) + 6 ≤ _
        rw [linesW_app, frmsW_app]
        omega
      have hkn : ls.length + 1 = (ls ++ [bLine]).length := by simp
      have hkm : (ls ++ [bLine]).length ≤ 100000001 := by simp; omega
      have hkp : 1 ≤ (ls ++ [bLine]).length := by simp
      rw [hkn] at HQ
      generalize gs ++ List.replicate 2 nf = hs at *
      generalize ls ++ [bLine] = ks at *
      obtain ⟨q0, q1, _, _, _, _⟩ := three_cells HQ.out.box
      obtain ⟨hn1, hn2⟩ := HHN.out
      have HLQ := hide (liesS_of_own HQ.out.lines)
      have HFQ := hide HQ.out.forms.lies
      have HHI2 : Hid (∀ f ∈ hs, f.ins.length ≤ 4611686018427387904) := fun f hf => Nat.le_trans (HHI.out f hf) (by decide)
      have HPG := hide (page_any wr t _ _ eA ks hs HLQ.out HFQ.out (HET.out _ HB.out).1 (HET.out _ HB.out).2.2 (by have := HHW.out; omega) (by omega) (by omega) HHI2.out)
      have hcp : pageR eA t ks hs = .tuple #[S (pageL t ks hs), .nilIface] := by unfold pageR; rw [if_pos HHO.out]
      rw [hcp] at HPG
      obtain ⟨Z, hZ⟩ : ∃ Z : ByteArray, (⟨(pageL t ks hs).toArray⟩ : ByteArray) = Z := ⟨_, rfl⟩
      have HZl : Hid (Z.data.toList = pageL t ks hs) := by show _ = _; rw [← hZ]
      have HZs : Hid (Z.size ≤ 1099511627776) := by have h1 := pageL_most' t ks hs; have h2 := HHW.out; show _ ≤ _; rw [← hZ, size_mk]; omega
      rw [show S (pageL t ks hs) = Value.string Z from congrArg Value.string hZ] at HPG
      have HZR : Hid (pageRd Z.data.toList = some (t, ks, hs)) := by show _ = _; rw [HZl.out]; exact pageRd_app t ks hs HHO.out
      have HKP := hide hkp
      have HN2 := hide hn2
      clear hcp hZ HLS hkn HLQ HFQ hkp hn2 k1 hlt hk
      clear q0 q1 q2 z2
      go_wp2_with (refine wpList_load_mid rfl 25 _ rfl w1.heap.size 0 rfl _ _ (range3 HQ.out.box) Tryd.underlying25 rfl sizePg ?_)
      refine HPG.out.mono ?_
      rintro x P1 ⟨rfl, b2⟩
      have HBP := hide (HB.out.trans (b2.mono HB.out.size))
      have HQ1 := hide (HQ.out.below b2)
      have HRA := hide (read_some Z P1 HZs.out ea (HET.out _ HBP.out).1 (HET.out _ HBP.out).2.1 HZR.out)
      clear b2 HPG HB HQ
      go_wp2_with fail
      refine HRA.out.mono ?_
      rintro x P2 ⟨oa, ca, ob, cb, sa, rfl, hLa, hFa, hAa, b3⟩
      obtain ⟨gF, cF2, hob⟩ := mm.own_pos hFa.row (by have := HN2.out; omega)
      cases hob
      obtain ⟨gL, cL2, hoa⟩ := mm.own_pos hLa (by have := HKP.out; omega)
      cases hoa
      have BV : Below P2.heap.size P2 (P2.alloc (.cells #[.string t, .slice (some ⟨gL, 0, none⟩) ks.length ca, .slice (some ⟨gF, 0, none⟩) hs.length cb] 25)) := (Below.refl _ _).alloc (Nat.le_refl _) _
      have HV2 : Hid (Below P1.heap.size P1 (P2.alloc (.cells #[.string t, .slice (some ⟨gL, 0, none⟩) ks.length ca, .slice (some ⟨gF, 0, none⟩) hs.length cb] 25))) := b3.trans (BV.mono b3.size)
      have HVA := hide (at_new P2 (.cells #[.string t, .slice (some ⟨gL, 0, none⟩) ks.length ca, .slice (some ⟨gF, 0, none⟩) hs.length cb] 25))
      have HBV := hide BV
      have HLA := hide hLa
      have HFA := hide hFa
      have HAA := hide hAa
      have HP12 := hide b3.size
      have HBV2 := hide (HBP.out.trans (HV2.out.mono HBP.out.size))
      have HRB := hide (read_some Z _ HZs.out ea (HET.out _ HBV2.out).1 (HET.out _ HBV2.out).2.1 HZR.out)
      clear hLa hFa hAa b3 BV HRA
      go_wp2_with fail
      generalize P2.alloc (.cells #[.string t, .slice (some ⟨gL, 0, none⟩) ks.length ca, .slice (some ⟨gF, 0, none⟩) hs.length cb] 25) = V2 at *
      refine HRB.out.mono ?_
      rintro x P3 ⟨od, cd, oe, ce, sb, rfl, hLb, hFb, _, b4⟩
      have BV : Below P3.heap.size P3 (P3.alloc (.cells #[.string t, .slice od ks.length cd, .slice oe hs.length ce] 25)) := (Below.refl _ _).alloc (Nat.le_refl _) _
      have HV3 : Hid (Below V2.heap.size V2 (P3.alloc (.cells #[.string t, .slice od ks.length cd, .slice oe hs.length ce] 25))) := b4.trans (BV.mono b4.size)
      have HVB := hide (at_new P3 (.cells #[.string t, .slice od ks.length cd, .slice oe hs.length ce] 25))
      have HLB := hide (own_below hLb BV)
      have HFB := hide (hFb.below BV)
      have HP3 := hide b4.size
      have hA3 := (HV3.out.block _ (Array.getElem?_eq_some_iff.1 HVA.out).1).trans HVA.out
      have HQ3 := hide ((HQ1.out.below HV2.out).below HV3.out)
      have HSP := hide (samePage_any t _ _ _ _ ks hs _ (((liesS_of_own HLA.out).below HBV.out).below HV3.out) ((HFA.out.lies.below HBV.out).below HV3.out) (liesS_of_own HQ3.out.lines) HQ3.out.forms.lies (by omega) (by omega) HHI2.out)
      have HA3 := hide hA3
      clear hLb hFb b4 BV HRB hA3
      have HBA3 := hide (range3 HA3.out)
      have HBQ3 := hide (range3 HQ3.out.box)
      go_wp2_with (first
        | (refine wpList_load_mid rfl 25 _ rfl P2.heap.size 0 rfl _ _ HBA3.out Tryd.underlying25 rfl sizePg ?_)
        | (refine wpList_load_mid rfl 25 _ rfl w1.heap.size 0 rfl _ _ HBQ3.out Tryd.underlying25 rfl sizePg ?_))
      generalize P3.alloc (.cells #[.string t, .slice od ks.length cd, .slice oe hs.length ce] 25) = V3 at *
      refine HSP.out.mono ?_
      rintro x W5 ⟨rfl, b5⟩
      have HB25 : Hid (Below P2.heap.size P2 W5) := (HBV.out.trans (HV3.out.mono HBV.out.size)).trans (b5.mono (Nat.le_trans HBV.out.size HV3.out.size))
      have HB15 : Hid (Below P1.heap.size P1 W5) := (HV2.out.trans (HV3.out.mono HV2.out.size)).trans (b5.mono (Nat.le_trans HV2.out.size HV3.out.size))
      have HA5 := hide ((b5.block _ (Array.getElem?_eq_some_iff.1 HA3.out).1).trans HA3.out)
      have HX5 := hide ((b5.block _ (Array.getElem?_eq_some_iff.1 HVB.out).1).trans HVB.out)
      have HLB5 := hide (own_below HLB.out b5)
      have HFB5 := hide (HFB.out.below b5)
      have HP22 : Hid (P2.heap.size ≤ V2.heap.size) := HBV.out.size
      obtain ⟨hpf, hpm⟩ := pm_of HLA.out HFA.out HAA.out HB25.out
      have HPF := hide hpf
      obtain ⟨len, hlen⟩ : ∃ len : Nat → Nat, len = fun j => (insOf hs j).length := ⟨_, rfl⟩
      have hle : ∀ j, len j ≤ 32 := fun j => by rw [hlen]; exact insOf_le HHI.out j
      have HLE := hide hle
      have HSA : Hid (hs.length = sa.length) := HFA.out.len
      have HMF := hide (markForms_any P1.heap.size P2.heap.size gF cb hs.length ks.length (fun j => (insOf hs j).length) _ sa (fc hs sa) ks (insOf hs) t bMark W5 HB25.out.size hpf hpm (by omega) (fun j _ => Nat.le_trans (insOf_le HHI.out j) (by decide)))
      rw [show (fun j => List.replicate (insOf hs j).length (mkI bMark j)) = fun j => List.replicate (len j) (mkI bMark j) by rw [hlen], ← hlen] at HMF
      obtain ⟨I, hI⟩ : ∃ I : Nat → List Inp, I = fun j => List.replicate (len j) (mkI bMark j) := ⟨_, rfl⟩
      rw [← hI] at HMF
      have HI := hide hI
      have HIL : Hid (∀ j, (I j).length = len j) := fun j => by rw [hI]; simp
      have HRA5 := hide (range3 HA5.out)
      obtain ⟨F, hF⟩ : ∃ F, F = fc hs sa := ⟨_, rfl⟩
      rw [← hF] at HMF HPF
      clear hpf hpm hlen hle hI hF b5 HSP HBQ3 HBA3 HA3 HVB HVA HLB HFB HV3 HBV HV2 HLA HFA HAA HQ3
      go_wp2_with (refine wpList_load_mid rfl 25 _ rfl P2.heap.size 0 rfl _ _ HRA5.out Tryd.underlying25 rfl sizePg ?_)
      refine HMF.out.mono ?_
      rintro x W6 ⟨rfl, hM6⟩
      have HM6 := hide hM6
      clear hM6 HMF HRA5
      go_wp2_with fail
      go_loopw [12] (fun vi wr => ∃ k : Nat, k ≤ ks.length ∧ vi = .int .i64 k ∧ Hid (Pm P1.heap.size P2.heap.size W5 hs.length ks.length len (.slice (some ⟨gF, 0, none⟩) hs.length cb) (.slice (some ⟨gL, 0, none⟩) ks.length ca) sa F (List.replicate k bMark ++ ks.drop k) I wr)) (fun vi _ => ks.length - (intOf vi).toNat)
      case atStart => exact ⟨0, Nat.zero_le _, rfl, HM6⟩
      case round =>
        obtain ⟨k, hk, rfl, HM⟩ := hrel
        clear HM6
        obtain ⟨_, a1, _, _, _, _⟩ := three_cells (HM.out.rws.mid.at_ HA5.out (Or.inr (Nat.le_refl _)))
        by_cases hlt : k < ks.length
        · have k1 : (k : Int) < (ks.length : Int) := by omega
          have k0 : (0 : Int) ≤ (k : Int) := Int.natCast_nonneg _
          have HN := hide (HM.out.putL HPF.out k bMark)
          rw [rep_set ks bMark k hlt] at HN
          have hkk : k < (List.replicate k bMark ++ ks.drop k).length := by simp; omega
          have c0 : wr.cell? ⟨gL, k, none⟩ = some (.string ((List.replicate k bMark ++ ks.drop k)[k]'hkk)) := (HM.out.lines.cellAt k (by omega)).trans (by rw [List.getElem?_map, List.getElem?_eq_getElem hkk]; rfl)
          have f0 := HM.out.lines.frozenAt k
          generalize (List.replicate k bMark ++ ks.drop k)[k]'hkk = x0 at *
          clear hkk HM
          go_wp2_with fail
          go_roundw
          case rel => exact ⟨k + 1, by omega, by go_num, HN⟩
          case measure => simp [intOf]; omega
        · have k1 : ¬ (k : Int) < (ks.length : Int) := by omega
          obtain rfl : k = ks.length := by omega
          rw [List.drop_length, List.append_nil] at HM
          clear hlt hk
          go_wp2_with fail
          clear k1 a1
          go_loopw [13, 14] (fun vn vi wr => ∃ i s : Nat, i ≤ hs.length ∧ vi = .int .i64 i ∧ vn = .int .i64 s ∧ 64 * i ≤ s ∧ s ≤ 96 * i ∧ Hid (Pm P1.heap.size P2.heap.size W5 hs.length ks.length len (.slice (some ⟨gF, 0, none⟩) hs.length cb) (.slice (some ⟨gL, 0, none⟩) ks.length ca) sa F (List.replicate ks.length bMark) I wr)) (fun _ vi _ => hs.length - (intOf vi).toNat)
          case atStart => exact ⟨0, 0, Nat.zero_le _, rfl, rfl, by omega, by omega, HM⟩
          case round =>
            obtain ⟨i, s, hi, rfl, rfl, hs1, hs2, HMS⟩ := hrel
            clear HM
            obtain ⟨_, _, a2, _, _, _⟩ := three_cells (HMS.out.rws.mid.at_ HA5.out (Or.inr (Nat.le_refl _)))
            by_cases hlt : i < hs.length
            · have j0 : (0 : Int) ≤ (i : Int) := Int.natCast_nonneg _
              have j1 : (i : Int) < (hs.length : Int) := by omega
              have hisa : i < sa.length := by have := HSA.out; omega
              have hil := HLE.out i
              have hc := HMS.out.cell HPF.out i hisa
              have HG0 : Hid (Gs P1.heap.size P2.heap.size (sa.length + 2) W5 eP zPg (nP hs.length ks.length len) (vP (.slice (some ⟨gF, 0, none⟩) hs.length cb) (.slice (some ⟨gL, 0, none⟩) ks.length ca) sa) (XP F (List.replicate ks.length bMark) I) (i + 2) 0 [] sa[i] wr) := by
                have h9 := Gs.start (i := i + 2) HMS.out.rws (by omega)
                rw [vP_in hisa] at h9
                exact h9
              obtain ⟨oi, ci, hvi⟩ := mm.own_slice (HMS.out.ins i hisa)
              rw [hvi] at hc HG0
              have HGA := hide (HG0.out.below ((Below.refl wr.heap.size wr).alloc (Nat.le_refl _) (.cells #[.int .i64 99, .string bBeside, .string e0B, .string e0B] 28)))
              have HR0 : Hid ((wr.alloc (.cells #[.int .i64 99, .string bBeside, .string e0B, .string e0B] 28)).ownsRow 0 28 4 (.slice oi (len i) ci) (len i) (ic (I i) ++ [])) := HGA.out.row
              have HNEW := hide (cells_new wr (ic [iB]) 28)
              have HSI := hide hisa
              clear hvi HG0 hisa
              go_wp2_with (at_builtin; refine ak.wpList_append_keep _ (by rfl) _ _ 29 (by rfl) 0 28 i0 (.agg #[.int .i64 0, .string ⟨#[]⟩, .string ⟨#[]⟩, .string ⟨#[]⟩]) 4 56 Tryd.underlying29 hin hz0 hz1 hz2 rfl (by decide) (.slice oi (len i) ci) (len i) _ (by rfl) HR0.out ⟨wr.heap.size, 0, none⟩ 1 (ic [iB]) (by rfl) rfl HNEW.out (ic_one _) ?c3 ?c4 ?c5 ?_)
              case c3 => unfold maxLen; omega
              case c4 => omega
              case c5 => exact Nat.zero_le _
              intro v1 X1 hown1 hat1
              have HG1 : Hid (Gs P1.heap.size P2.heap.size (sa.length + 2) W5 eP zPg (nP hs.length ks.length len) (vP (.slice (some ⟨gF, 0, none⟩) hs.length cb) (.slice (some ⟨gL, 0, none⟩) ks.length ca) sa) (XP F (List.replicate ks.length bMark) I) (i + 2) 1 (ic [iB]) v1 X1) := by
                refine HGA.out.next (ys := []) (y := ic [iB]) HPF.out.fx HB25.out.size (by have := HSI.out; omega) (by show X1.ownsRow 0 28 4 v1 (len i + 1) (ic (I i) ++ [] ++ ic [iB]); rw [List.append_nil]; exact hown1) ?_
                rcases hat1 with ⟨b, cap2, ⟨e1, e2⟩, q2, q3⟩ | ⟨q2, q3⟩
                · exact Or.inl ⟨b, cap2, by rw [e1, e2] <;> rfl, q2, q3⟩
                · exact Or.inr ⟨by rw [World.size_alloc]; exact q2, q3⟩
              clear hown1 hat1 HR0 HGA HNEW hc a2
              go_wp2_with fail
              go_loopw [15, 16] (fun u vk wk => ∃ (k : Nat) (ys : List Value), 1 ≤ k ∧ k ≤ 64 ∧ vk = .int .i64 k ∧ Hid (Gs P1.heap.size P2.heap.size (sa.length + 2) W5 eP zPg (nP hs.length ks.length len) (vP (.slice (some ⟨gF, 0, none⟩) hs.length cb) (.slice (some ⟨gL, 0, none⟩) ks.length ca) sa) (XP F (List.replicate ks.length bMark) I) (i + 2) k ys u wk)) (fun _ vk _ => 64 - (intOf vk).toNat)
              case atStart => exact ⟨1, _, Nat.le_refl _, by decide, rfl, HG1⟩
              case round =>
                obtain ⟨k, ys, hk1, hk, rfl, HG⟩ := hrel
                clear HG1
                obtain ⟨oo, co, rfl⟩ := mm.own_slice (show wr.ownsRow 0 28 4 _ (len i + k) (ic (I i) ++ ys) from HG.out.row)
                by_cases hkl : k < 64
                · have k1 : (k : Int) < 64 := by omega
                  have HGA := hide (HG.out.below ((Below.refl wr.heap.size wr).alloc (Nat.le_refl _) (.cells #[.int .i64 99, .string bBeside, .string e0B, .string e0B] 28)))
                  have HRk : Hid ((wr.alloc (.cells #[.int .i64 99, .string bBeside, .string e0B, .string e0B] 28)).ownsRow 0 28 4 (.slice oo (len i + k) co) (len i + k) (ic (I i) ++ ys)) := HGA.out.row
                  have HNEW := hide (cells_new wr (ic [iB]) 28)
                  clear HG
                  go_wp2_with (at_builtin; refine ak.wpList_append_keep _ (by rfl) _ _ 29 (by rfl) 0 28 i0 (.agg #[.int .i64 0, .string ⟨#[]⟩, .string ⟨#[]⟩, .string ⟨#[]⟩]) 4 56 Tryd.underlying29 hin hz0 hz1 hz2 rfl (by decide) (.slice oo (len i + k) co) (len i + k) _ (by rfl) HRk.out ⟨wr.heap.size, 0, none⟩ 1 (ic [iB]) (by rfl) rfl HNEW.out (ic_one _) ?d3 ?d4 ?d5 ?_)
                  try case d3 => unfold maxLen; omega
                  try case d4 => omega
                  try case d5 => exact Nat.zero_le _
                  intro v2 X2 hown2 hat2
                  have HG2 : Hid (Gs P1.heap.size P2.heap.size (sa.length + 2) W5 eP zPg (nP hs.length ks.length len) (vP (.slice (some ⟨gF, 0, none⟩) hs.length cb) (.slice (some ⟨gL, 0, none⟩) ks.length ca) sa) (XP F (List.replicate ks.length bMark) I) (i + 2) (k + 1) (ys ++ ic [iB]) v2 X2) := by
                    refine HGA.out.next (y := ic [iB]) HPF.out.fx HB25.out.size (by have := HSI.out; omega) (by show X2.ownsRow 0 28 4 v2 (len i + k + 1) (ic (I i) ++ ys ++ ic [iB]); rw [List.append_assoc]; exact hown2) ?_
                    rcases hat2 with ⟨b, cap2, ⟨e1, e2⟩, q2, q3⟩ | ⟨q2, q3⟩
                    · exact Or.inl ⟨b, cap2, by rw [e1, e2] <;> rfl, q2, q3⟩
                    · exact Or.inr ⟨by rw [World.size_alloc]; exact q2, q3⟩
                  clear hown2 hat2 HRk HGA HNEW
                  go_wp2_with fail
                  go_roundw
                  case rel => exact ⟨k + 1, _, by omega, by omega, by go_num, HG2⟩
                  case measure => simp [intOf]; omega
                · obtain rfl : k = 64 := by omega
                  have hw64 : IntKind.i64.wrap ((s : Int) + ((len i + 64 : Nat) : Int)) = ((s + (len i + 64) : Nat) : Int) := by unfold IntKind.wrap; simp [IntKind.bits, IntKind.signed]; omega
                  have HMN : Hid (Pm P1.heap.size P2.heap.size W5 hs.length ks.length len (.slice (some ⟨gF, 0, none⟩) hs.length cb) (.slice (some ⟨gL, 0, none⟩) ks.length ca) sa F (List.replicate ks.length bMark) I wr) := ⟨HG.out.rws, fun j _ => HIL.out j⟩
                  clear HG
                  go_wp2_with fail
                  go_roundw
                  case rel => exact ⟨i + 1, s + (len i + 64), by omega, by go_num, by go_num, by omega, by omega, HMN⟩
                  case measure => simp [intOf]; omega
            · have j1 : ¬ (i : Int) < (hs.length : Int) := by omega
              obtain rfl : i = hs.length := by omega
              clear hlt hi
              have HG0 : Hid (Gs P1.heap.size P2.heap.size (sa.length + 2) W5 eP zPg (nP hs.length ks.length len) (vP (.slice (some ⟨gF, 0, none⟩) hs.length cb) (.slice (some ⟨gL, 0, none⟩) ks.length ca) sa) (XP F (List.replicate ks.length bMark) I) 0 0 [] (.slice (some ⟨gF, 0, none⟩) hs.length cb) wr) := Gs.start (i := 0) HMS.out.rws (by omega)
              have HGA := hide (HG0.out.below ((Below.refl wr.heap.size wr).alloc (Nat.le_refl _) (.cells #[.string bBeside, .slice none 0 0, .string e0B] 31)))
              have HR0 : Hid ((wr.alloc (.cells #[.string bBeside, .slice none 0 0, .string e0B] 31)).ownsRow 0 31 3 (.slice (some ⟨gF, 0, none⟩) hs.length cb) hs.length (F ++ [])) := HGA.out.row
              have HNEW := hide (cells_new wr [.string bBeside, .slice none 0 0, .string e0B] 31)
              clear HG0 HMS
              go_wp2_with (at_builtin; refine ak.wpList_append_keep _ (by rfl) _ _ 23 (by rfl) 0 31 j0 (.agg #[.string ⟨#[]⟩, .slice none 0 0, .string ⟨#[]⟩]) 3 56 Tryd.underlying23 hjn hy0 hy1 hy2 rfl (by decide) (.slice (some ⟨gF, 0, none⟩) hs.length cb) hs.length _ (by rfl) HR0.out ⟨wr.heap.size, 0, none⟩ 1 [.string bBeside, .slice none 0 0, .string e0B] (by rfl) rfl HNEW.out ?a2 ?a3 ?a4 ?a5 ?_)
              try case a2 => first | rfl | exact ⟨rfl, rfl, rfl⟩ | (intro u hu; simp at hu; rcases hu with rfl | rfl | rfl <;> rfl) | (intro u hu; simp at hu; rw [hu]; rfl)
              try case a3 => unfold maxLen; omega
              try case a4 => omega
              try case a5 => exact Nat.zero_le _
              intro v1 X1 hown1 hat1
              have HG1 : Hid (Gs P1.heap.size P2.heap.size (sa.length + 2) W5 eP zPg (nP hs.length ks.length len) (vP (.slice (some ⟨gF, 0, none⟩) hs.length cb) (.slice (some ⟨gL, 0, none⟩) ks.length ca) sa) (XP F (List.replicate ks.length bMark) I) 0 1 [.string bBeside, .slice none 0 0, .string e0B] v1 X1) := by
                refine HGA.out.next (ys := []) (y := [.string bBeside, .slice none 0 0, .string e0B]) HPF.out.fx HB25.out.size (by omega) (by show X1.ownsRow 0 31 3 v1 (hs.length + 1) (F ++ [] ++ [.string bBeside, .slice none 0 0, .string e0B]); rw [List.append_nil]; exact hown1) ?_
                rcases hat1 with ⟨b, cap2, ⟨e1, e2⟩, q2, q3⟩ | ⟨q2, q3⟩
                · exact Or.inl ⟨b, cap2, by rw [e1, e2] <;> rfl, q2, q3⟩
                · exact Or.inr ⟨by rw [World.size_alloc]; exact q2, q3⟩
              clear hown1 hat1 HR0 HGA HNEW a2 j1
              obtain ⟨_, a1, _, _, _, _⟩ := three_cells (HG1.out.rws.mid.at_ HA5.out (Or.inr (Nat.le_refl _)))
              have HH0 : Hid (Gs P1.heap.size P2.heap.size (sa.length + 2) W5 eP zPg (nP hs.length ks.length len) (vP (.slice (some ⟨gF, 0, none⟩) hs.length cb) (.slice (some ⟨gL, 0, none⟩) ks.length ca) sa) (XP F (List.replicate ks.length bMark) I) 1 0 [] (.slice (some ⟨gL, 0, none⟩) ks.length ca) X1) := Gs.start (i := 1) HG1.out.rws (by omega)
              have HHA := hide (HH0.out.below ((Below.refl X1.heap.size X1).alloc (Nat.le_refl _) (.cells #[.string bBeside] 9)))
              have HGA := hide (HG1.out.below ((Below.refl X1.heap.size X1).alloc (Nat.le_refl _) (.cells #[.string bBeside] 9)))
              have HR0 : Hid ((X1.alloc (.cells #[.string bBeside] 9)).ownsRow 0 9 1 (.slice (some ⟨gL, 0, none⟩) ks.length ca) ks.length ((List.replicate ks.length bMark).map Value.string ++ [])) := HHA.out.row
              have HNEW := hide (cells_new X1 [.string bBeside] 9)
              have HMR : Hid ((List.replicate ks.length bMark).map Value.string = List.replicate ks.length (.string bMark)) := List.map_replicate
              clear HG1 HH0
              go_wp2_with (at_builtin; refine ak.wpList_append_keep _ (by rfl) _ _ 22 (by rfl) 0 9 k0s (.string ⟨#[]⟩) 1 16 Tryd.underlying22 hsn hs0 hs1' hs2' rfl (by decide) (.slice (some ⟨gL, 0, none⟩) ks.length ca) ks.length _ (by rfl) HR0.out ⟨X1.heap.size, 0, none⟩ 1 [.string bBeside] (by rfl) rfl HNEW.out ?b2 ?b3 ?b4 ?b5 ?_)
              try case b2 => first | rfl | exact ⟨rfl, rfl, rfl⟩ | (intro u hu; simp at hu; rcases hu with rfl | rfl | rfl <;> rfl) | (intro u hu; simp at hu; rw [hu]; rfl)
              try case b3 => unfold maxLen; omega
              try case b4 => omega
              try case b5 => exact Nat.zero_le _
              intro v2 X2 hown2 hat2
              have hat2' : (∃ b cap, Value.slice (some ⟨gL, 0, none⟩) ks.length ca = .slice (some ⟨b, 0, none⟩) (ks.length + 0) cap ∧ v2 = .slice (some ⟨b, 0, none⟩) (ks.length + 0 + 1) cap ∧ (X1.alloc (.cells #[.string bBeside] 9)).grownBy X2 (some b)) ∨ (v2.ownBlock = some (X1.alloc (.cells #[.string bBeside] 9)).heap.size ∧ (X1.alloc (.cells #[.string bBeside] 9)).grownBy X2 none) := by
                rcases hat2 with ⟨b, cap2, ⟨e1, e2⟩, q2, q3⟩ | ⟨q2, q3⟩
                · exact Or.inl ⟨b, cap2, by rw [e1, e2] <;> rfl, q2, q3⟩
                · exact Or.inr ⟨by rw [World.size_alloc]; exact q2, q3⟩
              have HH2 : Hid (Gs P1.heap.size P2.heap.size (sa.length + 2) W5 eP zPg (nP hs.length ks.length len) (vP (.slice (some ⟨gF, 0, none⟩) hs.length cb) (.slice (some ⟨gL, 0, none⟩) ks.length ca) sa) (XP F (List.replicate ks.length bMark) I) 1 1 [.string bBeside] v2 X2) := by
                refine HHA.out.next (ys := []) (y := [.string bBeside]) HPF.out.fx HB25.out.size (by omega) (by show X2.ownsRow 0 9 1 v2 (ks.length + 1) ((List.replicate ks.length bMark).map Value.string ++ [] ++ [.string bBeside]); rw [List.append_nil, HMR.out]; exact hown2) hat2'
              have HG2 := hide (HGA.out.beside HHA.out HH2.out.rws (by decide) hat2')
              clear hown2 hat2 hat2' HR0 HGA HHA HNEW a1
              go_wp2_with fail
              go_loopw [17, 18, 19] (fun u0 u1 vk wk => ∃ (k : Nat) (ys zs : List Value), 1 ≤ k ∧ k ≤ 64 ∧ vk = .int .i64 k ∧ Hid (Gs P1.heap.size P2.heap.size (sa.length + 2) W5 eP zPg (nP hs.length ks.length len) (vP (.slice (some ⟨gF, 0, none⟩) hs.length cb) (.slice (some ⟨gL, 0, none⟩) ks.length ca) sa) (XP F (List.replicate ks.length bMark) I) 0 k ys u0 wk) ∧ Hid (Gs P1.heap.size P2.heap.size (sa.length + 2) W5 eP zPg (nP hs.length ks.length len) (vP (.slice (some ⟨gF, 0, none⟩) hs.length cb) (.slice (some ⟨gL, 0, none⟩) ks.length ca) sa) (XP F (List.replicate ks.length bMark) I) 1 k zs u1 wk)) (fun _ _ vk _ => 64 - (intOf vk).toNat)
              case atStart => exact ⟨1, _, _, Nat.le_refl _, by decide, rfl, HG2, HH2⟩
              case round =>
                obtain ⟨k, ys, zs, hk1, hk, rfl, HG, HH⟩ := hrel
                clear HG2 HH2
                obtain ⟨oo, co, rfl⟩ := mm.own_slice (show wr.ownsRow 0 31 3 _ (hs.length + k) (F ++ ys) from HG.out.row)
                obtain ⟨op, cp, rfl⟩ := mm.own_slice (show wr.ownsRow 0 9 1 _ (ks.length + k) ((List.replicate ks.length bMark).map Value.string ++ zs) from HH.out.row)
                by_cases hkl : k < 64
                · have k1 : (k : Int) < 64 := by omega
                  have HGA := hide (HG.out.below ((Below.refl wr.heap.size wr).alloc (Nat.le_refl _) (.cells #[.string bBeside, .slice none 0 0, .string e0B] 31)))
                  have HHA := hide (HH.out.below ((Below.refl wr.heap.size wr).alloc (Nat.le_refl _) (.cells #[.string bBeside, .slice none 0 0, .string e0B] 31)))
                  have HRk : Hid ((wr.alloc (.cells #[.string bBeside, .slice none 0 0, .string e0B] 31)).ownsRow 0 31 3 (.slice oo (hs.length + k) co) (hs.length + k) (F ++ ys)) := HGA.out.row
                  have HNEW := hide (cells_new wr [.string bBeside, .slice none 0 0, .string e0B] 31)
                  clear HG HH
                  go_wp2_with (at_builtin; refine ak.wpList_append_keep _ (by rfl) _ _ 23 (by rfl) 0 31 j0 (.agg #[.string ⟨#[]⟩, .slice none 0 0, .string ⟨#[]⟩]) 3 56 Tryd.underlying23 hjn hy0 hy1 hy2 rfl (by decide) (.slice oo (hs.length + k) co) (hs.length + k) _ (by rfl) HRk.out ⟨wr.heap.size, 0, none⟩ 1 [.string bBeside, .slice none 0 0, .string e0B] (by rfl) rfl HNEW.out ?d2 ?d3 ?d4 ?d5 ?_)
                  try case d2 => first | rfl | exact ⟨rfl, rfl, rfl⟩ | (intro u hu; simp at hu; rcases hu with rfl | rfl | rfl <;> rfl) | (intro u hu; simp at hu; rw [hu]; rfl)
                  try case d3 => unfold maxLen; omega
                  try case d4 => omega
                  try case d5 => exact Nat.zero_le _
                  intro v3 X3 hown3 hat3
                  have hat3' : (∃ b cap, Value.slice oo (hs.length + k) co = .slice (some ⟨b, 0, none⟩) (hs.length + k) cap ∧ v3 = .slice (some ⟨b, 0, none⟩) (hs.length + k + 1) cap ∧ (wr.alloc (.cells #[.string bBeside, .slice none 0 0, .string e0B] 31)).grownBy X3 (some b)) ∨ (v3.ownBlock = some (wr.alloc (.cells #[.string bBeside, .slice none 0 0, .string e0B] 31)).heap.size ∧ (wr.alloc (.cells #[.string bBeside, .slice none 0 0, .string e0B] 31)).grownBy X3 none) := by
                    rcases hat3 with ⟨b, cap2, ⟨e1, e2⟩, q2, q3⟩ | ⟨q2, q3⟩
                    · exact Or.inl ⟨b, cap2, by rw [e1, e2] <;> rfl, q2, q3⟩
                    · exact Or.inr ⟨by rw [World.size_alloc]; exact q2, q3⟩
                  have HG3 : Hid (Gs P1.heap.size P2.heap.size (sa.length + 2) W5 eP zPg (nP hs.length ks.length len) (vP (.slice (some ⟨gF, 0, none⟩) hs.length cb) (.slice (some ⟨gL, 0, none⟩) ks.length ca) sa) (XP F (List.replicate ks.length bMark) I) 0 (k + 1) (ys ++ [.string bBeside, .slice none 0 0, .string e0B]) v3 X3) := by
                    refine HGA.out.next (y := [.string bBeside, .slice none 0 0, .string e0B]) HPF.out.fx HB25.out.size (by omega) (by show X3.ownsRow 0 31 3 v3 (hs.length + k + 1) (F ++ ys ++ [.string bBeside, .slice none 0 0, .string e0B]); rw [List.append_assoc]; exact hown3) hat3'
                  have HH3 := hide (HHA.out.beside HGA.out HG3.out.rws (by decide) hat3')
                  clear hown3 hat3 hat3' HRk HGA HHA HNEW
                  obtain ⟨o3, c3, rfl⟩ := mm.own_slice (show X3.ownsRow 0 31 3 _ (hs.length + (k + 1)) (F ++ (ys ++ [.string bBeside, .slice none 0 0, .string e0B])) from HG3.out.row)
                  have HGA := hide (HG3.out.below ((Below.refl X3.heap.size X3).alloc (Nat.le_refl _) (.cells #[.string bBeside] 9)))
                  have HHA := hide (HH3.out.below ((Below.refl X3.heap.size X3).alloc (Nat.le_refl _) (.cells #[.string bBeside] 9)))
                  have HRk : Hid ((X3.alloc (.cells #[.string bBeside] 9)).ownsRow 0 9 1 (.slice op (ks.length + k) cp) (ks.length + k) ((List.replicate ks.length bMark).map Value.string ++ zs)) := HHA.out.row
                  have HNEW := hide (cells_new X3 [.string bBeside] 9)
                  clear HG3 HH3
                  go_wp2_with (at_builtin; refine ak.wpList_append_keep _ (by rfl) _ _ 22 (by rfl) 0 9 k0s (.string ⟨#[]⟩) 1 16 Tryd.underlying22 hsn hs0 hs1' hs2' rfl (by decide) (.slice op (ks.length + k) cp) (ks.length + k) _ (by rfl) HRk.out ⟨X3.heap.size, 0, none⟩ 1 [.string bBeside] (by rfl) rfl HNEW.out ?e2 ?e3 ?e4 ?e5 ?_)
                  try case e2 => first | rfl | exact ⟨rfl, rfl, rfl⟩ | (intro u hu; simp at hu; rcases hu with rfl | rfl | rfl <;> rfl) | (intro u hu; simp at hu; rw [hu]; rfl)
                  try case e3 => unfold maxLen; omega
                  try case e4 => omega
                  try case e5 => exact Nat.zero_le _
                  intro v4 X4 hown4 hat4
                  have hat4' : (∃ b cap, Value.slice op (ks.length + k) cp = .slice (some ⟨b, 0, none⟩) (ks.length + k) cap ∧ v4 = .slice (some ⟨b, 0, none⟩) (ks.length + k + 1) cap ∧ (X3.alloc (.cells #[.string bBeside] 9)).grownBy X4 (some b)) ∨ (v4.ownBlock = some (X3.alloc (.cells #[.string bBeside] 9)).heap.size ∧ (X3.alloc (.cells #[.string bBeside] 9)).grownBy X4 none) := by
                    rcases hat4 with ⟨b, cap2, ⟨e1, e2⟩, q2, q3⟩ | ⟨q2, q3⟩
                    · exact Or.inl ⟨b, cap2, by rw [e1, e2] <;> rfl, q2, q3⟩
                    · exact Or.inr ⟨by rw [World.size_alloc]; exact q2, q3⟩
                  have HH4 : Hid (Gs P1.heap.size P2.heap.size (sa.length + 2) W5 eP zPg (nP hs.length ks.length len) (vP (.slice (some ⟨gF, 0, none⟩) hs.length cb) (.slice (some ⟨gL, 0, none⟩) ks.length ca) sa) (XP F (List.replicate ks.length bMark) I) 1 (k + 1) (zs ++ [.string bBeside]) v4 X4) := by
                    refine HHA.out.next (y := [.string bBeside]) HPF.out.fx HB25.out.size (by omega) (by show X4.ownsRow 0 9 1 v4 (ks.length + k + 1) ((List.replicate ks.length bMark).map Value.string ++ zs ++ [.string bBeside]); rw [List.append_assoc, HMR.out]; exact hown4) hat4'
                  have HG4 := hide (HGA.out.beside HHA.out HH4.out.rws (by decide) hat4')
                  clear hown4 hat4 hat4' HRk HGA HHA HNEW
                  go_wp2_with fail
                  go_roundw
                  case rel => exact ⟨k + 1, _, _, by omega, by omega, by go_num, HG4, HH4⟩
                  case measure => simp [intOf]; omega
                · obtain rfl : k = 64 := by omega
                  have HMD := hide HG.out.rws.mid
                  have HPM : Hid (Pm P1.heap.size P2.heap.size W5 hs.length ks.length len (.slice (some ⟨gF, 0, none⟩) hs.length cb) (.slice (some ⟨gL, 0, none⟩) ks.length ca) sa F (List.replicate ks.length bMark) I wr) := ⟨HG.out.rws, fun j _ => HIL.out j⟩
                  have hb0 := HMD.out.at_ HA5.out (Or.inr (Nat.le_refl _))
                  have HRA := hide (range3 hb0)
                  have HA0 := hide hb0
                  have HMK := hide (markedForms_any P1.heap.size P2.heap.size gF cb hs.length ks.length len (.slice (some ⟨gL, 0, none⟩) ks.length ca) sa F (List.replicate ks.length bMark) W5 t bMark wr HPF.out (by have h9 := HPM.out; rw [HI.out] at h9; exact h9) (by omega) (fun j _ => Nat.le_trans (HLE.out j) (by decide)))
                  clear HG HH hkl hk hk1 hb0
                  go_wp2_with (refine wpList_load_mid rfl 25 _ rfl P2.heap.size 0 rfl _ _ HRA.out Tryd.underlying25 rfl sizePg ?_)
                  refine HMK.out.mono ?_
                  rintro x X3 ⟨rfl, b3⟩
                  have hA3 := (b3.block _ (Array.getElem?_eq_some_iff.1 HA0.out).1).trans HA0.out
                  obtain ⟨_, a1, _, _, _, _⟩ := three_cells hA3
                  have HM3 := hide (HMD.out.below b3)
                  have HML := hide (markedLines_any (.slice (some ⟨gL, 0, none⟩) ks.length ca) bMark ks.length X3 (HPM.out.below b3).lines (by omega))
                  clear HMK HMD HPM HRA HA0 b3 hA3
                  go_wp2_with fail
                  refine HML.out.mono ?_
                  rintro x X3' ⟨rfl, h9⟩
                  obtain rfl := h9.symm
                  clear h9
                  have HX3 := hide (HM3.out.at_ HX5.out (Or.inr (Nat.le_trans HP22.out HP3.out)))
                  have HL3 : Hid (Below P1.heap.size P1 X3) := HB15.out.trans (HM3.out.low HB15.out.size)
                  have HQ4 := hide (HQ1.out.below HL3.out)
                  have HLB3 := hide (mm.own_mid HLB5.out HM3.out HP22.out)
                  have HFB3 := hide (HFB5.out.mid HM3.out HP22.out)
                  have HRB := hide (range3 HX3.out)
                  have HRQ := hide (range3 HQ4.out.box)
                  have HSB := hide (samePage_any t _ _ _ _ ks hs X3 (liesS_of_own HLB3.out) HFB3.out.lies (liesS_of_own HQ4.out.lines) HQ4.out.forms.lies (by omega) (by omega) HHI2.out)
                  clear HML a1 HLB5 HFB5 HX5 HA5 HM3
                  go_wp2_with (first
                    | (refine wpList_load_mid rfl 25 _ rfl P3.heap.size 0 rfl _ _ HRB.out Tryd.underlying25 rfl sizePg ?_)
                    | (refine wpList_load_mid rfl 25 _ rfl w1.heap.size 0 rfl _ _ HRQ.out Tryd.underlying25 rfl sizePg ?_))
                  refine HSB.out.mono ?_
                  rintro x X4 ⟨rfl, b4⟩
                  have HL4 := hide (HL3.out.trans (b4.mono HL3.out.size))
                  have HBX4 := hide (HBP.out.trans (HL4.out.mono HBP.out.size))
                  have HQ5 := hide (HQ4.out.below b4)
                  have HRC := hide (read_some Z X4 HZs.out ea (HET.out _ HBX4.out).1 (HET.out _ HBX4.out).2.1 HZR.out)
                  clear HSB HRB HRQ HX3 HLB3 HFB3 b4 HQ4
                  go_wp2_with fail
                  refine HRC.out.mono ?_
                  rintro x X5 ⟨og, cg, oh, ch, sc, rfl, hLc, hFc, _, b6⟩
                  have BV : Below X5.heap.size X5 (X5.alloc (.cells #[.string t, .slice og ks.length cg, .slice oh hs.length ch] 25)) := (Below.refl _ _).alloc (Nat.le_refl _) _
                  have HB6 := hide (b6.trans (BV.mono b6.size))
                  have HVC := hide (at_new X5 (.cells #[.string t, .slice og ks.length cg, .slice oh hs.length ch] 25))
                  have HQ6 := hide (HQ5.out.below HB6.out)
                  have HL6 := hide (HL4.out.trans (HB6.out.mono HL4.out.size))
                  have HSC := hide (samePage_any t _ _ _ _ ks hs _ ((liesS_of_own hLc).below BV) (hFc.lies.below BV) (liesS_of_own HQ6.out.lines) HQ6.out.forms.lies (by omega) (by omega) HHI2.out)
                  have HRV := hide (range3 HVC.out)
                  have HRQ := hide (range3 HQ6.out.box)
                  clear HRC hLc hFc b6 BV HQ5 HVC
                  go_wp2_with (first
                    | (refine wpList_load_mid rfl 25 _ rfl X5.heap.size 0 rfl _ _ HRV.out Tryd.underlying25 rfl sizePg ?_)
                    | (refine wpList_load_mid rfl 25 _ rfl w1.heap.size 0 rfl _ _ HRQ.out Tryd.underlying25 rfl sizePg ?_))
                  generalize X5.alloc (.cells #[.string t, .slice og ks.length cg, .slice oh hs.length ch] 25) = V6 at *
                  refine HSC.out.mono ?_
                  rintro x X7 ⟨rfl, b7⟩
                  have HQ7 := hide (HQ6.out.below b7)
                  have HL7 := hide (HL6.out.trans (b7.mono HL6.out.size))
                  have HB7 := hide (HBP.out.trans (HL7.out.mono HBP.out.size))
                  clear HSC HRV HRQ HQ6 b7
                  obtain ⟨gQ, cQ, hQe⟩ := mm.own_pos HQ7.out.lines (by have := HKP.out; omega)
                  cases hQe
                  obtain ⟨gR, cR, hRe⟩ := mm.own_pos HQ7.out.forms.row (by have := HN2.out; omega)
                  cases hRe
                  obtain ⟨s0, gz, hsv, hz⟩ := HLS2.out
                  have HZ := hide hz
                  have hQ7 : Qp base w1.heap.size t ks ((gs ++ [nf]) ++ [nf]) (.slice (some ⟨gQ, 0, none⟩) ks.length cL) (.slice (some ⟨gR, 0, none⟩) hs.length cF) (s0 ++ [.slice (some ⟨gz, 0, none⟩) 2 2]) X7 := by have h9 := HQ7.out; rw [hsv] at h9; have h8 := HREP.out; rw [h8] at h9 ⊢; exact h9
                  have hsl : (gs ++ [nf]).length = s0.length := by have h9 := hQ7.forms.len; simpa using h9
                  have hhl : hs.length = s0.length + 1 := by have h8 := HREP.out; rw [h8, List.length_append, hsl]; rfl
                  have hQ8 := hQ7.over rfl bOver
                  have HQ9 := hide (hQ8.name hz bOver)
                  have HQ8 := hide hQ8
                  obtain ⟨_, q1, _, _, _, _⟩ := three_cells hQ7.box
                  obtain ⟨_, _, q2, _, _, _⟩ := three_cells hQ8.box
                  have kp := HKP.out
                  have c0 : X7.cell? ⟨gQ, 0, none⟩ = some (.string (ks[0]'(by omega))) := (hQ7.lines.cellAt 0 (by omega)).trans (by rw [List.getElem?_map, List.getElem?_eq_getElem (by omega)]; rfl)
                  have f0 := hQ7.lines.frozenAt 0
                  have d1 : (X7.setCell ⟨gQ, 0, none⟩ (.string bOver)).cell? ⟨gR, s0.length * 3 + 1, none⟩ = some (.slice (some ⟨gz, 0, none⟩) 2 2) := by
                    have hr := hQ8.forms.row
                    have hl9 : ((gs ++ [nf]) ++ [nf]).length = s0.length + 1 := by rw [List.length_append, hsl]; rfl
                    rw [show ((gs ++ [nf]) ++ [nf]).length = hs.length by rw [hl9, hhl]] at hr
                    refine (hr.cellAt (s0.length * 3 + 1) (by omega)).trans ?_
                    refine (fc_get _ _ hQ8.forms.len s0.length (by rw [hl9]; omega)).2.1.trans ?_
                    simp
                  have hlast : (X7.setCell ⟨gQ, 0, none⟩ (.string bOver)).ownsRow base 28 4 (.slice (some ⟨gz, 0, none⟩) 2 2) 2 (ic [iN, iM]) := by
                    have h1 := hQ8.forms.each s0.length (by simp)
                    have e1 : (s0 ++ [Value.slice (some ⟨gz, 0, none⟩) 2 2])[s0.length]'(by simp) = .slice (some ⟨gz, 0, none⟩) 2 2 := by simp
                    have e2 : ((gs ++ [nf]) ++ [nf])[s0.length]'(by rw [List.length_append, hsl]; simp) = nf := by
                      have : ∀ j (hj : j < ((gs ++ [nf]) ++ [nf]).length), j = (gs ++ [nf]).length → ((gs ++ [nf]) ++ [nf])[j] = nf := by intro j hj e; subst e; simp
                      exact this _ _ hsl.symm
                    rw [e1, e2] at h1
                    exact h1
                  have c1 : (X7.setCell ⟨gQ, 0, none⟩ (.string bOver)).cell? ⟨gz, 1, none⟩ = some (.string bN) := (hlast.cellAt 1 (by omega)).trans rfl
                  have f1 := hlast.frozenAt 1
                  have hgz : w.heap.size ≤ gz := Nat.le_trans HWB.out (own_ge hlast gz rfl)
                  have hgQ : w.heap.size ≤ gQ := Nat.le_trans HWB.out (own_ge hQ7.lines gQ rfl)
                  have HB9 : Hid (Below w.heap.size w ((X7.setCell ⟨gQ, 0, none⟩ (.string bOver)).setCell ⟨gz, 1, none⟩ (.string bOver))) := (HB7.out.setCell (p := ⟨gQ, 0, none⟩) hgQ _).setCell (p := ⟨gz, 1, none⟩) hgz _
                  have hsub : IntKind.i64.wrap ((hs.length : Int) - 1) = (s0.length : Int) := by unfold IntKind.wrap; simp [IntKind.bits, IntKind.signed]; omega
                  have hm1 : (s0.length : Int) < (hs.length : Int) := by omega
                  have hm0 : (0 : Int) ≤ (s0.length : Int) := Int.natCast_nonneg _
                  have hk0 : (0 : Int) < (ks.length : Int) := by omega
                  have HSL := hide hsl
                  have HHLn := hide hhl
                  have hm2 : s0.length ≤ 100000002 := by omega
                  generalize hx0 : ks[0]'(by omega) = x0 at c0
                  clear hx0 hlast hgz hgQ hQ7 hQ8 hz hsv hsl hhl kp HQ7 HB7 HL7 HLS2
                  have HO9 : Hid (((gs ++ [nf]) ++ [nfo]).all okF = true) := (all_two HGO.out).2
                  have HI9 : Hid (∀ f ∈ (gs ++ [nf]) ++ [nfo], f.ins.length ≤ 32) := fun f hf => by
                    rcases List.mem_append.1 hf with h | h
                    · rcases List.mem_append.1 h with h | h
                      · exact HGI.out f h
                      · rw [List.mem_singleton] at h; rw [h]; show (2 : Nat) ≤ 32; decide
                    · rw [List.mem_singleton] at h; rw [h]; show (2 : Nat) ≤ 32; decide
                  have HN9 : Hid (((gs ++ [nf]) ++ [nfo]).length ≤ 100000002) := by have := HGL.out; show _ ≤ _; simp; omega
                  have HK9 : Hid ((ks.set 0 bOver).length ≤ 100000001) := by show _ ≤ _; rw [List.length_set]; exact hkm
                  have HW9 : Hid (6 * pageW t (ks.set 0 bOver) ((gs ++ [nf]) ++ [nfo]) + 6 ≤ 1000000020000) := by
                    have h1 := HHW.out
                    have h8 := HREP.out
                    rw [h8] at h1
                    unfold pageW at h1 ⊢
                    have h2 := linesW_set ks bOver
                    have h3 : bOver.size = 4 := rfl
                    have h4 : frmsW [nfo] = 305 := rfl
                    have h5 : frmsW [nf] = 302 := rfl
                    rw [frmsW_app _ [nf], h5] at h1
                    rw [frmsW_app _ [nfo], h4]
                    show _ ≤ _
                    omega
                  have HRQ := hide (range3 HQ9.out.box)
                  have HL9 := hide (liesS_of_own HQ9.out.lines)
                  have HF9 := hide HQ9.out.forms.lies
                  have HZ9 : Hid (∃ Z2 : ByteArray, ∀ X vL vF, LiesS X vL (ks.set 0 bOver) → LiesF X vF ((gs ++ [nf]) ++ [nfo]) → Below w.heap.size w X → Calls Tryd.prog 6 #[.agg #[.string t, vL, vF]] X fun e w' => e = .returned (.tuple #[.string Z2, .nilIface]) ∧ Below X.heap.size X w') := by
                    refine ⟨⟨(pageL t (ks.set 0 bOver) ((gs ++ [nf]) ++ [nfo])).toArray⟩, fun X vL vF h1 h2 h3 => ?_⟩
                    have h4 := page_any X t vL vF eA (ks.set 0 bOver) ((gs ++ [nf]) ++ [nfo]) h1 h2 (HET.out _ h3).1 (HET.out _ h3).2.2 (by have := HW9.out; omega) (by have := HK9.out; omega) (by have := HN9.out; omega) (fun f hf => Nat.le_trans (HI9.out f hf) (by decide))
                    have hcp : pageR eA t (ks.set 0 bOver) ((gs ++ [nf]) ++ [nfo]) = .tuple #[S (pageL t (ks.set 0 bOver) ((gs ++ [nf]) ++ [nfo])), .nilIface] := by unfold pageR; rw [if_pos HO9.out]
                    rw [hcp] at h4
                    exact h4
                  have HTD : Hid (∀ X vL vF, LiesS X vL (ks.set 0 bOver) → LiesF X vF ((gs ++ [nf]) ++ [nfo]) → Calls Tryd.prog 5 #[.agg #[.string t, vL, vF]] X fun e w' => ∃ vL' vF', e = .returned (.agg #[.string t, vL', vF']) ∧ LiesS w' vL' (ks.set 0 bOver) ∧ LiesF w' vF' ((gs ++ [nf]) ++ [nfo]) ∧ Below X.heap.size X w') := fun X vL vF h1 h2 => by
                    refine (tidy_own X t vL vF (ks.set 0 bOver) ((gs ++ [nf]) ++ [nfo]) h1 h2 (by have := HK9.out; omega) (by have := HN9.out; omega) (fun f hf => Nat.le_trans (HI9.out f hf) (by decide)) (ok_in HO9.out)).mono ?_
                    rintro e w' ⟨vL', vF', gs3, ss3, h3, h4, h5, h6, h7⟩
                    have h8 := h6.same (fun f hf => by rw [List.take_length] at hf; exact ⟨List.all_eq_true.1 HO9.out f hf, HI9.out f hf⟩)
                    rw [List.take_length] at h8
                    subst h8
                    exact ⟨vL', vF', h3, liesS_of_own h4, h5.lies, h7⟩
                  obtain ⟨Z2, hZ2⟩ := HZ9.out
                  have HP9 := hide (hZ2 _ _ _ HL9.out HF9.out HB9.out)
                  have HZZ := hide hZ2
                  clear hZ2 HZ9
                  go_wp2_with (refine wpList_load_mid rfl 25 _ rfl w1.heap.size 0 rfl _ _ HRQ.out Tryd.underlying25 rfl sizePg ?_)
                  generalize (X7.setCell ⟨gQ, 0, none⟩ (.string bOver)).setCell ⟨gz, 1, none⟩ (.string bOver) = X9 at *
                  refine HP9.out.mono ?_
                  rintro x Y1 ⟨rfl, b1⟩
                  have HBY := hide (HB9.out.trans (b1.mono HB9.out.size))
                  have HQY := hide (HQ9.out.below b1)
                  have HRY := hide (range3 HQY.out.box)
                  have HTY := hide (HTD.out Y1 _ _ (liesS_of_own HQY.out.lines) HQY.out.forms.lies)
                  clear HP9 HRQ HTD HL9 HF9 b1 c0 f0 c1 f1 q1 q2 d1 HQ8
                  go_wp2_with (refine wpList_load_mid rfl 25 _ rfl w1.heap.size 0 rfl _ _ HRY.out Tryd.underlying25 rfl sizePg ?_)
                  refine HTY.out.mono ?_
                  rintro x Y2 ⟨vL2, vF2, rfl, hL2, hF2, b2⟩
                  have HBZ := hide (HBY.out.trans (b2.mono HBY.out.size))
                  have HQZ := hide (HQY.out.below b2)
                  have HPZ := hide (HZZ.out Y2 vL2 vF2 hL2 hF2 HBZ.out)
                  clear HTY HRY hL2 hF2 b2
                  go_wp2_with fail
                  refine HPZ.out.mono ?_
                  rintro x Y3 ⟨rfl, b3⟩
                  have HBE := hide (HBZ.out.trans (b3.mono HBZ.out.size))
                  obtain ⟨_, q1, q2, _, _, _⟩ := three_cells (HQZ.out.below b3).box
                  have hn2 := HN2.out
                  have hs64 : (64 : Int) ≤ (s : Int) := by omega
                  have hw1 : IntKind.i64.wrap ((hs.length : Int) + 64) = ((hs.length + 64 : Nat) : Int) := by unfold IntKind.wrap; simp [IntKind.bits, IntKind.signed]; omega
                  have hw2 : IntKind.i64.wrap ((ks.length : Int) + 64) = ((ks.length + 64 : Nat) : Int) := by unfold IntKind.wrap; simp [IntKind.bits, IntKind.signed]; omega
                  clear HPZ b3 hn2
                  go_wp2
                  go_ret
                  exact ⟨rfl, HBE.out⟩
end Go.Proofs.YtjalggkhpnfbiaaDoor.pg
