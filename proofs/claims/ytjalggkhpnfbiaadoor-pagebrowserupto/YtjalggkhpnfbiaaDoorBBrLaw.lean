import Derived.Test.YtjalggkhpnfbiaaDoorBPageMath
import Derived.BigQuiet
import Derived.Test.YtjalggkhpnfbiaaDoorBTidyPg
import Derived.Test.YtjalggkhpnfbiaaDoorBPmQ
import Derived.Test.YtjalggkhpnfbiaaDoorBBrWalk
namespace Go.Proofs.YtjalggkhpnfbiaaDoor.rc
open Go.ChangeShapes Go.WideShapes Go.ChangeAt Go.RowKit Go.Proofs.YtjalggkhpnfbiaaDoor.common

/-- a region that draws its order, whose operations and callees keep to a class of worlds (those that f gives) -/
theorem wp_region_cls {P : Program} {id : Nat} {Q : Exit → Act → World → Prop} {a : Act} {w : World} {l : List Oper} (f : World → World) (hm : P.follows .mixedOrders = true) (hB : Region.lexB .any l.toArray = true) (w0 : World) (h0 : w.drew = f w0)
    (h : wpQuiet P l.toArray (fun w' => ∃ n, w' = f n) (fun a' => ∀ w', (∃ n, w' = f n) → Q .normal a' w') l a) : (Code.region id l.toArray true).wp P Q a w :=
  wp_region_quiet (C := fun w' => ∃ n, w' = f n) hm hB ⟨w0, h0⟩ (by simpa using h)
/-- the worlds above a base, as a function's values -/
theorem class_of (W : World) : ∃ f : World → World, (∀ X, Below W.heap.size W (f X)) ∧ (∀ X, Below W.heap.size W X → f X = X) := by
  classical
  refine ⟨fun X => if Below W.heap.size W X then X else W, fun X => ?_, fun X h => if_pos h⟩
  show Below W.heap.size W (if Below W.heap.size W X then X else W)
  by_cases h : Below W.heap.size W X
  · rw [if_pos h]; exact h
  · rw [if_neg h]; exact Below.refl _ _
end Go.Proofs.YtjalggkhpnfbiaaDoor.rc

namespace Go.Proofs.YtjalggkhpnfbiaaDoor.br
open Go.ChangeShapes Go.WideShapes Go.ChangeAt Go.RowKit Go.Proofs.YtjalggkhpnfbiaaDoor.common Go.Maps
open Go.Proofs.YtjalggkhpnfbiaaDoor.lst (PB cl Lies getOf)
open Go.Proofs.YtjalggkhpnfbiaaDoor.pg
attribute [local go_sem ↓] Go.wp_at_zero Go.wp_at_succ

/-- the form that the law puts behind -/
abbrev iT (t : ByteArray) : Inp := ⟨1, bN, t, e0B⟩
abbrev bf (t : ByteArray) : Frm := ⟨e0B, [iT t], e0B⟩
theorem okF_bf (t : ByteArray) : okF (bf t) = true := by unfold okF; simp [mayB, emp, ByteArray.toList_eq]
theorem bf_w (t : ByteArray) : frmsW [bf t] = t.size + 201 := by
  show e0B.size + ((bN.size + t.size + e0B.size) + 100 + 0) + e0B.size + 100 + 0 = _
  have h0 : e0B.size = 0 := rfl
  have h1 : bN.size = 1 := rfl
  omega
theorem lit_one (w : World) (base : Nat) (hb : base ≤ w.heap.size) (x : Inp) : (w.alloc (.cells #[.int .i64 x.kind, .string x.name, .string x.value, .string x.label] 28)).ownsRow base 28 4 (.slice (some ⟨w.heap.size, 0, none⟩) 1 1) 1 (ic [x]) :=
  ⟨rfl, Or.inr ⟨_, 1, _, rfl, hb, by show (w.heap.push _)[w.heap.size]? = _; simp; rfl, Nat.le_refl _, by decide, rfl, rfl⟩⟩
theorem in_ins : ∀ (xs : List Inp) (x : Inp), x ∈ xs → x.name.size + x.value.size ≤ insW xs
  | [], _, h => by cases h
  | y :: r, x, h => by
    show _ ≤ (y.name.size + y.value.size + y.label.size) + 100 + insW r
    rcases List.mem_cons.1 h with e | e
    · subst e; omega
    · have := in_ins r x e; omega
theorem in_frms : ∀ (fs : List Frm) (f : Frm), f ∈ fs → insW f.ins ≤ frmsW fs
  | [], _, h => by cases h
  | g :: r, f, h => by
    show _ ≤ (g.act.size + insW g.ins + g.but.size + 100) + frmsW r
    rcases List.mem_cons.1 h with e | e
    · subst e; omega
    · have := in_frms r f e; omega
theorem fitsI_ok {xs : List Inp} (h : xs.all mayB = true) (hs : ∀ x ∈ xs, x.name.size + x.value.size ≤ 4294967296) : sent.FitsI (xs.map si) := fun x hx => by
  obtain ⟨y, hy, rfl⟩ := List.mem_map.1 hx
  have h1 := mayB_kind (List.all_eq_true.1 h y hy)
  have h2 := hs y hy
  show -9223372036854775808 ≤ y.kind ∧ y.kind ≤ 9223372036854775807 ∧ y.name.size ≤ maxLen ∧ y.value.size ≤ maxLen
  unfold maxLen
  omega
theorem box5 {w : World} {b : Nat} {a0 a1 a2 a3 a4 : Value} {t : TypeId} (h : w.heap[b]? = some (.cells #[a0, a1, a2, a3, a4] t)) : w.rangeAt b 0 [a0, a1, a2] ∧ w.cell? ⟨b, 0, none⟩ = some a0 ∧ w.cell? ⟨b, 3, none⟩ = some a3 ∧ w.cell? ⟨b, 4, none⟩ = some a4 := by
  refine ⟨fun j u hu => ?_, by simp [World.cell?, h], by simp [World.cell?, h], by simp [World.cell?, h]⟩
  rw [Nat.zero_add]
  simp only [World.cell?, h]
  match j, hu with
  | 0, hu => simpa using hu
  | 1, hu => simpa using hu
  | 2, hu => simpa using hu

set_option maxRecDepth 100000 in
set_option maxHeartbeats 12800000 in
theorem lawBr (w : World) (t : ByteArray) (vL vF vT : Value) (N : Int) (ls : List ByteArray) (fs : List Frm) (l : List PB) (hL : LiesS w vL ls) (hF : LiesF w vF fs) (hTy : Lies w vT l) (ht : Esc w) (eA : Value) (hE : w.cell? ⟨0, 0, none⟩ = some eA) (ea em : Addr) (hT : pg.Txt w ea) (hEB : EnvB w ea em) (hl : 6 * (t.size + t.size + linesW ls + 2 * frmsW fs + 300) + 6 ≤ 10000000000) (hls : ls.length ≤ 100000000) (hfs : fs.length ≤ 100000000) (hfi : ∀ f ∈ fs, f.ins.length ≤ 1000000000) (hfk : ∀ f ∈ fs, ∀ x ∈ f.ins, inK x) (hf : sent.Fits l) (hl2 : l.length * 32 ≤ 140737488355328) (hM1 : ∀ k, (l.getD k (⟨#[]⟩, ⟨#[]⟩)).2.size ≤ 4294967296) :
    Calls Tryd.prog 4 #[.agg #[.string t, vL, vF, .int .i64 N, vT]] w fun e w' => e = .returned (.bool true) ∧ Below w.heap.size w w' := by
  have HLw := hide hL
  have HFw := hide hF
  have HTw := hide hTy
  have HFK := hide hfk
  have HFI := hide hfi
  have HHL0 := hide hl
  have HFT := hide hf
  have HM1 := hide hM1
  have HL2 := hide hl2
  have HEB := hide hEB
  clear hfk hfi hl hf hM1 hl2 hEB
  obtain ⟨ol, cL0, rfl, _⟩ := hL
  obtain ⟨of, cF0, rfl, _⟩ := hF
  obtain ⟨ot, cT0, rfl, _⟩ := hTy
  obtain ⟨j0, hjn, hy0, hy1, hy2⟩ := info_parts infoF
  have BA : Below w.heap.size w (w.alloc (.cells #[.string t, .slice ol ls.length cL0, .slice of fs.length cF0, .int .i64 N, .slice ot l.length cT0] 45)) := (Below.refl _ _).alloc (Nat.le_refl _) _
  have HBA := hide BA
  have HXB := hide (at_new w (.cells #[.string t, .slice ol ls.length cL0, .slice of fs.length cF0, .int .i64 N, .slice ot l.length cT0] 45))
  have HRX := hide (box5 HXB.out).1
  have HET : Hid (∀ X, Below w.heap.size w X → Esc X ∧ pg.Txt X ea ∧ X.cell? ⟨0, 0, none⟩ = some eA) := fun X hb => ⟨ht.next hb, hT.under hb hT.lt, (hb.cell (p := ⟨0, 0, none⟩) (World.block_lt_of_cell? w _ hE)).trans hE⟩
  clear BA ht hE hT
  go_enter Tryd.func4, Tryd.ntmps4
  go_wp2_with (refine wpList_load_mid rfl 25 _ rfl w.heap.size 0 rfl _ _ HRX.out Tryd.underlying25 rfl sizePg ?_)
  generalize w.alloc (.cells #[.string t, .slice ol ls.length cL0, .slice of fs.length cF0, .int .i64 N, .slice ot l.length cT0] 45) = W at *
  refine (tidy_own W t _ _ ls fs (HLw.out.below HBA.out) (HFw.out.below HBA.out) (by omega) (by omega) HFI.out HFK.out).mono ?_
  rintro x w1 ⟨vL', vF', gs, ss, rfl, hL1, hF1, hT1, b1⟩
  have HB1 := hide (HBA.out.trans (b1.mono HBA.out.size))
  have hgl : gs.length = fs.length := hT1.len
  have hgw : frmsW gs ≤ 2 * frmsW fs := by have := hT1.wt; rwa [List.take_length] at this
  have HGO := hide (List.all_eq_true.2 hT1.ok)
  have HGI := hide hT1.short
  have HGL : Hid (gs.length ≤ 100000000) := by show _ ≤ _; omega
  have HHL : Hid (6 * pageW t ls gs + 6 ≤ 10000000000) := by have := HHL0.out; show 6 * (t.size + t.size + linesW ls + frmsW gs + 300) + 6 ≤ _; omega
  have HWs := hide b1.size
  obtain ⟨base, hbase⟩ : ∃ base, base = W.heap.size := ⟨_, rfl⟩
  rw [← hbase] at hL1 hF1 HWs
  have BQ : Below w1.heap.size w1 (w1.alloc (.cells #[.string t, vL', vF'] 25)) := (Below.refl _ _).alloc (Nat.le_refl _) _
  have HQ0 : Hid (Qp base w1.heap.size t ls gs vL' vF' ss (w1.alloc (.cells #[.string t, vL', vF'] 25))) := ⟨at_new _ _, own_below hL1 BQ, hF1.below BQ⟩
  have HB2 := hide (HB1.out.trans (BQ.mono HB1.out.size))
  have HZ0 : Hid (base ≤ (w1.alloc (.cells #[.string t, vL', vF'] 25)).heap.size) := by have := HWs.out; have := BQ.size; show _ ≤ _; omega
  have HWB : Hid (w.heap.size ≤ base) := by show _ ≤ _; rw [hbase]; exact HBA.out.size
  have HBQ : Hid (w.heap.size ≤ w1.heap.size) := HB1.out.size
  have HXW : Hid (w.heap.size < base) := by show _ < _; rw [hbase]; exact (Array.getElem?_eq_some_iff.1 HXB.out).1
  have hX1 := ((BQ.mono b1.size).block _ (Array.getElem?_eq_some_iff.1 HXB.out).1).trans ((b1.block _ (Array.getElem?_eq_some_iff.1 HXB.out).1).trans HXB.out)
  have HX1 := hide hX1
  obtain ⟨_, x0, _, _⟩ := box5 hX1
  obtain ⟨o1, c1, rfl⟩ := form_w hL1
  obtain ⟨o2, c2, rfl⟩ := form_w hF1.row
  clear hL1 hF1 hT1 b1 BQ hgl hgw hbase hX1
  have HLR := hide (lit_one (w1.alloc (.cells #[.string t, .slice o1 ls.length c1, .slice o2 gs.length c2] 25)) base HZ0.out (iT t))
  rw [World.size_alloc] at HLR
  have HROW := hide (own_below (own_below HQ0.out.forms.row ((Below.refl _ _).alloc (Nat.le_refl _) (.cells #[.int .i64 1, .string bN, .string t, .string e0B] 28))) ((Below.refl _ _).alloc (Nat.le_refl _) (.cells #[.string e0B, .slice (some ⟨w1.heap.size + 1, 0, none⟩) 1 1, .string e0B] 31)))
  have HNEW := hide (cells_new ((w1.alloc (.cells #[.string t, .slice o1 ls.length c1, .slice o2 gs.length c2] 25)).alloc (.cells #[.int .i64 1, .string bN, .string t, .string e0B] 28)) [.string e0B, .slice (some ⟨w1.heap.size + 1, 0, none⟩) 1 1, .string e0B] 31)
  rw [World.size_alloc, World.size_alloc] at HNEW
  have hgl := HGL.out
  go_wp2_with (at_builtin; refine wpList_append_own _ rfl _ _ 23 rfl base 31 j0 (.agg #[.string ⟨#[]⟩, .slice none 0 0, .string ⟨#[]⟩]) 3 56 Tryd.underlying23 hjn hy0 hy1 hy2 rfl (by decide) _ _ _ rfl HROW.out ⟨w1.heap.size + 1 + 1, 0, none⟩ 1 1 [.string e0B, .slice (some ⟨w1.heap.size + 1, 0, none⟩) 1 1, .string e0B] rfl rfl HNEW.out ?d2 ?d3 ?d4 ?d5 ?_)
  try case d2 => first | rfl | exact ⟨rfl, rfl, rfl⟩ | (intro u hu; simp at hu; rcases hu with rfl | rfl | rfl <;> rfl)
  try case d3 => unfold maxLen; omega
  try case d4 => omega
  try case d5 => have := HZ0.out; simp at this ⊢; omega
  intro v3 w3 own3 hg3 _
  obtain ⟨o3, c3, rfl⟩ := form_w own3
  have HQ3 := hide (HQ0.out.addF (f := bf t) HLR.out hg3 own3)
  have HB3 : Hid (Below w.heap.size w (w3.setCell ⟨w1.heap.size, 2, none⟩ (.slice o3 (gs.length + 1) c3))) := by
    refine Below.setCell (p := ⟨w1.heap.size, 2, none⟩) ?_ HBQ.out _
    exact (((HB2.out.alloc HB2.out.size _).alloc (by have := HB2.out.size; simp at this ⊢; omega) _).grown hg3 (by have := HB2.out.size; simp at this ⊢; omega) (fun k hk => by have := own_ge HQ0.out.forms.row k hk; have := HWB.out; omega))
  obtain ⟨_, _, q3, _, _, z3⟩ := three_cells (HQ0.out.boxF hg3)
  have hX3 : (w3.setCell ⟨w1.heap.size, 2, none⟩ (.slice o3 (gs.length + 1) c3)).heap[w.heap.size]? = some (.cells #[.string t, .slice ol ls.length cL0, .slice of fs.length cF0, .int .i64 N, .slice ot l.length cT0] 45) := by
    have h1 := (((Below.refl _ _).alloc (Nat.le_refl _) (.cells #[.int .i64 1, .string bN, .string t, .string e0B] 28)).block _ (Array.getElem?_eq_some_iff.1 HX1.out).1).trans HX1.out
    have h2 := (((Below.refl _ _).alloc (Nat.le_refl _) (.cells #[.string e0B, .slice (some ⟨w1.heap.size + 1, 0, none⟩) 1 1, .string e0B] 31)).block _ (Array.getElem?_eq_some_iff.1 h1).1).trans h1
    have h3 := (hg3.block _ (Array.getElem?_eq_some_iff.1 h2).1 (fun e => by have h9 := own_ge HQ0.out.forms.row w.heap.size e.symm; have := HXW.out; omega)).trans h2
    exact (Below.heap_setCell _ _ _ _ (by show w.heap.size ≠ w1.heap.size; have := HXW.out; have := HWs.out; omega)).trans h3
  have HX3 := hide hX3
  have HHO : Hid ((gs ++ [bf t]).all okF = true) := by show _ = _; rw [List.all_append, HGO.out]; simp [okF_bf]
  have HHI : Hid (∀ f ∈ gs ++ [bf t], f.ins.length ≤ 32) := fun f hf => by
    rcases List.mem_append.1 hf with h | h
    · exact HGI.out f h
    · rw [List.mem_singleton] at h; rw [h]; show (1 : Nat) ≤ 32; decide
  have HHN : Hid ((gs ++ [bf t]).length ≤ 100000001 ∧ 1 ≤ (gs ++ [bf t]).length) := by show _ ∧ _; simp; omega
  have HHW : Hid (6 * pageW t ls (gs ++ [bf t]) + 6 ≤ 20000000000) := by
    have h1 := HHL.out
    unfold pageW at h1 ⊢
    have h3 := bf_w t
    rw [frmsW_app, h3]
    show _ ≤ _
    omega
  have HLN : Hid (gs.length + 1 = (gs ++ [bf t]).length) := by show _ = _; simp
  have HRQ := hide (range3 HQ3.out.box)
  clear own3 hg3 HROW HNEW HQ0 HB2 HZ0 HLR HX1 hX3 x0 hgl
  go_wp2_with (refine wpList_load_mid rfl 25 _ rfl w1.heap.size 0 rfl _ _ HRQ.out Tryd.underlying25 rfl sizePg ?_)
  rw [HLN.out]
  rw [HLN.out] at HQ3 HB3 HX3
  clear q3 z3 HLN HRQ
  generalize gs ++ [bf t] = hs at *
  generalize w3.setCell ⟨w1.heap.size, 2, none⟩ (.slice o3 hs.length c3) = P0 at *
  obtain ⟨hn1, hn2⟩ := HHN.out
  have HN2 := hide hn2
  have HHI2 : Hid (∀ f ∈ hs, f.ins.length ≤ 4611686018427387904) := fun f hf => Nat.le_trans (HHI.out f hf) (by decide)
  have HPG := hide (page_any P0 t _ _ eA ls hs (liesS_of_own HQ3.out.lines) HQ3.out.forms.lies (HET.out _ HB3.out).1 (HET.out _ HB3.out).2.2 (by have := HHW.out; omega) (by omega) (by omega) HHI2.out)
  have hcp : pageR eA t ls hs = .tuple #[S (pageL t ls hs), .nilIface] := by unfold pageR; rw [if_pos HHO.out]
  rw [hcp] at HPG
  obtain ⟨Z, hZ⟩ : ∃ Z : ByteArray, (⟨(pageL t ls hs).toArray⟩ : ByteArray) = Z := ⟨_, rfl⟩
  have HZl : Hid (Z.data.toList = pageL t ls hs) := by show _ = _; rw [← hZ]
  have HZs : Hid (Z.size ≤ 1099511627776) := by have h1 := pageL_most' t ls hs; have h2 := HHW.out; show _ ≤ _; rw [← hZ, size_mk]; omega
  rw [show S (pageL t ls hs) = Value.string Z from congrArg Value.string hZ] at HPG
  have HZR : Hid (pageRd Z.data.toList = some (t, ls, hs)) := by show _ = _; rw [HZl.out]; exact pageRd_app t ls hs HHO.out
  clear hcp hZ hn2
  refine HPG.out.mono ?_
  rintro x P1 ⟨rfl, b2⟩
  have HBP := hide (HB3.out.trans (b2.mono HB3.out.size))
  have HQ4 := hide (HQ3.out.below b2)
  have HX4 := hide ((b2.block _ (Array.getElem?_eq_some_iff.1 HX3.out).1).trans HX3.out)
  have HRA := hide (read_some Z P1 HZs.out ea (HET.out _ HBP.out).1 (HET.out _ HBP.out).2.1 HZR.out)
  clear b2 HPG HB3 HQ3 HX3
  go_wp2_with fail
  refine HRA.out.mono ?_
  rintro x P2 ⟨oa, ca, ob, cb, sa, rfl, hLa, hFa, hAa, b3⟩
  have BV : Below P2.heap.size P2 (P2.alloc (.cells #[.string t, .slice oa ls.length ca, .slice ob hs.length cb] 25)) := (Below.refl _ _).alloc (Nat.le_refl _) _
  have HV2 : Hid (Below P1.heap.size P1 (P2.alloc (.cells #[.string t, .slice oa ls.length ca, .slice ob hs.length cb] 25))) := b3.trans (BV.mono b3.size)
  have HVA := hide (at_new P2 (.cells #[.string t, .slice oa ls.length ca, .slice ob hs.length cb] 25))
  have HFA := hide (hFa.lies.below BV)
  have HBV2 := hide (HBP.out.trans (HV2.out.mono HBP.out.size))
  have HQ5 := hide (HQ4.out.below HV2.out)
  have HX5 := hide ((HV2.out.block _ (Array.getElem?_eq_some_iff.1 HX4.out).1).trans HX4.out)
  have HFQ := hide HQ5.out.forms.lies
  obtain ⟨_, _, a2, _, _, _⟩ := three_cells HVA.out
  obtain ⟨_, _, q2, _, _, _⟩ := three_cells HQ5.out.box
  obtain ⟨_, _, x3, x4⟩ := box5 HX5.out
  have HPK := hide (fun W => kitw.pick_all N (hs.length : Int) W (by omega) (by omega))
  obtain ⟨hp0, hp1⟩ := kitw.pick_bounds N (hs.length : Int)
  have hp1 := hp1 (by have := HN2.out; omega)
  obtain ⟨kk, hkk⟩ : ∃ kk : Nat, kitw.pick N (hs.length : Int) = (kk : Int) := ⟨(kitw.pick N (hs.length : Int)).toNat, by omega⟩
  rw [hkk] at HPK hp1
  have hkl : kk < hs.length := by omega
  have k0 : (0 : Int) ≤ (kk : Int) := Int.natCast_nonneg _
  clear hLa hFa hAa b3 BV HRA HQ4 HX4 hp0 hkk
  go_wp2_with fail
  generalize P2.alloc (.cells #[.string t, .slice oa ls.length ca, .slice ob hs.length cb] 25) = V2 at *
  refine (HPK.out _).mono ?_
  rintro x w9 ⟨rfl, h9⟩
  obtain rfl := h9.symm
  obtain ⟨_, _, hqe, hcc⟩ := HFQ.out
  cases hqe
  obtain ⟨b, o, vI, rfl, hb, c0, c1, c2, hI⟩ := hcc kk hkl
  obtain ⟨_, _, hqe, hcc2⟩ := HFA.out
  cases hqe
  obtain ⟨b2, o2, vJ, rfl, hb2, d0, d1, d2, hJ⟩ := hcc2 kk hkl
  have hmem : hs[kk] ∈ hs := List.getElem_mem hkl
  have hok : hs[kk].ins.all mayB = true := List.all_eq_true.1 HHO.out _ hmem
  have h32 := HHI.out _ hmem
  have hsz : ∀ x ∈ hs[kk].ins, x.name.size + x.value.size ≤ 4294967296 := fun x hx => by
    have h1 := in_ins _ _ hx
    have h2 := in_frms hs _ hmem
    have h3 := HHW.out
    unfold pageW at h3
    omega
  have hfit := fitsI_ok hok hsz
  obtain ⟨f, hf, hg9⟩ := rc.class_of V2
  have HTD : Hid (∀ n, Calls Tryd.prog 13 #[.agg #[.string hs[kk].act, vI, .string hs[kk].but], .agg #[.string hs[kk].act, vJ, .string hs[kk].but], .slice ot l.length cT0] (f n) fun e w' => e = .returned (.bool true) ∧ ∃ m, w' = f m) := fun n => by
    have hb9 : Below w.heap.size w (f n) := HBV2.out.trans ((hf n).mono HBV2.out.size)
    refine (told_any vI vJ _ _ _ _ _ hs[kk].ins l 4294967296 ea em (f n) (hI.below (hf n)) (hJ.below (hf n)) (HTw.out.below hb9) (HEB.out.below hb9) hok h32 HFT.out hfit HL2.out (Nat.le_refl _) HM1.out hsz).mono ?_
    rintro e w' ⟨h1, h2⟩
    exact ⟨h1, w', (hg9 _ ((hf n).trans (h2.mono (hf n).size))).symm⟩
  obtain ⟨oi, ci, rfl, hIc⟩ := hI
  obtain ⟨oj, cj, rfl, hJc⟩ := hJ
  clear hIc hJc
  generalize hs[kk].act = fa at *
  generalize hs[kk].but = fb at *
  generalize hs[kk].ins.length = ni at *
  have e00 : ∀ n, (f n).cell? ⟨w1.heap.size, 2, none⟩ = some (.slice (some ⟨b, o, none⟩) hs.length c3) := fun n => ((hf n).cell (p := ⟨w1.heap.size, 2, none⟩) (World.block_lt_of_cell? _ _ q2)).trans q2
  have e01 : ∀ n, (f n).cell? ⟨b, o + kk * 3, none⟩ = some (.string fa) := fun n => ((hf n).cell (p := ⟨b, o + kk * 3, none⟩) hb).trans c0
  have e02 : ∀ n, (f n).cell? ⟨b, o + kk * 3 + 1, none⟩ = some (.slice oi ni ci) := fun n => ((hf n).cell (p := ⟨b, o + kk * 3 + 1, none⟩) hb).trans c1
  have e03 : ∀ n, (f n).cell? ⟨b, o + kk * 3 + 2, none⟩ = some (.string fb) := fun n => ((hf n).cell (p := ⟨b, o + kk * 3 + 2, none⟩) hb).trans c2
  have e10 : ∀ n, (f n).cell? ⟨P2.heap.size, 2, none⟩ = some (.slice (some ⟨b2, o2, none⟩) hs.length cb) := fun n => ((hf n).cell (p := ⟨P2.heap.size, 2, none⟩) (World.block_lt_of_cell? _ _ a2)).trans a2
  have e11 : ∀ n, (f n).cell? ⟨b2, o2 + kk * 3, none⟩ = some (.string fa) := fun n => ((hf n).cell (p := ⟨b2, o2 + kk * 3, none⟩) hb2).trans d0
  have e12 : ∀ n, (f n).cell? ⟨b2, o2 + kk * 3 + 1, none⟩ = some (.slice oj ni cj) := fun n => ((hf n).cell (p := ⟨b2, o2 + kk * 3 + 1, none⟩) hb2).trans d1
  have e13 : ∀ n, (f n).cell? ⟨b2, o2 + kk * 3 + 2, none⟩ = some (.string fb) := fun n => ((hf n).cell (p := ⟨b2, o2 + kk * 3 + 2, none⟩) hb2).trans d2
  have e20 : ∀ n, (f n).cell? ⟨w.heap.size, 4, none⟩ = some (.slice ot l.length cT0) := fun n => ((hf n).cell (p := ⟨w.heap.size, 4, none⟩) (World.block_lt_of_cell? _ _ x4)).trans x4
  have HD : Hid (V2.drew = f V2.drew) := (hg9 _ (Below.refl _ _).drew).symm
  have HFB := hide hf
  haveI : Nonempty World := ⟨w⟩
  clear h9 hcc hcc2 c0 c1 c2 d0 d1 d2 hb hb2 hmem hok h32 hsz hfit hf hg9 q2 a2 x3 x4 HPK HRX
  go_wp2_with fail
  refine rc.wp_region_cls f (by kernel_rfl) (by kernel_rfl) _ HD.out ?_
  repeat (go_big_quiet_step (with_reducible exact HTD.out _))
  refine wpQuiet_nil ?_
  rintro _ ⟨nq, rfl⟩
  go_wp2_with fail
  go_ret
  exact ⟨rfl, HBV2.out.trans ((HFB.out nq).mono HBV2.out.size)⟩
end Go.Proofs.YtjalggkhpnfbiaaDoor.br
