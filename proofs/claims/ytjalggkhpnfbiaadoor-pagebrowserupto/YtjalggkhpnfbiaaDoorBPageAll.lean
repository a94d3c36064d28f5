import Derived.Test.YtjalggkhpnfbiaaDoorBPagePg
namespace Go.Proofs.YtjalggkhpnfbiaaDoor.pg
open Go.ChangeShapes Go.WideShapes Go.ChangeAt Go.RowKit Go.Proofs.YtjalggkhpnfbiaaDoor.common Go.Maps
attribute [local go_sem ↓] Go.wp_at_zero Go.wp_at_succ

def okF (f : Frm) : Bool := f.ins.all mayB
theorem mayB_kind {x : Inp} (h : mayB x = true) : 1 ≤ x.kind ∧ x.kind ≤ 4 := by
  unfold mayB at h
  rw [Bool.and_eq_true] at h
  have h2 := h.2
  by_cases e1 : x.kind = 1
  · omega
  rw [if_neg e1] at h2
  by_cases e2 : x.kind = 2
  · omega
  rw [if_neg e2] at h2
  by_cases e3 : x.kind = 3
  · omega
  rw [if_neg e3] at h2
  by_cases e4 : x.kind = 4
  · omega
  rw [if_neg e4] at h2
  cases h2
theorem all_snoc {α : Type} (p : α → Bool) (l : List α) (k : Nat) (h : k < l.length) : (l.take (k + 1)).all p = ((l.take k).all p && p l[k]) := by
  rw [List.take_succ_eq_append_getElem h, List.all_append]
  simp
theorem all_head {α : Type} (p : α → Bool) (l : List α) (k : Nat) (h : (l.take k).all p = false) : l.all p = false := by
  have e : l.all p = ((l.take k).all p && (l.drop k).all p) := by rw [← List.all_append, List.take_append_drop]
  rw [e, h]; rfl
theorem heap_three (w : World) (o p q : Obj) : (((w.alloc o).alloc p).alloc q).heap[w.heap.size]? = some o ∧ (((w.alloc o).alloc p).alloc q).heap[w.heap.size + 1]? = some p ∧ (((w.alloc o).alloc p).alloc q).heap[w.heap.size + 2]? = some q := by
  have h1 : (((w.alloc o).alloc p).alloc q).heap = ((w.heap.push o).push p).push q := rfl
  rw [h1]
  refine ⟨?_, ?_, ?_⟩
  · rw [Array.getElem?_push, if_neg (by simp; omega), Array.getElem?_push, if_neg (by simp), Array.getElem?_push, if_pos rfl]
  · rw [Array.getElem?_push, if_neg (by simp), Array.getElem?_push, if_pos (by simp)]
  · rw [Array.getElem?_push, if_pos (by simp)]

/-- what Page answers -/
def pageR (eA : Value) (t : ByteArray) (ls : List ByteArray) (fs : List Frm) : Value := if fs.all okF = true then .tuple #[S (pageL t ls fs), .nilIface] else .tuple #[S [], eA]

set_option maxRecDepth 100000 in
set_option maxHeartbeats 3200000 in
theorem page_any (w : World) (t : ByteArray) (vL vF eA : Value) (ls : List ByteArray) (fs : List Frm) (hL : LiesS w vL ls) (hF : LiesF w vF fs) (ht : Esc w) (hE : w.cell? ⟨0, 0, none⟩ = some eA) (hl : 6 * pageW t ls fs + 6 ≤ 140737488355328) (hls : ls.length ≤ 4611686018427387904) (hfs : fs.length ≤ 4611686018427387904) (hfi : ∀ f ∈ fs, f.ins.length ≤ 4611686018427387904) :
    Calls Tryd.prog 6 #[.agg #[.string t, vL, vF]] w fun e w' => e = .returned (pageR eA t ls fs) ∧ Below w.heap.size w w' := by
  have HL := hide hL
  have HFF := hide hF
  obtain ⟨ol, cl, rfl, _⟩ := hL
  obtain ⟨of, cf, rfl, hFc⟩ := hF
  obtain ⟨hP, hK, hW⟩ := heap_three w (.cells #[.string t, .slice ol ls.length cl, .slice of fs.length cf] 25) (.cells kindsA 79) (.cells #[.pointer none, .slice none 0 0, .slice (some ⟨w.heap.size + 1, 0, none⟩) 5 5] 56)
  have B1 : Below w.heap.size w (((w.alloc (.cells #[.string t, .slice ol ls.length cl, .slice of fs.length cf] 25)).alloc (.cells kindsA 79)).alloc (.cells #[.pointer none, .slice none 0 0, .slice (some ⟨w.heap.size + 1, 0, none⟩) 5 5] 56)) := (((Below.refl _ _).alloc (Nat.le_refl _) _).alloc (by simp) _).alloc (by simp; omega) _
  have HBd : Hid (Bd (((w.alloc (.cells #[.string t, .slice ol ls.length cl, .slice of fs.length cf] 25)).alloc (.cells kindsA 79)).alloc (.cells #[.pointer none, .slice none 0 0, .slice (some ⟨w.heap.size + 1, 0, none⟩) 5 5] 56)) (w.heap.size + 1 + 1) 56 [.slice (some ⟨w.heap.size + 1, 0, none⟩) 5 5] []) :=
    ⟨kind_w _, .pointer none, .slice none 0 0, Or.inl rfl, hW, World.ownsRow_nil _ _ _ _, by simp [Value.ownBlock], fun _ => rfl⟩
  have HP := hide hP
  have HK := hide hK
  have HB1 := hide B1
  have HT := hide (ht.next B1)
  have hEl := World.block_lt_of_cell? _ _ hE
  have HE := hide ((B1.cell (p := ⟨0, 0, none⟩) hEl).trans hE)
  have hGl := ht.lt
  have HI := hide (inputKinds_any (w.alloc (.cells #[.string t, .slice ol ls.length cl, .slice of fs.length cf] 25)))
  have HFC := hide hFc
  clear hW hP hK B1 ht hFc hE
  go_enter Tryd.func6, Tryd.ntmps6
  go_wp2_with (go_at_call 14; refine HI.out.mono ?_; rintro e w1 ⟨rfl, rfl⟩)
  generalize (((w.alloc (.cells #[.string t, .slice ol ls.length cl, .slice of fs.length cf] 25)).alloc (.cells kindsA 79)).alloc (.cells #[.pointer none, .slice none 0 0, .slice (some ⟨w.heap.size + 1, 0, none⟩) 5 5] 56)) = W at *
  have hPl := (Array.getElem?_eq_some_iff.1 HP.out).1
  have hKl := (Array.getElem?_eq_some_iff.1 HK.out).1
  have hEW := World.block_lt_of_cell? _ _ HE.out
  have hwW := HB1.out.size
  clear HI
  go_loopw [14] (fun i wr => ∃ k : Nat, k ≤ fs.length ∧ i = .int .i64 k ∧ (fs.take k).all okF = true ∧ Below W.heap.size W wr) (fun i _ => fs.length - (intOf i).toNat)
  case atStart => exact ⟨0, by omega, rfl, by simp, Below.refl _ _⟩
  case round =>
    obtain ⟨k, hk, rfl, hok, hbw⟩ := hrel
    have HOK := hide hok
    have HBW := hide hbw
    clear hok hbw
    have hbr : Below w.heap.size w wr := HB1.out.trans (HBW.out.mono hwW)
    have HBR := hide hbr
    by_cases hlt : k < fs.length
    · have hki : (k : Int) < (fs.length : Int) := by omega
      have k0 : (0 : Int) ≤ (k : Int) := Int.natCast_nonneg _
      have HS := hide (all_snoc okF fs k hlt)
      have hil := hfi fs[k] (List.getElem_mem hlt)
      have hfc := HFC.out k hlt
      obtain ⟨X, hXe⟩ : ∃ X, fs[k] = X := ⟨_, rfl⟩
      rw [hXe] at HS hil hfc
      clear hXe
      obtain ⟨fa, fi, fb⟩ := X
      obtain ⟨bl, o, vI, ho, hbl, c0, c1, c2, hI0⟩ := hfc
      cases ho
      have d0 := (hbr.cell (p := ⟨bl, o + k * 3, none⟩) hbl).trans c0
      have d1 := (hbr.cell (p := ⟨bl, o + k * 3 + 1, none⟩) hbl).trans c1
      have d2 := (hbr.cell (p := ⟨bl, o + k * 3 + 2, none⟩) hbl).trans c2
      have HI0 := hide hI0
      obtain ⟨oI, cI, rfl, hIc⟩ := hI0
      have HIC := hide hIc
      clear c0 c1 c2 hbr hIc
      simp only at d0 d1 d2 hil
      have HB2 : Hid (Below W.heap.size W (wr.alloc (.cells #[.string fa, .slice oI fi.length cI, .string fb] 31))) := HBW.out.alloc HBW.out.size _
      go_wp2_with fail
      generalize wr.alloc (.cells #[.string fa, .slice oI fi.length cI, .string fb] 31) = V at *
      clear d0 d1 d2
      go_loopw [21] (fun i wx => ∃ j : Nat, j ≤ fi.length ∧ i = .int .i64 j ∧ (fi.take j).all mayB = true ∧ Below W.heap.size W wx) (fun i _ => fi.length - (intOf i).toNat)
      case atStart => exact ⟨0, by omega, rfl, by simp, HB2.out⟩
      case round =>
        obtain ⟨j, hj, rfl, hoj, hbx⟩ := hrel
        have HOJ := hide hoj
        have HBX := hide hbx
        clear hoj hbx HB2
        have hbr : Below w.heap.size w wr := HB1.out.trans (HBX.out.mono hwW)
        by_cases hlj : j < fi.length
        · have hji : (j : Int) < (fi.length : Int) := by omega
          have j0 : (0 : Int) ≤ (j : Int) := Int.natCast_nonneg _
          have HSJ := hide (all_snoc mayB fi j hlj)
          obtain ⟨b2, o2, ho, hb2, c0, c1, c2, c3⟩ := HIC.out j hlj
          cases ho
          have d0 := (hbr.cell (p := ⟨b2, o2 + j * 4, none⟩) hb2).trans c0
          have d1 := (hbr.cell (p := ⟨b2, o2 + j * 4 + 1, none⟩) hb2).trans c1
          have d2 := (hbr.cell (p := ⟨b2, o2 + j * 4 + 2, none⟩) hb2).trans c2
          have d3 := (hbr.cell (p := ⟨b2, o2 + j * 4 + 3, none⟩) hb2).trans c3
          clear c0 c1 c2 c3 hbr
          obtain ⟨Y, hYe⟩ : ∃ Y, fi[j] = Y := ⟨_, rfl⟩
          rw [hYe] at HSJ d0 d1 d2 d3
          clear hYe
          obtain ⟨kd, nm, vl, lb⟩ := Y
          simp only at d0 d1 d2 d3
          have HB3 : Hid (Below W.heap.size W (wr.alloc (.cells #[.int .i64 kd, .string nm, .string vl, .string lb] 28))) := HBX.out.alloc HBX.out.size _
          have HM := hide (wMayBe_any (w.heap.size + 1 + 1) (w.heap.size + 1) _ _ ⟨kd, nm, vl, lb⟩ (HBd.out.next HB3.out) ((HB3.out.block _ hKl).trans HK.out))
          unfold inV at HM
          go_wp2_with fail
          refine HM.out.mono ?_
          rintro e w5 ⟨rfl, hb5⟩
          have HB5 : Hid (Below W.heap.size W w5) := HB3.out.trans (hb5.mono HB3.out.size)
          clear hb5 HM HB3 d0 d1 d2 d3
          generalize mayB ⟨kd, nm, vl, lb⟩ = R at *
          cases R with
          | true =>
            go_wp2_with fail
            go_roundw
            case rel => exact ⟨j + 1, by omega, by go_num, by rw [HSJ.out, HOJ.out]; rfl, HB5.out⟩
            case measure => simp [intOf] <;> omega
          | false =>
            have HNO : Hid (fs.all okF = false) := by
              refine all_head okF fs (k + 1) ?_
              rw [HS.out]
              have : okF ⟨fa, fi, fb⟩ = false := all_head mayB fi (j + 1) (by rw [HSJ.out, Bool.and_false])
              rw [this, Bool.and_false]
            have HPR : Hid (pageR eA t ls fs = .tuple #[S [], eA]) := by show _ = _; unfold pageR; rw [HNO.out]; rfl
            have e1 : w5.cell? ⟨0, 0, none⟩ = some eA := (HB5.out.cell (p := ⟨0, 0, none⟩) hEW).trans HE.out
            have HZ : Hid (Below w.heap.size w w5) := HB1.out.trans (HB5.out.mono hwW)
            go_wp2_with fail
            go_quiet (fail)
            go_wp2_with fail
            go_ret2
            exact ⟨by rw [HPR.out]; rfl, ⟨HZ.out.os, HZ.out.tape, HZ.out.output, HZ.out.size, HZ.out.block⟩⟩
        · have hj8 : ¬ (j : Int) < (fi.length : Int) := by omega
          obtain rfl : j = fi.length := by omega
          have HOF : Hid (okF ⟨fa, fi, fb⟩ = true) := by
            have := HOJ.out
            rw [List.take_length] at this
            exact this
          clear hbr
          go_wp2_with fail
          go_roundw
          case rel => exact ⟨k + 1, by omega, by go_num, by rw [HS.out, HOK.out, HOF.out]; rfl, HBX.out⟩
          case measure => simp [intOf] <;> omega
    · have hk8 : ¬ (k : Int) < (fs.length : Int) := by omega
      obtain rfl : k = fs.length := by omega
      have hall : fs.all okF = true := by
        have := HOK.out
        rwa [List.take_length] at this
      have HPR : Hid (pageR eA t ls fs = .tuple #[S (pageL t ls fs), .nilIface]) := by show _ = _; unfold pageR; rw [if_pos hall]
      have HX : Hid (∀ f ∈ fs, ∀ x ∈ f.ins, 1 ≤ x.kind ∧ x.kind ≤ 4) := fun f hf x hx => mayB_kind (List.all_eq_true.1 (List.all_eq_true.1 hall f hf) x hx)
      have hPr := (HBW.out.block _ hPl).trans HP.out
      have p0 : wr.cell? ⟨w.heap.size, 0, none⟩ = some (.string t) := by simp [World.cell?, hPr]
      have p1 : wr.cell? ⟨w.heap.size, 0 + 1, none⟩ = some (.slice ol ls.length cl) := by simp [World.cell?, hPr]
      have p2 : wr.cell? ⟨w.heap.size, 0 + 2, none⟩ = some (.slice of fs.length cf) := by simp [World.cell?, hPr]
      have HC := hide (wPage_any (w.heap.size + 1 + 1) (w.heap.size + 1) wr t (.slice ol ls.length cl) (.slice of fs.length cf) ls fs (HBd.out.next HBW.out) (HT.out.next HBW.out) (by omega) (Nat.lt_succ_self _) ((HBW.out.block _ hKl).trans HK.out) (fun w' hw' => HL.out.below (HBR.out.trans (hw'.below.mono (by omega)))) w HFF.out HBR.out (by omega) HX.out hl hls hfs hfi)
      clear hPr hall hbr
      go_wp2_with fail
      refine HC.out.mono ?_
      rintro e w5 ⟨rfl, hbd5, hfr5⟩
      have H1 := hide hbd5
      have H2 : Hid (Below w.heap.size w w5) := HBR.out.trans (hfr5.below.mono (by omega))
      clear hbd5 hfr5 p0 p1 p2
      go_wp2_with fail
      refine (string_any _ _ _ _ _ H1.out).mono ?_
      rintro e w6 ⟨rfl, hb6⟩
      have H3 : Hid (Below w.heap.size w w6) := H2.out.trans (hb6.mono (by omega))
      clear hb6
      go_wp2
      go_ret2
      exact ⟨by rw [HPR.out]; rfl, H3.out⟩
end Go.Proofs.YtjalggkhpnfbiaaDoor.pg
