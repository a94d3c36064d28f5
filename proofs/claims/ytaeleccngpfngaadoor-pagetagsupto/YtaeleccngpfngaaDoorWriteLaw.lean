import Derived.Test.YtaeleccngpfngaaDoorTwinAll
import Derived.Test.YtaeleccngpfngaaDoorErrWalks
namespace Go.Proofs.YtaeleccngpfngaaDoor.pg
open Go.ChangeShapes Go.WideShapes Go.ChangeAt Go.RowKit Go.Proofs.YtaeleccngpfngaaDoor.common Go.Maps
attribute [local go_sem ↓] Go.wp_at_zero Go.wp_at_succ

set_option maxRecDepth 100000 in
set_option maxHeartbeats 1600000 in
theorem lawWrite (w : World) (t : ByteArray) (vL vF : Value) (ls : List ByteArray) (fs : List Frm) (hL : LiesS w vL ls) (hF : LiesF w vF fs) (ht : Esc w) (e : Nat → Addr) (he : errw.Errs w e) (hl : 6 * pageW t ls fs + 6 ≤ 140737488355) (hls : ls.length ≤ 1000000000) (hfs : fs.length ≤ 1000000000) (hfi : ∀ f ∈ fs, f.ins.length ≤ 1000000000) :
    Calls Tryd.prog 4 #[.agg #[.string t, vL, vF]] w fun e w' => e = .returned (.bool true) ∧ Below w.heap.size w w' := by
  have HLw := hide hL
  have HFw := hide hF
  obtain ⟨ol, cl, rfl, _⟩ := hL
  obtain ⟨of, cf, rfl, _⟩ := hF
  have hfi2 : ∀ f ∈ fs, f.ins.length ≤ 4611686018427387904 := fun f hf => Nat.le_trans (hfi f hf) (by decide)
  have hls2 : ls.length ≤ 4611686018427387904 := by omega
  have hfs2 : fs.length ≤ 4611686018427387904 := by omega
  have hl2 : 6 * pageW t ls fs + 6 ≤ 140737488355328 := by omega
  have BA : Below w.heap.size w (w.alloc (.cells #[.string t, .slice ol ls.length cl, .slice of fs.length cf] 25)) := (Below.refl _ _).alloc (Nat.le_refl _) _
  have hP : (w.alloc (.cells #[.string t, .slice ol ls.length cl, .slice of fs.length cf] 25)).heap[w.heap.size]? = some (.cells #[.string t, .slice ol ls.length cl, .slice of fs.length cf] 25) := by show (w.heap.push _)[w.heap.size]? = _; simp
  have HP := hide hP
  have HBA := hide BA
  have hPl := (Array.getElem?_eq_some_iff.1 hP).1
  have HT := hide (ht.next BA)
  have HE := hide (he.below BA)
  have HRP := hide (range3 hP)
  clear hP BA ht he
  go_enter Tryd.func4, Tryd.ntmps4
  go_wp2_with fail
  generalize w.alloc (.cells #[.string t, .slice ol ls.length cl, .slice of fs.length cf] 25) = W at *
  refine (twinPage_any W t _ _ ls fs (HLw.out.below HBA.out) (HFw.out.below HBA.out) hls hfs hfi).mono ?_
  rintro x w1 ⟨vL', vF', rfl, hL1, hF1, b1⟩
  have BQ : Below w1.heap.size w1 (w1.alloc (.cells #[.string t, vL', vF'] 25)) := (Below.refl _ _).alloc (Nat.le_refl _) _
  have hQ : (w1.alloc (.cells #[.string t, vL', vF'] 25)).heap[w1.heap.size]? = some (.cells #[.string t, vL', vF'] 25) := by show (w1.heap.push _)[w1.heap.size]? = _; simp
  have HLQ := hide (hL1.below BQ)
  have HFQ := hide (hF1.below BQ)
  have HWQ := hide (b1.trans (BQ.mono b1.size))
  have HQ := hide hQ
  have hQl := (Array.getElem?_eq_some_iff.1 hQ).1
  obtain ⟨o1, c1, rfl, _⟩ := hL1
  obtain ⟨o2, c2, rfl, _⟩ := hF1
  clear b1 BQ hQ
  have hp1 := (HWQ.out.block _ hPl).trans HP.out
  have f0 : (w1.alloc (.cells #[.string t, .slice o1 ls.length c1, .slice o2 fs.length c2] 25)).cell? ⟨w.heap.size, 0, none⟩ = some (.string t) := by simp [World.cell?, hp1]
  have f1 : (w1.alloc (.cells #[.string t, .slice o1 ls.length c1, .slice o2 fs.length c2] 25)).cell? ⟨w.heap.size, 0 + 1, none⟩ = some (.slice ol ls.length cl) := by simp [World.cell?, hp1]
  have f2 : (w1.alloc (.cells #[.string t, .slice o1 ls.length c1, .slice o2 fs.length c2] 25)).cell? ⟨w.heap.size, 0 + 2, none⟩ = some (.slice of fs.length cf) := by simp [World.cell?, hp1]
  have HRP1 := hide (range3 hp1)
  clear hp1
  go_wp2_with (refine wpList_load_mid rfl 25 (.tmp 1) rfl w.heap.size 0 rfl _ _ HRP1.out Tryd.underlying25 rfl sizePg ?_)
  generalize w1.alloc (.cells #[.string t, .slice o1 ls.length c1, .slice o2 fs.length c2] 25) = V at *
  have HBV := hide (HBA.out.trans (HWQ.out.mono HBA.out.size))
  refine (page_any V t _ _ (errw.E e 0) ls fs (HLw.out.below HBV.out) (HFw.out.below HBV.out) (HT.out.next HWQ.out) ((HE.out.below HWQ.out).cell 0 (by decide)) hl2 hls2 hfs2 hfi2).mono ?_
  rintro x w2 ⟨rfl, b2⟩
  have key : ∃ (Lr : ByteArray) (ev : Value) (n : Int), pageR (errw.E e 0) t ls fs = .tuple #[.string Lr, ev] ∧ refPageR t ls fs = .tuple #[.string Lr, .int .i64 n] ∧ (∀ Y, Below W.heap.size W Y → Calls Tryd.prog 15 #[ev] Y fun x w' => x = .returned (.int .i64 n) ∧ w' = Y) := by
    unfold pageR refPageR
    cases hall : fs.all okF with
    | true => exact ⟨_, _, _, rfl, rfl, fun Y _ => errw.num_nil Y⟩
    | false => exact ⟨_, _, _, rfl, rfl, fun Y hY => errw.num_0 Y e (HE.out.below hY)⟩
  obtain ⟨Lr, ev, n, h1, h2, h3⟩ := key
  rw [h1]
  have HR2 := hide h2
  have HNU := hide h3
  have HV2 := hide b2
  have hq2 := (b2.block _ hQl).trans HQ.out
  have HRQ := hide (range3 hq2)
  have hp2 := ((HWQ.out.trans (b2.mono HWQ.out.size)).block _ hPl).trans HP.out
  have HRP2 := hide (range3 hp2)
  clear h1 h2 h3 b2 hq2 hp2 f0 f1 f2 HRP HRP1
  go_wp2_with (refine wpList_load_mid rfl 25 (.tmp 3) rfl w1.heap.size 0 rfl _ _ HRQ.out Tryd.underlying25 rfl sizePg ?_)
  refine (refPage_any w2 t _ _ ls fs (HLQ.out.below HV2.out) (HFQ.out.below HV2.out) hl hls2 hfs2 hfi2).mono ?_
  rintro x w3 ⟨rfl, b3⟩
  rw [HR2.out]
  have HV3 := hide (HV2.out.trans (b3.mono HV2.out.size))
  have hq3 := (HV3.out.block _ hQl).trans HQ.out
  have HRQ3 := hide (range3 hq3)
  have hp3 := ((HWQ.out.trans (HV3.out.mono HWQ.out.size)).block _ hPl).trans HP.out
  have HRP3 := hide (range3 hp3)
  have HB3 := hide (HBV.out.trans (HV3.out.mono HBV.out.size))
  have HW3 := hide (HWQ.out.trans (HV3.out.mono HWQ.out.size))
  clear b3 hq3 hp3 HRQ HRP2 HR2
  go_wp2_with (first
    | (refine wpList_load_mid rfl 25 (.tmp 1) rfl w.heap.size 0 rfl _ _ HRP3.out Tryd.underlying25 rfl sizePg ?_)
    | (refine wpList_load_mid rfl 25 (.tmp 3) rfl w1.heap.size 0 rfl _ _ HRQ3.out Tryd.underlying25 rfl sizePg ?_))
  refine (samePage_any t _ _ _ _ ls fs w3 (HLw.out.below HB3.out) (HFw.out.below HB3.out) (HLQ.out.below HV3.out) (HFQ.out.below HV3.out) hls2 hfs2 hfi2).mono ?_
  rintro x w4 ⟨rfl, b4⟩
  have HB4 := hide (HB3.out.trans (b4.mono HB3.out.size))
  have HN4 := hide (HNU.out w4 (HW3.out.trans (b4.mono HW3.out.size)))
  clear b4 HRP3 HRQ3 HNU
  go_wp2_with (go_at_call 15; refine HN4.out.mono ?_; rintro x w5 ⟨rfl, rfl⟩)
  go_ret
  exact ⟨rfl, HB4.out⟩
end Go.Proofs.YtaeleccngpfngaaDoor.pg
