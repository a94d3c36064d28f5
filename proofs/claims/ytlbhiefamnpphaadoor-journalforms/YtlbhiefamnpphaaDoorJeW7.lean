import Derived.Test.YtlbhiefamnpphaaDoorJeW6
import Derived.Test.YtlbhiefamnpphaaDoorJeM2
namespace Go.Proofs.YtlbhiefamnpphaaDoor.je
open Go.ChangeShapes Go.WideShapes Go.ChangeAt Go.RowKit Go.Proofs.YtlbhiefamnpphaaDoor.common Go.Proofs.YtlbhiefamnpphaaDoor.Jc Go.Proofs.YtlbhiefamnpphaaDoor.jc
attribute [local go_sem ↓] Go.wp_at_zero Go.wp_at_succ

/-- a method of the cursor, as a value -/
abbrev fnV (g b : Nat) : Value := .func (.func g) #[ptr b] #[]
/-- the reader of the forms: its cursor, the list of its readers, its result -/
structure Fs (L : Nat) (w wr : World) (ty : TypeId) : Prop where
  cu : ∃ c, Cu 57 [.int .i64 (L : Int)] wr (w.heap.size + 1) c
  sl : wr.heap[w.heap.size + 1 + 1]? = some (.cells #[fnV 25 (w.heap.size + 1), fnV 26 (w.heap.size + 1), fnV 27 (w.heap.size + 1)] ty)
  res : wr.there w.heap.size 0 7
  bel : Below w.heap.size w wr
theorem Fs.fk {L : Nat} {w wr w' : World} {ty : TypeId} (h : Fs L w wr ty) (k : Fk (w.heap.size + 1) wr w') (hc : ∃ c, Cu 57 [.int .i64 (L : Int)] w' (w.heap.size + 1) c) : Fs L w w' ty := by
  have h2 := (Array.getElem?_eq_some_iff.1 h.sl).1
  refine ⟨hc, (k.block _ h2 (by omega)).trans h.sl, there_blk h.res (k.block _ (by omega) (by omega)), ?_⟩
  exact h.bel.trans (k.below (by omega) h.bel.size)
theorem Fs.nt {L : Nat} {w wr : World} {ty : TypeId} (h : Fs L w wr ty) (hw : WTab w) (hf : FTab w) (ho : OTab w) : Nt wr (w.heap.size + 1) := by
  have lw := World.block_lt_of_cell? _ _ (hw 0 (by decide))
  have lf := World.block_lt_of_cell? _ _ (hf 0 (by decide))
  have lo := World.block_lt_of_cell? _ _ (ho 0 (by decide))
  simp only at lw lf lo
  exact ⟨hw.fr h.bel, hf.fr h.bel, ho.fr h.bel, by omega, by omega, by omega⟩
/-- what the reader of the forms answers -/
def rdV : Option Dt → Value
  | some x => .tuple #[dv x, .bool true]
  | none => .tuple #[dv z0, .bool false]
theorem Cu.both {t : TypeId} {tl : List Value} {w : World} {b : Nat} {c : Cs} (h : Cu t tl w b c) (r : List UInt8) (f : Bool) : Cu t tl ((w.setCell ⟨b, 0, none⟩ (.string (tx r))).setCell ⟨b, 1, none⟩ (.bool f)) b (r, f) := (h.rest r).fail f

/-- what the form number i doesn't say -/
def NoI (l : List UInt8) (L : Nat) : Nat → Prop
  | 0 => ∀ z, Fm z → l ≠ imfL z
  | 1 => ∀ z, Fm z → z.y ≤ L → L < z.y + 100 → l ≠ rfcL z
  | _ => ∀ z, Fm z → ¬ (l = ascL true z ∨ l = ascL false z)
theorem forms_of (l : List UInt8) (L b : Nat) (hL1 : 100 ≤ L) (hL2 : L ≤ 9999) (i : Nat) (hi : i < 3) : ∃ (g : Nat) (R : Cs → Dt → Cs → Prop), (#[fnV 25 b, fnV 26 b, fnV 27 b] : Array Value)[i]? = some (fnV g b) ∧ Enters g ∧
    (∀ W, Cu 57 [.int .i64 (L : Int)] W b (l, false) → Nt W b → Calls Tryd.prog g #[ptr b] W fun e w' => DtP R 57 [.int .i64 (L : Int)] b (l, false) W e w') ∧
    (∀ x, R (l, false) x ([], false) → RdO l L (some x)) ∧ (∀ x c', R (l, false) x c' → c' ≠ ([], false) → NoI l L i) := by
  match i, hi with
  | 0, _ => exact ⟨_, Rd imfL Fm, rfl, enters_of Tryd.func25 (by kernel_rfl) rfl, fun W h1 h2 => fixdate_any _ _ W b _ h1 h2, fun x h => done_fix h rfl, fun x c' h hc => not_fix h hc⟩
  | 1, _ => exact ⟨_, Rd rfcL (fun x => Fm x ∧ x.y ≤ L ∧ L < x.y + 100), rfl, enters_of Tryd.func26 (by kernel_rfl) rfl, fun W h1 h2 => rfc850_any _ _ W b _ h1 h2 L hL1 hL2 rfl, fun x h => done_rfc h rfl, fun x c' h hc => not_rfc h hc⟩
  | 2, _ => exact ⟨_, RdAs, rfl, enters_of Tryd.func27 (by kernel_rfl) rfl, fun W h1 h2 => asctime_any _ _ W b _ h1 h2, fun x h => by obtain ⟨bl, h⟩ := h; exact done_asc h rfl, fun x c' h hc => by obtain ⟨bl, h⟩ := h; exact not_asc h hc⟩

set_option maxRecDepth 100000 in
set_option maxHeartbeats 6400000 in
theorem readForms_any (l : List UInt8) (y L : Nat) (hL : L = min (y + 50) 9999) (hy : 1970 ≤ y) (hy1 : y ≤ 9999) (w : World) (hw : WTab w) (hf : FTab w) (ho : OTab w) :
    Calls Tryd.prog 16 #[.string (tx l), .int .i64 (y : Int)] w fun e w' => ∃ q, e = .returned (rdV q) ∧ RdO l L q ∧ Below w.heap.size w w' := by
  have wy : wrap64 ((y : Int) + 50) = (y : Int) + 50 := wrp _ ⟨by omega, by omega⟩
  have HI := hide (forms_of l L (w.heap.size + 1) (by omega) (by omega))
  have HE : Hid ((∀ j, j < 3 → NoI l L j) → RdO l L none) := fun h => none_of (h 0 (by decide)) (h 1 (by decide)) (h 2 (by decide))
  have HNT : Hid (∀ W, Fs L w W 58 → Nt W (w.heap.size + 1)) := fun W hW => hW.nt hw hf ho
  have HF0 : Hid (Fs L w (((w.alloc (.cells #[.int .i64 0, .int .i64 0, .int .i64 0, .int .i64 0, .int .i64 0, .int .i64 0, .int .i64 0] 26)).alloc (.cells #[.string ⟨#[]⟩, .bool false, .int .i64 (L : Int)] 57)).alloc (.cells #[fnV 25 (w.heap.size + 1), fnV 26 (w.heap.size + 1), fnV 27 (w.heap.size + 1)] 58)) 58) := by
    refine ⟨⟨([], false), heap3 w _ _ _⟩, ?_, ?_, (((Below.refl _ _).alloc (Nat.le_refl _) _).alloc (by simp) _).alloc (by simp; omega) _⟩
    · have k := heap_new ((w.alloc (.cells #[.int .i64 0, .int .i64 0, .int .i64 0, .int .i64 0, .int .i64 0, .int .i64 0, .int .i64 0] 26)).alloc (.cells #[.string ⟨#[]⟩, .bool false, .int .i64 (L : Int)] 57)) (.cells #[fnV 25 (w.heap.size + 1), fnV 26 (w.heap.size + 1), fnV 27 (w.heap.size + 1)] 58)
      rw [World.size_alloc, World.size_alloc] at k
      exact k
    · refine there_blk (zero_there w) ?_
      show (Array.push (Array.push _ _) _)[w.heap.size]? = _
      rw [Array.getElem?_push, Array.getElem?_push]
      rw [if_neg (by simp; omega), if_neg (by simp)]
  have hmin : min ((y : Int) + 50) 9999 = (L : Int) := by omega
  clear hw hf ho hL
  go_enter Tryd.func16, Tryd.ntmps16
  go_wp2_with fail
  clear hmin wy
  go_loopw [23] (fun v wr => ∃ i : Nat, v = .int .i64 (i : Int) ∧ i ≤ 3 ∧ Hid (∀ j, j < i → NoI l L j) ∧ Hid (Fs L w wr 58)) (fun v _ => 4 - (intOf v).toNat)
  case atStart => exact ⟨0, rfl, by omega, fun j hj => by omega, HF0⟩
  case round =>
    obtain ⟨i, rfl, i3, HJ, HS⟩ := hrel
    by_cases hi : i < 3
    · have hii : (i : Int) < 3 := by omega
      obtain ⟨g, R, hcell, eg, hcall, hdone, hnot⟩ := HI.out i hi
      have cg : wr.cell? ⟨w.heap.size + 1 + 1, i, none⟩ = some (fnV g (w.heap.size + 1)) := by
        simp only [World.cell?, HS.out.sl]
        exact hcell
      have eg' : ∀ args w, (callFunc g args).run Tryd.prog w = .ok (.enter g args) w := eg
      obtain ⟨c, hc⟩ := HS.out.cu
      obtain ⟨c0, c1, z0, z1⟩ := hc.cells
      have HU1 := hide (hc.both l false)
      have HK1 : Hid (Fk (w.heap.size + 1) wr ((wr.setCell ⟨w.heap.size + 1, 0, none⟩ (.string (tx l))).setCell ⟨w.heap.size + 1, 1, none⟩ (.bool false))) := ((Fk.refl _ _).set _ _).set _ _
      have HS1 := hide (HS.out.fk HK1.out ⟨_, HU1.out⟩)
      have HCALL := hide (hcall _ HU1.out (HNT.out _ HS1.out))
      have HDN := hide hdone
      have HNO := hide hnot
      have Hv : Hid (Value.int .i64 (wrap64 ((i : Int) + 1)) = .int .i64 ((i + 1 : Nat) : Int)) := by show _ = _; rw [wrpN i (by omega)]; rfl
      clear hcell eg hc hcall hdone hnot HI HE HS HU1 HK1 HF0
      go_wp2_with fail
      refine HCALL.out.mono ?_
      rintro e w2 ⟨x, c', rfl, hr, hu, hk⟩
      have HS2 := hide (HS1.out.fk hk ⟨_, hu⟩)
      have HR := hide hr
      have HA : Hid (Below w2.heap.size w2 (w2.alloc (.cells #[.int .i64 (x.y : Int), .int .i64 (x.m : Int), .int .i64 (x.d : Int), .int .i64 (x.h : Int), .int .i64 (x.i : Int), .int .i64 (x.s : Int), .int .i64 (x.w : Int)] 26))) := (Below.refl _ _).alloc (Nat.le_refl _) _
      have HU3 : Hid (Cu 57 [.int .i64 (L : Int)] (w2.alloc (.cells #[.int .i64 (x.y : Int), .int .i64 (x.m : Int), .int .i64 (x.d : Int), .int .i64 (x.h : Int), .int .i64 (x.i : Int), .int .i64 (x.s : Int), .int .i64 (x.w : Int)] 26)) (w.heap.size + 1) c') := (HA.out.block _ hu.lt).trans hu
      have HS3 := hide (HS2.out.fk (Fk.of HA.out) ⟨_, HU3.out⟩)
      have HDo := hide (isDone_any _ _ _ _ _ HU3.out)
      have HX := hide (heap_new w2 (.cells #[.int .i64 (x.y : Int), .int .i64 (x.m : Int), .int .i64 (x.d : Int), .int .i64 (x.h : Int), .int .i64 (x.i : Int), .int .i64 (x.s : Int), .int .i64 (x.w : Int)] 26))
      clear hr hu hk HCALL HS1 c0 c1 z0 z1 HS2 HA
      unfold dv
      go_wp2_with fail
      refine HDo.out.mono ?_
      rintro e w3 ⟨rfl, h3⟩
      subst h3
      by_cases hc : c' = ([], false)
      · rw [decide_eq_true hc]
        have HQ : Hid (RdO l L (some x)) := HDN.out x (by have := HR.out; rw [hc] at this; exact this)
        obtain ⟨p0, p1, p2, p3, p4, p5, p6⟩ := obc (x := x) HX.out
        clear hc HNO HDN HR
        have HTH : Hid ((w2.alloc (.cells #[.int .i64 (x.y : Int), .int .i64 (x.m : Int), .int .i64 (x.d : Int), .int .i64 (x.h : Int), .int .i64 (x.i : Int), .int .i64 (x.s : Int), .int .i64 (x.w : Int)] 26)).there w.heap.size 0 (#[.int .i64 (x.y : Int), .int .i64 (x.m : Int), .int .i64 (x.d : Int), .int .i64 (x.h : Int), .int .i64 (x.i : Int), .int .i64 (x.s : Int), .int .i64 (x.w : Int)] : Array Value).size) := HS3.out.res
        obtain ⟨Zw, hZ⟩ : ∃ Zw, Zw = (w2.alloc (.cells #[.int .i64 (x.y : Int), .int .i64 (x.m : Int), .int .i64 (x.d : Int), .int .i64 (x.h : Int), .int .i64 (x.i : Int), .int .i64 (x.s : Int), .int .i64 (x.w : Int)] 26)).setCells w.heap.size 0 (#[.int .i64 (x.y : Int), .int .i64 (x.m : Int), .int .i64 (x.d : Int), .int .i64 (x.h : Int), .int .i64 (x.i : Int), .int .i64 (x.s : Int), .int .i64 (x.w : Int)] : Array Value).toList := ⟨_, rfl⟩
        have HZ := hide hZ
        have HZR : Hid (Zw.rangeAt w.heap.size 0 [.int .i64 (x.y : Int), .int .i64 (x.m : Int), .int .i64 (x.d : Int), .int .i64 (x.h : Int), .int .i64 (x.i : Int), .int .i64 (x.s : Int), .int .i64 (x.w : Int)]) := by rw [hZ]; exact World.rangeAt_setCells_same _ w.heap.size 0 _ HTH.out
        have HZB : Hid (Below w.heap.size w Zw) := by rw [hZ]; exact below_setCells HS3.out.bel (Nat.le_refl _) _ _
        clear hZ
        go_wp2_with (refine wpList_store_mid rfl 26 (.tmp 4) (.tmp 38) rfl w.heap.size 0 #[.int .i64 (x.y : Int), .int .i64 (x.m : Int), .int .i64 (x.d : Int), .int .i64 (x.h : Int), .int .i64 (x.i : Int), .int .i64 (x.s : Int), .int .i64 (x.w : Int)] rfl rfl HTH.out sizeD (one7 _ _ _ _ _ _ _) ?_; rw [← HZ.out])
        refine bodyPost_ret (v := .tuple #[.agg #[.int .i64 (x.y : Int), .int .i64 (x.m : Int), .int .i64 (x.d : Int), .int .i64 (x.h : Int), .int .i64 (x.i : Int), .int .i64 (x.s : Int), .int .i64 (x.w : Int)], .bool true]) (results_cellT (b := w.heap.size) (o := 0) (cs := [.int .i64 (x.y : Int), .int .i64 (x.m : Int), .int .i64 (x.d : Int), .int .i64 (x.h : Int), .int .i64 (x.i : Int), .int .i64 (x.s : Int), .int .i64 (x.w : Int)]) Tryd.results16 _ rfl HZR.out Tryd.underlying26 rfl sizeD) rfl ⟨some x, by simp [rdV, dv], HQ.out, HZB.out⟩

      · rw [decide_eq_false hc]
        have HN2 : Hid (∀ j, j < i + 1 → NoI l L j) := fun j hj => by
          rcases Nat.lt_or_ge j i with h1 | h1
          · exact HJ.out j h1
          · rw [show j = i by omega]; exact HNO.out x c' HR.out hc
        clear hc HNO HDN HR HJ HX
        go_wp2_with fail
        go_roundw
        case rel => exact ⟨i + 1, by first | exact Hv.out | go_num, by omega, HN2, HS3⟩
        case measure => simp [intOf]; omega
    · have hii : ¬ ((i : Int) < 3) := by omega
      have HQ := hide (HE.out (fun j hj => HJ.out j (by omega)))
      clear HI HE HJ hi
      have HTH : Hid (wr.there w.heap.size 0 (#[.int .i64 0, .int .i64 0, .int .i64 0, .int .i64 0, .int .i64 0, .int .i64 0, .int .i64 0] : Array Value).size) := HS.out.res
      obtain ⟨Zw, hZ⟩ : ∃ Zw, Zw = wr.setCells w.heap.size 0 (#[.int .i64 0, .int .i64 0, .int .i64 0, .int .i64 0, .int .i64 0, .int .i64 0, .int .i64 0] : Array Value).toList := ⟨_, rfl⟩
      have HZ := hide hZ
      have HZR : Hid (Zw.rangeAt w.heap.size 0 [.int .i64 0, .int .i64 0, .int .i64 0, .int .i64 0, .int .i64 0, .int .i64 0, .int .i64 0]) := by rw [hZ]; exact World.rangeAt_setCells_same _ w.heap.size 0 _ HTH.out
      have HZB : Hid (Below w.heap.size w Zw) := by rw [hZ]; exact below_setCells HS.out.bel (Nat.le_refl _) _ _
      clear hZ
      go_wp2_with (refine wpList_store_mid rfl 26 (.tmp 4) (.tmp 40) rfl w.heap.size 0 #[.int .i64 0, .int .i64 0, .int .i64 0, .int .i64 0, .int .i64 0, .int .i64 0, .int .i64 0] rfl rfl HTH.out sizeD (one7 _ _ _ _ _ _ _) ?_; rw [← HZ.out])
      refine bodyPost_ret (v := .tuple #[.agg #[.int .i64 0, .int .i64 0, .int .i64 0, .int .i64 0, .int .i64 0, .int .i64 0, .int .i64 0], .bool false]) (results_cellT (b := w.heap.size) (o := 0) (cs := [.int .i64 0, .int .i64 0, .int .i64 0, .int .i64 0, .int .i64 0, .int .i64 0, .int .i64 0]) Tryd.results16 _ rfl HZR.out Tryd.underlying26 rfl sizeD) rfl ⟨none, by simp [rdV, dv], HQ.out, HZB.out⟩
end Go.Proofs.YtlbhiefamnpphaaDoor.je
