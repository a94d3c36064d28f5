import Derived.Test.YtlbhiefamnpphaaDoorJeW4
namespace Go.Proofs.YtlbhiefamnpphaaDoor.je
open Go.ChangeShapes Go.WideShapes Go.ChangeAt Go.RowKit Go.Proofs.YtlbhiefamnpphaaDoor.common Go.Proofs.YtlbhiefamnpphaaDoor.Jc Go.Proofs.YtlbhiefamnpphaaDoor.jc
attribute [local go_sem ↓] Go.wp_at_zero Go.wp_at_succ

theorem f2_cell {b db g j : Nat} {w w' : World} {v : Value} (h : w.cell? ⟨g, j, none⟩ = some v) (hf : F2 b db w w') (hg : g ≠ b) (hd : g ≠ db) : w'.cell? ⟨g, j, none⟩ = some v := by
  rw [World.cell?_of_block (a := ⟨g, j, none⟩) (hf.block g (World.block_lt_of_cell? _ _ h) hg hd)]; exact h
theorem Fk.bel {b : Nat} {w w1 w2 : World} (h : Fk b w w1) (k : Below w.heap.size w1 w2) : Fk b w w2 := ⟨k.os.trans h.os, k.tape.trans h.tape, k.output.trans h.output, Nat.le_trans h.size k.size, fun i hi hn => (k.block i hi).trans (h.block i hi hn)⟩
/-- the names' tables lie apart from the cursor -/
structure Nt (w : World) (b : Nat) : Prop where
  wt : WTab w
  ft : FTab w
  ot : OTab w
  bw : 3 ≠ b
  bf : 6 ≠ b
  bo : 4 ≠ b
theorem Nt.f2 {w W0 W : World} {b db : Nat} (h : Nt w b) (hb : Below w.heap.size w W0) (k : F2 b db W0 W) (hd : w.heap.size ≤ db) : Nt W b := by
  have lw := World.block_lt_of_cell? _ _ (h.wt 0 (by decide))
  have lf := World.block_lt_of_cell? _ _ (h.ft 0 (by decide))
  have lo := World.block_lt_of_cell? _ _ (h.ot 0 (by decide))
  simp only at lw lf lo
  exact ⟨fun i hi => f2_cell (h.wt.fr hb i hi) k h.bw (by omega), fun i hi => f2_cell (h.ft.fr hb i hi) k h.bf (by omega), fun i hi => f2_cell (h.ot.fr hb i hi) k h.bo (by omega), h.bw, h.bf, h.bo⟩
/-- the third form -/
abbrev RdAs (c : Cs) (x : Dt) (c' : Cs) : Prop := ∃ bl, Rd (fun p : Bool × Dt => ascL p.1 p.2) (fun p => Fm p.2 ∧ (p.1 = true → p.2.d < 10)) c (bl, x) c'
/-- what a reader of dates comes to -/
def DtP (R : Cs → Dt → Cs → Prop) (t : TypeId) (tl : List Value) (b : Nat) (c : Cs) (w : World) (e : Ending) (w' : World) : Prop := ∃ (x : Dt) (c' : Cs), e = .returned (dv x) ∧ R c x c' ∧ Cu t tl w' b c' ∧ Fk b w w'
theorem dtP {R : Cs → Dt → Cs → Prop} {t : TypeId} {tl : List Value} {b : Nat} {c c' : Cs} {w w' : World} {e : Ending} {x : Dt} (h1 : e = .returned (dv x)) (h2 : R c x c') (h3 : Cu t tl w' b c') (h4 : Fk b w w') : DtP R t tl b c w e w' := ⟨x, c', h1, h2, h3, h4⟩

set_option maxRecDepth 100000 in
set_option maxHeartbeats 6400000 in
theorem fixdate_any (t : TypeId) (tl : List Value) (w : World) (b : Nat) (c : Cs) (h : Cu t tl w b c) (hN : Nt w b) :
    Calls Tryd.prog 25 #[ptr b] w fun e w' => DtP (Rd imfL Fm) t tl b c w e w' := by
  have hlt := h.lt
  have BW : Below w.heap.size w ((w.alloc (.cells #[.int .i64 0, .int .i64 0, .int .i64 0, .int .i64 0, .int .i64 0, .int .i64 0, .int .i64 0] 26)).alloc (.cells #[.int .i64 0, .int .i64 0, .int .i64 0, .int .i64 0, .int .i64 0, .int .i64 0, .int .i64 0] 26)) := ((Below.refl _ _).alloc (Nat.le_refl _) _).alloc (by simp) _
  have HD0 : Hid (Da ((w.alloc (.cells #[.int .i64 0, .int .i64 0, .int .i64 0, .int .i64 0, .int .i64 0, .int .i64 0, .int .i64 0] 26)).alloc (.cells #[.int .i64 0, .int .i64 0, .int .i64 0, .int .i64 0, .int .i64 0, .int .i64 0, .int .i64 0] 26)) (w.heap.size + 1) 0 0 0 0 0 0 0) := heap2 w _ _
  have HU0 : Hid (Cu t tl ((w.alloc (.cells #[.int .i64 0, .int .i64 0, .int .i64 0, .int .i64 0, .int .i64 0, .int .i64 0, .int .i64 0] 26)).alloc (.cells #[.int .i64 0, .int .i64 0, .int .i64 0, .int .i64 0, .int .i64 0, .int .i64 0, .int .i64 0] 26)) b c) := (BW.block b hlt).trans h
  have HF0 : Hid (F2 b (w.heap.size + 1) ((w.alloc (.cells #[.int .i64 0, .int .i64 0, .int .i64 0, .int .i64 0, .int .i64 0, .int .i64 0, .int .i64 0] 26)).alloc (.cells #[.int .i64 0, .int .i64 0, .int .i64 0, .int .i64 0, .int .i64 0, .int .i64 0, .int .i64 0] 26)) ((w.alloc (.cells #[.int .i64 0, .int .i64 0, .int .i64 0, .int .i64 0, .int .i64 0, .int .i64 0, .int .i64 0] 26)).alloc (.cells #[.int .i64 0, .int .i64 0, .int .i64 0, .int .i64 0, .int .i64 0, .int .i64 0, .int .i64 0] 26))) := F2.refl _ _ _
  have HRS : Hid (∀ W, F2 b (w.heap.size + 1) ((w.alloc (.cells #[.int .i64 0, .int .i64 0, .int .i64 0, .int .i64 0, .int .i64 0, .int .i64 0, .int .i64 0] 26)).alloc (.cells #[.int .i64 0, .int .i64 0, .int .i64 0, .int .i64 0, .int .i64 0, .int .i64 0, .int .i64 0] 26)) W → W.there w.heap.size 0 7) := fun W hW => by
    have h0 : (((w.alloc (.cells #[.int .i64 0, .int .i64 0, .int .i64 0, .int .i64 0, .int .i64 0, .int .i64 0, .int .i64 0] 26)).alloc (.cells #[.int .i64 0, .int .i64 0, .int .i64 0, .int .i64 0, .int .i64 0, .int .i64 0, .int .i64 0] 26))).heap[w.heap.size]? = some (.cells #[.int .i64 0, .int .i64 0, .int .i64 0, .int .i64 0, .int .i64 0, .int .i64 0, .int .i64 0] 26) := by
      show (Array.push _ _)[w.heap.size]? = _
      rw [Array.getElem?_push, if_neg (by rw [World.size_alloc]; omega)]; exact heap_new w _
    exact there_of ((hW.block w.heap.size (by rw [World.size_alloc, World.size_alloc]; omega) (by omega) (by omega)).trans h0)
  have HNT : Hid (∀ W, F2 b (w.heap.size + 1) ((w.alloc (.cells #[.int .i64 0, .int .i64 0, .int .i64 0, .int .i64 0, .int .i64 0, .int .i64 0, .int .i64 0] 26)).alloc (.cells #[.int .i64 0, .int .i64 0, .int .i64 0, .int .i64 0, .int .i64 0, .int .i64 0, .int .i64 0] 26)) W → Nt W b) := fun W hW => hN.f2 BW hW (by omega)
  have HFK : Hid (∀ W, F2 b (w.heap.size + 1) ((w.alloc (.cells #[.int .i64 0, .int .i64 0, .int .i64 0, .int .i64 0, .int .i64 0, .int .i64 0, .int .i64 0] 26)).alloc (.cells #[.int .i64 0, .int .i64 0, .int .i64 0, .int .i64 0, .int .i64 0, .int .i64 0, .int .i64 0] 26)) W → Fk b w W) := fun W hW => hW.one (Fk.of BW) (by omega)
  have HN : Hid (w.heap.size + 1 ≠ b) := by show _ ≠ _; omega
  have Hlt := hide hlt
  clear BW h hN hlt
  have G1 := hide (weekday_any t tl _ b _ HU0.out (HNT.out _ HF0.out).wt (HNT.out _ HF0.out).bw)
  go_enter Tryd.func25, Tryd.ntmps25
  go_wp2_with fail
  refine G1.out.mono ?_
  rintro e w1 ⟨n1, c1, rfl, hn1, r1, u1, k1⟩
  have D1 := HD0.out.fk k1 HN.out
  obtain ⟨v1, x1⟩ := D1.cells.2 6 (by decide)
  have f1 := D1.cells.1 6
  have HF1 : Hid (F2 b (w.heap.size + 1) _ (w1.setCell ⟨w.heap.size + 1, 6, none⟩ (.int .i64 (n1 : Int)))) := (HF0.out.fk k1).set 6 _
  have HD1 := hide (D1.put6 (n1 : Int))
  have HU1 := hide (cu_set u1 HN.out 6 (.int .i64 (n1 : Int)))
  have R1 := hide r1
  clear D1 r1 u1 k1 HD0 G1 HF0 HU0
  have G2 : Hid (Calls Tryd.prog 37 #[ptr b, .string ⟨#[44, 32]⟩] _ _) := must_any t tl _ b _ [44, 32] HU1.out
  go_wp2_with fail
  refine G2.out.mono ?_
  rintro e w2 ⟨rfl, u2, k2⟩
  have HF2 := hide (HF1.out.fk k2)
  have HD2 := hide (HD1.out.fk k2 HN.out)
  have HU2 := hide u2
  clear u2 k2 HF1 HD1 HU1 G2
  have G3 := hide ((show Calls Tryd.prog 38 #[ptr b, .int .i64 2] _ _ from digits_any t tl _ b _ 2 (by decide) HU2.out))
  go_wp2_with fail
  refine G3.out.mono ?_
  rintro e w3 ⟨n3, c3, rfl, hn3, r3, u3, k3⟩
  have D3 := HD2.out.fk k3 HN.out
  obtain ⟨v3, x3⟩ := D3.cells.2 2 (by decide)
  have f3 := D3.cells.1 2
  have HF3 : Hid (F2 b (w.heap.size + 1) _ (w3.setCell ⟨w.heap.size + 1, 2, none⟩ (.int .i64 (n3 : Int)))) := (HF2.out.fk k3).set 2 _
  have HD3 := hide (D3.put2 (n3 : Int))
  have HU3 := hide (cu_set u3 HN.out 2 (.int .i64 (n3 : Int)))
  have R3 := hide r3
  clear D3 r3 u3 k3 HD2 G3 HF2 HU2
  have G4 : Hid (Calls Tryd.prog 37 #[ptr b, .string ⟨#[32]⟩] _ _) := must_any t tl _ b _ [32] HU3.out
  go_wp2_with fail
  refine G4.out.mono ?_
  rintro e w4 ⟨rfl, u4, k4⟩
  have HF4 := hide (HF3.out.fk k4)
  have HD4 := hide (HD3.out.fk k4 HN.out)
  have HU4 := hide u4
  clear u4 k4 HF3 HD3 HU3 G4
  have G5 := hide (month_anyP t tl _ b _ HU4.out (HNT.out _ HF4.out).ot (HNT.out _ HF4.out).bo)
  go_wp2_with fail
  refine G5.out.mono ?_
  rintro e w5 ⟨n5, c5, rfl, hn5, r5, u5, k5⟩
  have D5 := HD4.out.fk k5 HN.out
  obtain ⟨v5, x5⟩ := D5.cells.2 1 (by decide)
  have f5 := D5.cells.1 1
  have HF5 : Hid (F2 b (w.heap.size + 1) _ (w5.setCell ⟨w.heap.size + 1, 1, none⟩ (.int .i64 (n5 : Int)))) := (HF4.out.fk k5).set 1 _
  have HD5 := hide (D5.put1 (n5 : Int))
  have HU5 := hide (cu_set u5 HN.out 1 (.int .i64 (n5 : Int)))
  have R5 := hide r5
  clear D5 r5 u5 k5 HD4 G5 HF4 HU4
  have G6 : Hid (Calls Tryd.prog 37 #[ptr b, .string ⟨#[32]⟩] _ _) := must_any t tl _ b _ [32] HU5.out
  go_wp2_with fail
  refine G6.out.mono ?_
  rintro e w6 ⟨rfl, u6, k6⟩
  have HF6 := hide (HF5.out.fk k6)
  have HD6 := hide (HD5.out.fk k6 HN.out)
  have HU6 := hide u6
  clear u6 k6 HF5 HD5 HU5 G6
  have G7 := hide ((show Calls Tryd.prog 38 #[ptr b, .int .i64 4] _ _ from digits_any t tl _ b _ 4 (by decide) HU6.out))
  go_wp2_with fail
  refine G7.out.mono ?_
  rintro e w7 ⟨n7, c7, rfl, hn7, r7, u7, k7⟩
  have D7 := HD6.out.fk k7 HN.out
  obtain ⟨v7, x7⟩ := D7.cells.2 0 (by decide)
  have f7 := D7.cells.1 0
  have HF7 : Hid (F2 b (w.heap.size + 1) _ (w7.setCell ⟨w.heap.size + 1, 0, none⟩ (.int .i64 (n7 : Int)))) := (HF6.out.fk k7).set 0 _
  have HD7 := hide (D7.put0 (n7 : Int))
  have HU7 := hide (cu_set u7 HN.out 0 (.int .i64 (n7 : Int)))
  have R7 := hide r7
  clear D7 r7 u7 k7 HD6 G7 HF6 HU6
  have G8 : Hid (Calls Tryd.prog 37 #[ptr b, .string ⟨#[32]⟩] _ _) := must_any t tl _ b _ [32] HU7.out
  go_wp2_with fail
  refine G8.out.mono ?_
  rintro e w8 ⟨rfl, u8, k8⟩
  have HF8 := hide (HF7.out.fk k8)
  have HD8 := hide (HD7.out.fk k8 HN.out)
  have HU8 := hide u8
  clear u8 k8 HF7 HD7 HU7 G8
  have G9 := hide (time_any t tl _ b (w.heap.size + 1) _ _ _ _ _ _ _ _ HU8.out HD8.out HN.out)
  go_wp2_with fail
  refine G9.out.mono ?_
  rintro e w9 ⟨th, ti, ts, c9, rfl, r9, u9, d9, k9⟩
  have HF9 := hide (HF8.out.trans k9)
  have HD9 := hide d9
  have HU9 := hide u9
  have R9 := hide r9
  clear u9 k9 d9 r9 HF8 HD8 HU8 G9
  have G10 : Hid (Calls Tryd.prog 37 #[ptr b, .string ⟨#[32, 71, 77, 84]⟩] _ _) := must_any t tl _ b _ [32, 71, 77, 84] HU9.out
  go_wp2_with fail
  refine G10.out.mono ?_
  rintro e w10 ⟨rfl, u10, k10⟩
  have HF10 := hide (HF9.out.fk k10)
  have HD10 := hide (HD9.out.fk k10 HN.out)
  have HU10 := hide u10
  clear u10 k10 HF9 HD9 HU9 G10
  have y7 := HD10.out
  unfold Da at y7
  have y0 : w10.cell? ⟨w.heap.size + 1, 0, none⟩ = some (.int .i64 (n7 : Int)) := by simp only [World.cell?, y7]; rfl
  have y1 : w10.cell? ⟨w.heap.size + 1, 1, none⟩ = some (.int .i64 (n5 : Int)) := by simp only [World.cell?, y7]; rfl
  have y2 : w10.cell? ⟨w.heap.size + 1, 2, none⟩ = some (.int .i64 (n3 : Int)) := by simp only [World.cell?, y7]; rfl
  have y3 : w10.cell? ⟨w.heap.size + 1, 3, none⟩ = some (.int .i64 (th : Int)) := by simp only [World.cell?, y7]; rfl
  have y4 : w10.cell? ⟨w.heap.size + 1, 4, none⟩ = some (.int .i64 (ti : Int)) := by simp only [World.cell?, y7]; rfl
  have y5 : w10.cell? ⟨w.heap.size + 1, 5, none⟩ = some (.int .i64 (ts : Int)) := by simp only [World.cell?, y7]; rfl
  have y6 : w10.cell? ⟨w.heap.size + 1, 6, none⟩ = some (.int .i64 (n1 : Int)) := by simp only [World.cell?, y7]; rfl
  have HTH : Hid (w10.there w.heap.size 0 (#[.int .i64 (n7 : Int), .int .i64 (n5 : Int), .int .i64 (n3 : Int), .int .i64 (th : Int), .int .i64 (ti : Int), .int .i64 (ts : Int), .int .i64 (n1 : Int)] : Array Value).size) := HRS.out _ HF10.out
  obtain ⟨Z, hZ⟩ : ∃ Z, Z = (w10).setCells w.heap.size 0 (#[.int .i64 (n7 : Int), .int .i64 (n5 : Int), .int .i64 (n3 : Int), .int .i64 (th : Int), .int .i64 (ti : Int), .int .i64 (ts : Int), .int .i64 (n1 : Int)] : Array Value).toList := ⟨_, rfl⟩
  have HZ := hide hZ
  have HZR : Hid (Z.rangeAt w.heap.size 0 [.int .i64 (n7 : Int), .int .i64 (n5 : Int), .int .i64 (n3 : Int), .int .i64 (th : Int), .int .i64 (ti : Int), .int .i64 (ts : Int), .int .i64 (n1 : Int)]) := by rw [hZ]; exact World.rangeAt_setCells_same _ w.heap.size 0 _ HTH.out
  have bZ : Below w.heap.size w10 Z := by rw [hZ]; exact below_setCells (Below.refl _ _) (Nat.le_refl _) _ _
  have HZF := hide ((HFK.out _ HF10.out).bel bZ)
  have HZU : Hid (Cu t tl Z b _) := (bZ.block b Hlt.out).trans HU10.out
  clear y7 hZ bZ HRS HNT HFK
  go_wp2_with (refine wpList_store_mid rfl 26 (.tmp 2) (.tmp 48) rfl w.heap.size 0 #[.int .i64 (n7 : Int), .int .i64 (n5 : Int), .int .i64 (n3 : Int), .int .i64 (th : Int), .int .i64 (ti : Int), .int .i64 (ts : Int), .int .i64 (n1 : Int)] rfl rfl HTH.out sizeD (one7 _ _ _ _ _ _ _) ?_; rw [← HZ.out])
  refine bodyPost_ret (v := .agg #[.int .i64 (n7 : Int), .int .i64 (n5 : Int), .int .i64 (n3 : Int), .int .i64 (th : Int), .int .i64 (ti : Int), .int .i64 (ts : Int), .int .i64 (n1 : Int)]) (results_cell1 (b := w.heap.size) (o := 0) (cs := [.int .i64 (n7 : Int), .int .i64 (n5 : Int), .int .i64 (n3 : Int), .int .i64 (th : Int), .int .i64 (ti : Int), .int .i64 (ts : Int), .int .i64 (n1 : Int)]) Tryd.results25 _ rfl HZR.out Tryd.underlying26 rfl sizeD) rfl ?_
  exact dtP (x := ⟨n7, n5, n3, th, ti, ts, n1⟩) (by simp [dv]) (by obtain ⟨k5, rfl, q5⟩ := R5.out; exact fix_of R1.out.2 (must_rd _ _) R3.out (must_rd _ _) q5 (must_rd _ _) R7.out (must_rd _ _) R9.out (must_rd _ _)) HZU.out HZF.out

set_option maxRecDepth 100000 in
set_option maxHeartbeats 6400000 in
theorem asctime_any (t : TypeId) (tl : List Value) (w : World) (b : Nat) (c : Cs) (h : Cu t tl w b c) (hN : Nt w b) :
    Calls Tryd.prog 27 #[ptr b] w fun e w' => DtP RdAs t tl b c w e w' := by
  have hlt := h.lt
  have BW : Below w.heap.size w ((w.alloc (.cells #[.int .i64 0, .int .i64 0, .int .i64 0, .int .i64 0, .int .i64 0, .int .i64 0, .int .i64 0] 26)).alloc (.cells #[.int .i64 0, .int .i64 0, .int .i64 0, .int .i64 0, .int .i64 0, .int .i64 0, .int .i64 0] 26)) := ((Below.refl _ _).alloc (Nat.le_refl _) _).alloc (by simp) _
  have HD0 : Hid (Da ((w.alloc (.cells #[.int .i64 0, .int .i64 0, .int .i64 0, .int .i64 0, .int .i64 0, .int .i64 0, .int .i64 0] 26)).alloc (.cells #[.int .i64 0, .int .i64 0, .int .i64 0, .int .i64 0, .int .i64 0, .int .i64 0, .int .i64 0] 26)) (w.heap.size + 1) 0 0 0 0 0 0 0) := heap2 w _ _
  have HU0 : Hid (Cu t tl ((w.alloc (.cells #[.int .i64 0, .int .i64 0, .int .i64 0, .int .i64 0, .int .i64 0, .int .i64 0, .int .i64 0] 26)).alloc (.cells #[.int .i64 0, .int .i64 0, .int .i64 0, .int .i64 0, .int .i64 0, .int .i64 0, .int .i64 0] 26)) b c) := (BW.block b hlt).trans h
  have HF0 : Hid (F2 b (w.heap.size + 1) ((w.alloc (.cells #[.int .i64 0, .int .i64 0, .int .i64 0, .int .i64 0, .int .i64 0, .int .i64 0, .int .i64 0] 26)).alloc (.cells #[.int .i64 0, .int .i64 0, .int .i64 0, .int .i64 0, .int .i64 0, .int .i64 0, .int .i64 0] 26)) ((w.alloc (.cells #[.int .i64 0, .int .i64 0, .int .i64 0, .int .i64 0, .int .i64 0, .int .i64 0, .int .i64 0] 26)).alloc (.cells #[.int .i64 0, .int .i64 0, .int .i64 0, .int .i64 0, .int .i64 0, .int .i64 0, .int .i64 0] 26))) := F2.refl _ _ _
  have HRS : Hid (∀ W, F2 b (w.heap.size + 1) ((w.alloc (.cells #[.int .i64 0, .int .i64 0, .int .i64 0, .int .i64 0, .int .i64 0, .int .i64 0, .int .i64 0] 26)).alloc (.cells #[.int .i64 0, .int .i64 0, .int .i64 0, .int .i64 0, .int .i64 0, .int .i64 0, .int .i64 0] 26)) W → W.there w.heap.size 0 7) := fun W hW => by
    have h0 : (((w.alloc (.cells #[.int .i64 0, .int .i64 0, .int .i64 0, .int .i64 0, .int .i64 0, .int .i64 0, .int .i64 0] 26)).alloc (.cells #[.int .i64 0, .int .i64 0, .int .i64 0, .int .i64 0, .int .i64 0, .int .i64 0, .int .i64 0] 26))).heap[w.heap.size]? = some (.cells #[.int .i64 0, .int .i64 0, .int .i64 0, .int .i64 0, .int .i64 0, .int .i64 0, .int .i64 0] 26) := by
      show (Array.push _ _)[w.heap.size]? = _
      rw [Array.getElem?_push, if_neg (by rw [World.size_alloc]; omega)]; exact heap_new w _
    exact there_of ((hW.block w.heap.size (by rw [World.size_alloc, World.size_alloc]; omega) (by omega) (by omega)).trans h0)
  have HNT : Hid (∀ W, F2 b (w.heap.size + 1) ((w.alloc (.cells #[.int .i64 0, .int .i64 0, .int .i64 0, .int .i64 0, .int .i64 0, .int .i64 0, .int .i64 0] 26)).alloc (.cells #[.int .i64 0, .int .i64 0, .int .i64 0, .int .i64 0, .int .i64 0, .int .i64 0, .int .i64 0] 26)) W → Nt W b) := fun W hW => hN.f2 BW hW (by omega)
  have HFK : Hid (∀ W, F2 b (w.heap.size + 1) ((w.alloc (.cells #[.int .i64 0, .int .i64 0, .int .i64 0, .int .i64 0, .int .i64 0, .int .i64 0, .int .i64 0] 26)).alloc (.cells #[.int .i64 0, .int .i64 0, .int .i64 0, .int .i64 0, .int .i64 0, .int .i64 0, .int .i64 0] 26)) W → Fk b w W) := fun W hW => hW.one (Fk.of BW) (by omega)
  have HN : Hid (w.heap.size + 1 ≠ b) := by show _ ≠ _; omega
  have Hlt := hide hlt
  clear BW h hN hlt
  have G1 := hide (weekday_any t tl _ b _ HU0.out (HNT.out _ HF0.out).wt (HNT.out _ HF0.out).bw)
  go_enter Tryd.func27, Tryd.ntmps27
  go_wp2_with fail
  refine G1.out.mono ?_
  rintro e w1 ⟨n1, c1, rfl, hn1, r1, u1, k1⟩
  have D1 := HD0.out.fk k1 HN.out
  obtain ⟨v1, x1⟩ := D1.cells.2 6 (by decide)
  have f1 := D1.cells.1 6
  have HF1 : Hid (F2 b (w.heap.size + 1) _ (w1.setCell ⟨w.heap.size + 1, 6, none⟩ (.int .i64 (n1 : Int)))) := (HF0.out.fk k1).set 6 _
  have HD1 := hide (D1.put6 (n1 : Int))
  have HU1 := hide (cu_set u1 HN.out 6 (.int .i64 (n1 : Int)))
  have R1 := hide r1
  clear D1 r1 u1 k1 HD0 G1 HF0 HU0
  have G2 : Hid (Calls Tryd.prog 37 #[ptr b, .string ⟨#[32]⟩] _ _) := must_any t tl _ b _ [32] HU1.out
  go_wp2_with fail
  refine G2.out.mono ?_
  rintro e w2 ⟨rfl, u2, k2⟩
  have HF2 := hide (HF1.out.fk k2)
  have HD2 := hide (HD1.out.fk k2 HN.out)
  have HU2 := hide u2
  clear u2 k2 HF1 HD1 HU1 G2
  have G3 := hide (month_anyP t tl _ b _ HU2.out (HNT.out _ HF2.out).ot (HNT.out _ HF2.out).bo)
  go_wp2_with fail
  refine G3.out.mono ?_
  rintro e w3 ⟨n3, c3, rfl, hn3, r3, u3, k3⟩
  have D3 := HD2.out.fk k3 HN.out
  obtain ⟨v3, x3⟩ := D3.cells.2 1 (by decide)
  have f3 := D3.cells.1 1
  have HF3 : Hid (F2 b (w.heap.size + 1) _ (w3.setCell ⟨w.heap.size + 1, 1, none⟩ (.int .i64 (n3 : Int)))) := (HF2.out.fk k3).set 1 _
  have HD3 := hide (D3.put1 (n3 : Int))
  have HU3 := hide (cu_set u3 HN.out 1 (.int .i64 (n3 : Int)))
  have R3 := hide r3
  clear D3 r3 u3 k3 HD2 G3 HF2 HU2
  have G4 : Hid (Calls Tryd.prog 37 #[ptr b, .string ⟨#[32]⟩] _ _) := must_any t tl _ b _ [32] HU3.out
  go_wp2_with fail
  refine G4.out.mono ?_
  rintro e w4 ⟨rfl, u4, k4⟩
  have HF4 := hide (HF3.out.fk k4)
  have HD4 := hide (HD3.out.fk k4 HN.out)
  have HU4 := hide u4
  clear u4 k4 HF3 HD3 HU3 G4
  have G5 := hide (paddedDay_any t tl _ b _ HU4.out)
  go_wp2_with fail
  refine G5.out.mono ?_
  rintro e w5 ⟨n5, c5, rfl, hn5, r5, u5, k5⟩
  have D5 := HD4.out.fk k5 HN.out
  obtain ⟨v5, x5⟩ := D5.cells.2 2 (by decide)
  have f5 := D5.cells.1 2
  have HF5 : Hid (F2 b (w.heap.size + 1) _ (w5.setCell ⟨w.heap.size + 1, 2, none⟩ (.int .i64 (n5 : Int)))) := (HF4.out.fk k5).set 2 _
  have HD5 := hide (D5.put2 (n5 : Int))
  have HU5 := hide (cu_set u5 HN.out 2 (.int .i64 (n5 : Int)))
  have R5 := hide r5
  clear D5 r5 u5 k5 HD4 G5 HF4 HU4
  have G6 : Hid (Calls Tryd.prog 37 #[ptr b, .string ⟨#[32]⟩] _ _) := must_any t tl _ b _ [32] HU5.out
  go_wp2_with fail
  refine G6.out.mono ?_
  rintro e w6 ⟨rfl, u6, k6⟩
  have HF6 := hide (HF5.out.fk k6)
  have HD6 := hide (HD5.out.fk k6 HN.out)
  have HU6 := hide u6
  clear u6 k6 HF5 HD5 HU5 G6
  have G7 := hide (time_any t tl _ b (w.heap.size + 1) _ _ _ _ _ _ _ _ HU6.out HD6.out HN.out)
  go_wp2_with fail
  refine G7.out.mono ?_
  rintro e w7 ⟨th, ti, ts, c7, rfl, r7, u7, d7, k7⟩
  have HF7 := hide (HF6.out.trans k7)
  have HD7 := hide d7
  have HU7 := hide u7
  have R7 := hide r7
  clear u7 k7 d7 r7 HF6 HD6 HU6 G7
  have G8 : Hid (Calls Tryd.prog 37 #[ptr b, .string ⟨#[32]⟩] _ _) := must_any t tl _ b _ [32] HU7.out
  go_wp2_with fail
  refine G8.out.mono ?_
  rintro e w8 ⟨rfl, u8, k8⟩
  have HF8 := hide (HF7.out.fk k8)
  have HD8 := hide (HD7.out.fk k8 HN.out)
  have HU8 := hide u8
  clear u8 k8 HF7 HD7 HU7 G8
  have G9 := hide ((show Calls Tryd.prog 38 #[ptr b, .int .i64 4] _ _ from digits_any t tl _ b _ 4 (by decide) HU8.out))
  go_wp2_with fail
  refine G9.out.mono ?_
  rintro e w9 ⟨n9, c9, rfl, hn9, r9, u9, k9⟩
  have D9 := HD8.out.fk k9 HN.out
  obtain ⟨v9, x9⟩ := D9.cells.2 0 (by decide)
  have f9 := D9.cells.1 0
  have HF9 : Hid (F2 b (w.heap.size + 1) _ (w9.setCell ⟨w.heap.size + 1, 0, none⟩ (.int .i64 (n9 : Int)))) := (HF8.out.fk k9).set 0 _
  have HD9 := hide (D9.put0 (n9 : Int))
  have HU9 := hide (cu_set u9 HN.out 0 (.int .i64 (n9 : Int)))
  have R9 := hide r9
  clear D9 r9 u9 k9 HD8 G9 HF8 HU8
  have y7 := HD9.out
  unfold Da at y7
  have y0 : (w9.setCell ⟨w.heap.size + 1, 0, none⟩ (.int .i64 (n9 : Int))).cell? ⟨w.heap.size + 1, 0, none⟩ = some (.int .i64 (n9 : Int)) := by simp only [World.cell?, y7]; rfl
  have y1 : (w9.setCell ⟨w.heap.size + 1, 0, none⟩ (.int .i64 (n9 : Int))).cell? ⟨w.heap.size + 1, 1, none⟩ = some (.int .i64 (n3 : Int)) := by simp only [World.cell?, y7]; rfl
  have y2 : (w9.setCell ⟨w.heap.size + 1, 0, none⟩ (.int .i64 (n9 : Int))).cell? ⟨w.heap.size + 1, 2, none⟩ = some (.int .i64 (n5 : Int)) := by simp only [World.cell?, y7]; rfl
  have y3 : (w9.setCell ⟨w.heap.size + 1, 0, none⟩ (.int .i64 (n9 : Int))).cell? ⟨w.heap.size + 1, 3, none⟩ = some (.int .i64 (th : Int)) := by simp only [World.cell?, y7]; rfl
  have y4 : (w9.setCell ⟨w.heap.size + 1, 0, none⟩ (.int .i64 (n9 : Int))).cell? ⟨w.heap.size + 1, 4, none⟩ = some (.int .i64 (ti : Int)) := by simp only [World.cell?, y7]; rfl
  have y5 : (w9.setCell ⟨w.heap.size + 1, 0, none⟩ (.int .i64 (n9 : Int))).cell? ⟨w.heap.size + 1, 5, none⟩ = some (.int .i64 (ts : Int)) := by simp only [World.cell?, y7]; rfl
  have y6 : (w9.setCell ⟨w.heap.size + 1, 0, none⟩ (.int .i64 (n9 : Int))).cell? ⟨w.heap.size + 1, 6, none⟩ = some (.int .i64 (n1 : Int)) := by simp only [World.cell?, y7]; rfl
  have HTH : Hid ((w9.setCell ⟨w.heap.size + 1, 0, none⟩ (.int .i64 (n9 : Int))).there w.heap.size 0 (#[.int .i64 (n9 : Int), .int .i64 (n3 : Int), .int .i64 (n5 : Int), .int .i64 (th : Int), .int .i64 (ti : Int), .int .i64 (ts : Int), .int .i64 (n1 : Int)] : Array Value).size) := HRS.out _ HF9.out
  obtain ⟨Z, hZ⟩ : ∃ Z, Z = ((w9.setCell ⟨w.heap.size + 1, 0, none⟩ (.int .i64 (n9 : Int)))).setCells w.heap.size 0 (#[.int .i64 (n9 : Int), .int .i64 (n3 : Int), .int .i64 (n5 : Int), .int .i64 (th : Int), .int .i64 (ti : Int), .int .i64 (ts : Int), .int .i64 (n1 : Int)] : Array Value).toList := ⟨_, rfl⟩
  have HZ := hide hZ
  have HZR : Hid (Z.rangeAt w.heap.size 0 [.int .i64 (n9 : Int), .int .i64 (n3 : Int), .int .i64 (n5 : Int), .int .i64 (th : Int), .int .i64 (ti : Int), .int .i64 (ts : Int), .int .i64 (n1 : Int)]) := by rw [hZ]; exact World.rangeAt_setCells_same _ w.heap.size 0 _ HTH.out
  have bZ : Below w.heap.size (w9.setCell ⟨w.heap.size + 1, 0, none⟩ (.int .i64 (n9 : Int))) Z := by rw [hZ]; exact below_setCells (Below.refl _ _) (Nat.le_refl _) _ _
  have HZF := hide ((HFK.out _ HF9.out).bel bZ)
  have HZU : Hid (Cu t tl Z b _) := (bZ.block b Hlt.out).trans HU9.out
  clear y7 hZ bZ HRS HNT HFK
  go_wp2_with (refine wpList_store_mid rfl 26 (.tmp 2) (.tmp 44) rfl w.heap.size 0 #[.int .i64 (n9 : Int), .int .i64 (n3 : Int), .int .i64 (n5 : Int), .int .i64 (th : Int), .int .i64 (ti : Int), .int .i64 (ts : Int), .int .i64 (n1 : Int)] rfl rfl HTH.out sizeD (one7 _ _ _ _ _ _ _) ?_; rw [← HZ.out])
  refine bodyPost_ret (v := .agg #[.int .i64 (n9 : Int), .int .i64 (n3 : Int), .int .i64 (n5 : Int), .int .i64 (th : Int), .int .i64 (ti : Int), .int .i64 (ts : Int), .int .i64 (n1 : Int)]) (results_cell1 (b := w.heap.size) (o := 0) (cs := [.int .i64 (n9 : Int), .int .i64 (n3 : Int), .int .i64 (n5 : Int), .int .i64 (th : Int), .int .i64 (ti : Int), .int .i64 (ts : Int), .int .i64 (n1 : Int)]) Tryd.results27 _ rfl HZR.out Tryd.underlying26 rfl sizeD) rfl ?_
  exact dtP (x := ⟨n9, n3, n5, th, ti, ts, n1⟩) (by simp [dv]) (by obtain ⟨k3, rfl, q3⟩ := R3.out; obtain ⟨bl, q5⟩ := R5.out; exact ⟨bl, asc_of R1.out.2 (must_rd _ _) q3 (must_rd _ _) q5 (must_rd _ _) R7.out (must_rd _ _) R9.out⟩) HZU.out HZF.out
end Go.Proofs.YtlbhiefamnpphaaDoor.je
