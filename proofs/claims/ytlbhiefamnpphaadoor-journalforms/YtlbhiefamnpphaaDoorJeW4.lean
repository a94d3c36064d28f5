import Derived.Test.YtlbhiefamnpphaaDoorJeW3
namespace Go.Proofs.YtlbhiefamnpphaaDoor.je
open Go.ChangeShapes Go.WideShapes Go.ChangeAt Go.RowKit Go.Proofs.YtlbhiefamnpphaaDoor.common Go.Proofs.YtlbhiefamnpphaaDoor.Jc Go.Proofs.YtlbhiefamnpphaaDoor.jc
attribute [local go_sem ↓] Go.wp_at_zero Go.wp_at_succ

/-- seven numbers in a block -/
def Da (w : World) (db : Nat) (a0 a1 a2 a3 a4 a5 a6 : Int) : Prop := w.heap[db]? = some (.cells #[.int .i64 a0, .int .i64 a1, .int .i64 a2, .int .i64 a3, .int .i64 a4, .int .i64 a5, .int .i64 a6] 26)
/-- all but two blocks is as it was -/
structure F2 (b db : Nat) (w w' : World) : Prop where
  os : w'.os = w.os
  tape : w'.tape = w.tape
  output : w'.output = w.output
  size : w.heap.size ≤ w'.heap.size
  block : ∀ k, k < w.heap.size → k ≠ b → k ≠ db → w'.heap[k]? = w.heap[k]?
theorem F2.refl (b db : Nat) (w : World) : F2 b db w w := ⟨rfl, rfl, rfl, Nat.le_refl _, fun _ _ _ _ => rfl⟩
theorem F2.fk {b db : Nat} {w w1 w2 : World} (h : F2 b db w w1) (k : Fk b w1 w2) : F2 b db w w2 := ⟨k.os.trans h.os, k.tape.trans h.tape, k.output.trans h.output, Nat.le_trans h.size k.size, fun i hi hn hm => (k.block i (Nat.lt_of_lt_of_le hi h.size) hn).trans (h.block i hi hn hm)⟩
theorem F2.trans {b db : Nat} {w w1 w2 : World} (h : F2 b db w w1) (k : F2 b db w1 w2) : F2 b db w w2 := ⟨k.os.trans h.os, k.tape.trans h.tape, k.output.trans h.output, Nat.le_trans h.size k.size, fun i hi hn hm => (k.block i (Nat.lt_of_lt_of_le hi h.size) hn hm).trans (h.block i hi hn hm)⟩
theorem F2.set {b db : Nat} {w w' : World} (h : F2 b db w w') (j : Nat) (v : Value) : F2 b db w (w'.setCell ⟨db, j, none⟩ v) := ⟨h.os, h.tape, h.output, by simpa [World.setCell] using h.size, fun k hk hn hm => by rw [set_else hm]; exact h.block k hk hn hm⟩
/-- from two blocks to one: the other is new -/
theorem F2.one {b db : Nat} {w w0 w' : World} (h : F2 b db w0 w') (h0 : Fk b w w0) (hd : w.heap.size ≤ db) : Fk b w w' := ⟨h.os.trans h0.os, h.tape.trans h0.tape, h.output.trans h0.output, Nat.le_trans h0.size h.size, fun k hk hn => (h.block k (Nat.lt_of_lt_of_le hk h0.size) hn (by omega)).trans (h0.block k hk hn)⟩
theorem Da.fk {w w' : World} {b db : Nat} {a0 a1 a2 a3 a4 a5 a6 : Int} (h : Da w db a0 a1 a2 a3 a4 a5 a6) (k : Fk b w w') (hn : db ≠ b) : Da w' db a0 a1 a2 a3 a4 a5 a6 := (k.block db (Array.getElem?_eq_some_iff.1 h).1 hn).trans h
theorem Da.cells {w : World} {db : Nat} {a0 a1 a2 a3 a4 a5 a6 : Int} (h : Da w db a0 a1 a2 a3 a4 a5 a6) : (∀ j, w.frozen? ⟨db, j, none⟩ = false) ∧ ∀ j, j < 7 → ∃ v, w.cell? ⟨db, j, none⟩ = some v := by
  unfold Da at h
  refine ⟨fun j => by simp [World.frozen?, h], fun j hj => ?_⟩
  match j, hj with
  | 0, _ | 1, _ | 2, _ | 3, _ | 4, _ | 5, _ | 6, _ => exact ⟨_, by simp only [World.cell?, h]; rfl⟩
theorem cu_set {t : TypeId} {tl : List Value} {w : World} {b db : Nat} {c : Cs} (h : Cu t tl w b c) (hn : db ≠ b) (j : Nat) (v : Value) : Cu t tl (w.setCell ⟨db, j, none⟩ v) b c := (set_else (fun e => hn e.symm) j v).trans h
theorem Da.put0 {w : World} {db : Nat} {a0 a1 a2 a3 a4 a5 a6 : Int} (h : Da w db a0 a1 a2 a3 a4 a5 a6) (x : Int) : Da (w.setCell ⟨db, 0, none⟩ (.int .i64 x)) db x a1 a2 a3 a4 a5 a6 := by
  unfold Da at h ⊢
  rw [set_box h]; rfl
theorem Da.put1 {w : World} {db : Nat} {a0 a1 a2 a3 a4 a5 a6 : Int} (h : Da w db a0 a1 a2 a3 a4 a5 a6) (x : Int) : Da (w.setCell ⟨db, 1, none⟩ (.int .i64 x)) db a0 x a2 a3 a4 a5 a6 := by
  unfold Da at h ⊢
  rw [set_box h]; rfl
theorem Da.put2 {w : World} {db : Nat} {a0 a1 a2 a3 a4 a5 a6 : Int} (h : Da w db a0 a1 a2 a3 a4 a5 a6) (x : Int) : Da (w.setCell ⟨db, 2, none⟩ (.int .i64 x)) db a0 a1 x a3 a4 a5 a6 := by
  unfold Da at h ⊢
  rw [set_box h]; rfl
theorem Da.put3 {w : World} {db : Nat} {a0 a1 a2 a3 a4 a5 a6 : Int} (h : Da w db a0 a1 a2 a3 a4 a5 a6) (x : Int) : Da (w.setCell ⟨db, 3, none⟩ (.int .i64 x)) db a0 a1 a2 x a4 a5 a6 := by
  unfold Da at h ⊢
  rw [set_box h]; rfl
theorem Da.put4 {w : World} {db : Nat} {a0 a1 a2 a3 a4 a5 a6 : Int} (h : Da w db a0 a1 a2 a3 a4 a5 a6) (x : Int) : Da (w.setCell ⟨db, 4, none⟩ (.int .i64 x)) db a0 a1 a2 a3 x a5 a6 := by
  unfold Da at h ⊢
  rw [set_box h]; rfl
theorem Da.put5 {w : World} {db : Nat} {a0 a1 a2 a3 a4 a5 a6 : Int} (h : Da w db a0 a1 a2 a3 a4 a5 a6) (x : Int) : Da (w.setCell ⟨db, 5, none⟩ (.int .i64 x)) db a0 a1 a2 a3 a4 x a6 := by
  unfold Da at h ⊢
  rw [set_box h]; rfl
theorem Da.put6 {w : World} {db : Nat} {a0 a1 a2 a3 a4 a5 a6 : Int} (h : Da w db a0 a1 a2 a3 a4 a5 a6) (x : Int) : Da (w.setCell ⟨db, 6, none⟩ (.int .i64 x)) db a0 a1 a2 a3 a4 a5 x := by
  unfold Da at h ⊢
  rw [set_box h]; rfl

/-- what the reader of a time comes to -/
def TmP (t : TypeId) (tl : List Value) (b db : Nat) (c : Cs) (a0 a1 a2 a6 : Int) (w : World) (e : Ending) (w' : World) : Prop := ∃ (h i s : Nat) (c' : Cs), e = .returned (.tuple #[]) ∧ RdT c (h, i, s) c' ∧ Cu t tl w' b c' ∧ Da w' db a0 a1 a2 h i s a6 ∧ F2 b db w w'

set_option maxRecDepth 100000 in
set_option maxHeartbeats 3200000 in
theorem time_any (t : TypeId) (tl : List Value) (w : World) (b db : Nat) (c : Cs) (a0 a1 a2 a3 a4 a5 a6 : Int) (h : Cu t tl w b c) (hd : Da w db a0 a1 a2 a3 a4 a5 a6) (hn : db ≠ b) :
    Calls Tryd.prog 40 #[ptr b, ptr db] w fun e w' => TmP t tl b db c a0 a1 a2 a6 w e w' := by
  have HG : Hid (∀ W c, Cu t tl W b c → Calls Tryd.prog 38 #[ptr b, .int .i64 2] W fun e w' => NumP (RdD 2) t tl b c W e w') := fun W c hW => digits_any t tl W b c 2 (by decide) hW
  have HM : Hid (∀ W c, Cu t tl W b c → Calls Tryd.prog 37 #[ptr b, .string ⟨#[58]⟩] W fun e w' => e = .returned (.tuple #[]) ∧ Cu t tl w' b (mustS [58] c) ∧ Fk b W w') := fun W c hW => must_any t tl W b c [58] hW
  have G1 := hide (HG.out w c h)
  have HD0 := hide hd
  have HN := hide hn
  clear h hd hn
  go_enter Tryd.func40, Tryd.ntmps40
  go_wp2_with fail
  refine G1.out.mono ?_
  rintro e w1 ⟨n1, c1, rfl, hn1, r1, u1, k1⟩
  have D1 := HD0.out.fk k1 HN.out
  obtain ⟨v1, x1⟩ := D1.cells.2 3 (by decide)
  have f1 := D1.cells.1 3
  have HF1 : Hid (F2 b db w (w1.setCell ⟨db, 3, none⟩ (.int .i64 (n1 : Int)))) := ((F2.refl b db w).fk k1).set 3 _
  have HD1 := hide (D1.put3 (n1 : Int))
  have HU1 := hide (cu_set u1 HN.out 3 (.int .i64 (n1 : Int)))
  have R1 := hide r1
  have M1 := hide (HM.out _ _ HU1.out)
  clear D1 r1 u1 k1 HD0 G1
  go_wp2_with fail
  refine M1.out.mono ?_
  rintro e w2 ⟨rfl, u2, k2⟩
  have HF2 := hide (HF1.out.fk k2)
  have HD2 := hide (HD1.out.fk k2 HN.out)
  have G2 := hide (HG.out _ _ u2)
  clear u2 k2 HF1 HD1 HU1 M1 x1 f1
  go_wp2_with fail
  refine G2.out.mono ?_
  rintro e w3 ⟨n2, c3, rfl, hn2, r3, u3, k3⟩
  have D3 := HD2.out.fk k3 HN.out
  obtain ⟨v3, x3⟩ := D3.cells.2 4 (by decide)
  have f3 := D3.cells.1 4
  have HF3 : Hid (F2 b db w (w3.setCell ⟨db, 4, none⟩ (.int .i64 (n2 : Int)))) := (HF2.out.fk k3).set 4 _
  have HD3 := hide (D3.put4 (n2 : Int))
  have HU3 := hide (cu_set u3 HN.out 4 (.int .i64 (n2 : Int)))
  have R3 := hide r3
  have M3 := hide (HM.out _ _ HU3.out)
  clear D3 r3 u3 k3 HD2 G2 HF2
  go_wp2_with fail
  refine M3.out.mono ?_
  rintro e w4 ⟨rfl, u4, k4⟩
  have HF4 := hide (HF3.out.fk k4)
  have HD4 := hide (HD3.out.fk k4 HN.out)
  have G4 := hide (HG.out _ _ u4)
  clear u4 k4 HF3 HD3 HU3 M3 x3 f3 HM HG
  go_wp2_with fail
  refine G4.out.mono ?_
  rintro e w5 ⟨n3, c5, rfl, hn3, r5, u5, k5⟩
  have D5 := HD4.out.fk k5 HN.out
  obtain ⟨v5, x5⟩ := D5.cells.2 5 (by decide)
  have f5 := D5.cells.1 5
  have HF5 : Hid (F2 b db w (w5.setCell ⟨db, 5, none⟩ (.int .i64 (n3 : Int)))) := (HF4.out.fk k5).set 5 _
  have HD5 := hide (D5.put5 (n3 : Int))
  have HU5 := hide (cu_set u5 HN.out 5 (.int .i64 (n3 : Int)))
  have R5 := hide r5
  clear D5 r5 u5 k5 HD4 G4 HF4
  go_wp2_with fail
  first | go_end0 | refine bodyPost_end (results_none rfl _ _ _) rfl ?_
  exact ⟨n1, n2, n3, c5, rfl, tim_of R1.out (must_rd _ _) R3.out (must_rd _ _) R5.out, HU5.out, HD5.out, HF5.out⟩
end Go.Proofs.YtlbhiefamnpphaaDoor.je
