import Derived.Test.YtefdofmllgofeaaGreatDoorMSeemW
namespace Go.Proofs.YtefdofmllgofeaaGreatDoor.fd
open Go.ChangeShapes Go.WideShapes Go.ChangeAt Go.RowKit Go.Proofs.YtefdofmllgofeaaGreatDoor.common Go.Proofs.YtefdofmllgofeaaGreatDoor.bk
attribute [local go_sem ↓] Go.wp_at_zero Go.wp_at_succ

theorem sizeCk : (Tryz.prog.info? 69).map (·.size) = some 3 := by kernel_rfl
theorem three_put (w : World) (R : Nat) (x y z v0 v1 v2 : Value) (h0 : w.cell? ⟨R, 0, none⟩ = some v0) (h1 : w.cell? ⟨R, 1, none⟩ = some v1) (h2 : w.cell? ⟨R, 2, none⟩ = some v2) : (((w.setCell ⟨R, 0, none⟩ x).setCell ⟨R, 1, none⟩ y).setCell ⟨R, 2, none⟩ z).rangeAt R 0 [x, y, z] := by
  have r : w.rangeAt R 0 [v0, v1, v2] := by
    intro j u hu
    match j, hu with
    | 0, hu => cases hu; exact h0
    | 1, hu => cases hu; exact h1
    | 2, hu => cases hu; exact h2
  have r1 := range_set r 0 (by simp) x
  have r2 := range_set r1 1 (by simp) y
  have r3 := range_set r2 2 (by simp) z
  simpa using r3
/-- what seems to be meant, as a value -/
def seemC (l : List UInt8) : Value := .agg #[S (seemN l), S (seemV l), .int .i64 (seemA l)]

set_option maxRecDepth 100000 in
set_option maxHeartbeats 1600000 in
theorem seemingCookie_any (s : ByteArray) (w : World) (ea : Addr) (hs : s.size ≤ 4194304) (h : Env6 w ea) :
    Calls Tryz.prog 39 #[.string s] w fun e w' => e = .returned (seemC s.data.toList) ∧ Below w.heap.size w w' := by
  have hl := cut_lens 61 s.data.toList
  have hl2 := cut_lens 59 (behind 61 s.data.toList)
  rw [len_list] at hl
  have HE := hide h
  have H1 := hide (fun W => cut_any s 61 W (by omega))
  have H2 := hide (fun W => cut_any (⟨(behind 61 s.data.toList).toArray⟩ : ByteArray) 59 W (by rw [str_size]; omega))
  have H3 := hide (fun W (hW : Env6 W ea) => seemingAge_any (⟨(behind 59 (behind 61 s.data.toList)).toArray⟩ : ByteArray) W ea (by rw [str_size]; omega) hW)
  rw [str_list] at H2 H3
  have HR : Hid (seemC s.data.toList = .agg #[S (before 61 s.data.toList), S (before 59 (behind 61 s.data.toList)), .int .i64 (seemAge (behind 59 (behind 61 s.data.toList)))]) := rfl
  rw [HR.out]
  clear h HR hl hl2
  generalize before 61 s.data.toList = N1 at *
  generalize behind 61 s.data.toList = B1 at *
  generalize before 59 B1 = V1 at *
  generalize behind 59 B1 = B2 at *
  generalize seemAge B2 = A1 at *
  obtain ⟨W0, hW0⟩ : ∃ W0 : World, W0 = w.alloc (.cells #[.string ⟨#[]⟩, .string ⟨#[]⟩, .int .i64 0] 69) := ⟨_, rfl⟩
  have HBL : Hid (Below w.heap.size w W0) := by rw [hW0]; exact (Below.refl _ _).alloc (Nat.le_refl _) _
  have HLT : Hid (w.heap.size < W0.heap.size) := by show _ < _; rw [hW0]; simp
  have HC0 : Hid (∀ X, Below W0.heap.size W0 X → X.cell? ⟨w.heap.size, 0, none⟩ = some (.string ⟨#[]⟩) ∧ X.cell? ⟨w.heap.size, 1, none⟩ = some (.string ⟨#[]⟩) ∧ X.cell? ⟨w.heap.size, 2, none⟩ = some (.int .i64 0) ∧ (∀ i, X.frozen? ⟨w.heap.size, i, none⟩ = false)) := by
    intro X hX
    refine ⟨?_, ?_, ?_, ?_⟩
    · rw [hX.cell (p := ⟨w.heap.size, 0, none⟩) HLT.out, hW0]; exact range_new w #[.string ⟨#[]⟩, .string ⟨#[]⟩, .int .i64 0] _ 0 _ rfl
    · rw [hX.cell (p := ⟨w.heap.size, 1, none⟩) HLT.out, hW0]; exact range_new w #[.string ⟨#[]⟩, .string ⟨#[]⟩, .int .i64 0] _ 1 _ rfl
    · rw [hX.cell (p := ⟨w.heap.size, 2, none⟩) HLT.out, hW0]; exact range_new w #[.string ⟨#[]⟩, .string ⟨#[]⟩, .int .i64 0] _ 2 _ rfl
    · intro i; rw [hX.frozen (p := ⟨w.heap.size, i, none⟩) HLT.out, hW0]; exact World.frozen?_alloc_at _ _ _ _ rfl
  have HW0 := hide hW0
  clear hW0
  go_enter Tryz.func39, Tryz.ntmps39
  go_wp2_with fail
  rw [← HW0.out]
  refine (H1.out W0).mono ?_
  rintro x w1 ⟨rfl, hb1⟩
  have HB1 := hide hb1
  clear hb1
  go_wp2_with fail
  refine (H2.out w1).mono ?_
  rintro x w2 ⟨rfl, hb2⟩
  have HB2 := hide (keepD HB1.out hb2)
  clear hb2
  go_wp2_with fail
  refine (H3.out w2 ((HE.out.below HBL.out).below HB2.out)).mono ?_
  rintro x w3 ⟨rfl, hb3⟩
  have HB3 := hide (keepD HB2.out hb3)
  clear hb3
  obtain ⟨c0, c1, c2, hf⟩ := HC0.out w3 HB3.out
  have f0 := hf 0
  have f1 := hf 1
  have f2 := hf 2
  clear hf
  have HBw := hide (HBL.out.trans (HB3.out.mono HBL.out.size))
  go_wp2_with fail
  refine bodyPost_ret (v := .agg #[S N1, S V1, .int .i64 A1]) (results_cell1 (b := w.heap.size) (o := 0) (cs := [S N1, S V1, .int .i64 A1]) Tryz.results39 _ rfl (three_put _ w.heap.size (S N1) (S V1) (.int .i64 A1) _ _ _ c0 c1 c2) Tryz.underlying69 rfl sizeCk) rfl ⟨rfl, ((HBw.out.setCell (p := ⟨w.heap.size, 0, none⟩) (Nat.le_refl _) _).setCell (p := ⟨w.heap.size, 1, none⟩) (Nat.le_refl _) _).setCell (p := ⟨w.heap.size, 2, none⟩) (Nat.le_refl _) _⟩

end Go.Proofs.YtefdofmllgofeaaGreatDoor.fd
