import Derived.Test.YtbibfneofcphkaaDoorJdC1
namespace Go.Proofs.YtbibfneofcphkaaDoor.jc
open Go.ChangeShapes Go.WideShapes Go.ChangeAt Go.RowKit Go.Proofs.YtbibfneofcphkaaDoor.common Go.Proofs.YtbibfneofcphkaaDoor.Jc

/-- no date -/
abbrev z0 : Dt := ⟨0, 0, 0, 0, 0, 0, 0⟩
set_option maxRecDepth 100000 in
set_option maxHeartbeats 3200000 in
theorem civil_no (n : Int) (eA : Value) (w : World) (hA : w.cell? ⟨0, 0, none⟩ = some eA) (hn : secB n = false) : Calls Tryd.prog 8 #[.int .i64 n] w fun e w' => e = .returned (.tuple #[dv z0, eA]) ∧ Below w.heap.size w w' := by
  have HS := hide (isSecond_any n (w.alloc (.cells #[.int .i64 0, .int .i64 0, .int .i64 0, .int .i64 0, .int .i64 0, .int .i64 0, .int .i64 0] 24)))
  rw [hn] at HS
  have hA1 := cell_fr hA ((Below.refl _ _).alloc (Nat.le_refl _) (.cells #[.int .i64 0, .int .i64 0, .int .i64 0, .int .i64 0, .int .i64 0, .int .i64 0, .int .i64 0] 24))
  clear hn hA
  go_enter Tryd.func8, Tryd.ntmps8
  go_wp2_with fail
  refine HS.out.mono ?_
  rintro e w0 ⟨rfl, rfl⟩
  go_wp2_with fail
  go_region
  all_goals (go_wp2_with fail)
  all_goals (refine bodyPost_ret (v := .tuple #[.agg #[.int .i64 0, .int .i64 0, .int .i64 0, .int .i64 0, .int .i64 0, .int .i64 0, .int .i64 0], eA]) (results_cellT (b := w.heap.size) (o := 0) (cs := [.int .i64 0, .int .i64 0, .int .i64 0, .int .i64 0, .int .i64 0, .int .i64 0, .int .i64 0]) Tryd.results8 _ rfl ?_ Tryd.underlying24 rfl sizeD) rfl ⟨rfl, ?_⟩)
  all_goals first
    | exact range_of (w := (w.alloc (.cells #[.int .i64 0, .int .i64 0, .int .i64 0, .int .i64 0, .int .i64 0, .int .i64 0, .int .i64 0] 24)).drew) (t := 24) (heap_new w _)
    | exact ((Below.refl _ _).alloc (Nat.le_refl _) _).drew

set_option maxRecDepth 100000 in
set_option maxHeartbeats 3200000 in
theorem refCivil_no (n : Int) (w : World) (hn : secB n = false) : Calls Tryd.prog 17 #[.int .i64 n] w fun e w' => e = .returned (.tuple #[dv z0, .int .i64 1]) ∧ Below w.heap.size w w' := by
  by_cases h0 : n < 0
  · have k0 : decide (n < 0) = true := decide_eq_true h0
    clear hn h0
    go_enter Tryd.func17, Tryd.ntmps17
    go_wp2_with fail
    refine bodyPost_ret (v := .tuple #[.agg #[.int .i64 0, .int .i64 0, .int .i64 0, .int .i64 0, .int .i64 0, .int .i64 0, .int .i64 0], .int .i64 1]) (results_cellT (b := w.heap.size) (o := 0) (cs := [.int .i64 0, .int .i64 0, .int .i64 0, .int .i64 0, .int .i64 0, .int .i64 0, .int .i64 0]) Tryd.results17 _ rfl ?_ Tryd.underlying24 rfl sizeD) rfl ⟨rfl, ?_⟩
    · exact range_of (t := 24) (heap_new w _)
    · exact (Below.refl _ _).alloc (Nat.le_refl _) _
  · have h1 : 253402300799 < n := by
      unfold secB at hn
      simp only [Bool.and_eq_false_iff, decide_eq_false_iff_not] at hn
      omega
    have k0 : decide (n < 0) = false := decide_eq_false h0
    have k1 : decide (253402300799 < n) = true := decide_eq_true h1
    clear hn h0 h1
    go_enter Tryd.func17, Tryd.ntmps17
    go_wp2_with fail
    refine bodyPost_ret (v := .tuple #[.agg #[.int .i64 0, .int .i64 0, .int .i64 0, .int .i64 0, .int .i64 0, .int .i64 0, .int .i64 0], .int .i64 1]) (results_cellT (b := w.heap.size) (o := 0) (cs := [.int .i64 0, .int .i64 0, .int .i64 0, .int .i64 0, .int .i64 0, .int .i64 0, .int .i64 0]) Tryd.results17 _ rfl ?_ Tryd.underlying24 rfl sizeD) rfl ⟨rfl, ?_⟩
    · exact range_of (t := 24) (heap_new w _)
    · exact (Below.refl _ _).alloc (Nat.le_refl _) _

set_option maxRecDepth 100000 in
set_option maxHeartbeats 3200000 in
theorem refFixdate_no (n : Int) (w : World) (hn : secB n = false) : Calls Tryd.prog 18 #[.int .i64 n] w fun e w' => e = .returned (.tuple #[.string ⟨#[]⟩, .int .i64 1]) ∧ Below w.heap.size w w' := by
  have HD := hide (refCivil_no n w hn)
  go_enter Tryd.func18, Tryd.ntmps18
  go_wp2_with fail
  refine HD.out.mono ?_
  rintro e w1 ⟨rfl, b1⟩
  have HB1 : Hid (Below w.heap.size w (w1.alloc (ob z0))) := b1.alloc b1.size _
  clear b1
  unfold dv at *
  go_wp2_with fail
  go_ret2
  exact ⟨rfl, HB1.out⟩
end Go.Proofs.YtbibfneofcphkaaDoor.jc
