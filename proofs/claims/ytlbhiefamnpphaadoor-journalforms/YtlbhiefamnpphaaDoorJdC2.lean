import Derived.Test.YtlbhiefamnpphaaDoorJdC1
namespace Go.Proofs.YtlbhiefamnpphaaDoor.jc
open Go.ChangeShapes Go.WideShapes Go.ChangeAt Go.RowKit Go.Proofs.YtlbhiefamnpphaaDoor.common Go.Proofs.YtlbhiefamnpphaaDoor.Jc

/-- no date -/
abbrev z0 : Dt := ⟨0, 0, 0, 0, 0, 0, 0⟩
set_option maxRecDepth 100000 in
set_option maxHeartbeats 3200000 in
theorem civil_no (n : Int) (eA : Value) (w : World) (hA : w.cell? ⟨0, 0, none⟩ = some eA) (hn : secB n = false) : Calls Tryd.prog 5 #[.int .i64 n] w fun e w' => e = .returned (.tuple #[dv z0, eA]) ∧ Below w.heap.size w w' := by
  have HS := hide (isSecond_any n (w.alloc (.cells #[.int .i64 0, .int .i64 0, .int .i64 0, .int .i64 0, .int .i64 0, .int .i64 0, .int .i64 0] 26)))
  rw [hn] at HS
  have hA1 := cell_fr hA ((Below.refl _ _).alloc (Nat.le_refl _) (.cells #[.int .i64 0, .int .i64 0, .int .i64 0, .int .i64 0, .int .i64 0, .int .i64 0, .int .i64 0] 26))
  clear hn hA
  go_enter Tryd.func5, Tryd.ntmps5
  go_wp2_with fail
  refine HS.out.mono ?_
  rintro e w0 ⟨rfl, rfl⟩
  go_wp2_with fail
  go_region
  all_goals (go_wp2_with fail)
  all_goals (refine bodyPost_ret (v := .tuple #[.agg #[.int .i64 0, .int .i64 0, .int .i64 0, .int .i64 0, .int .i64 0, .int .i64 0, .int .i64 0], eA]) (results_cellT (b := w.heap.size) (o := 0) (cs := [.int .i64 0, .int .i64 0, .int .i64 0, .int .i64 0, .int .i64 0, .int .i64 0, .int .i64 0]) Tryd.results5 _ rfl ?_ Tryd.underlying26 rfl sizeD) rfl ⟨rfl, ?_⟩)
  all_goals first
    | exact range_of (w := (w.alloc (.cells #[.int .i64 0, .int .i64 0, .int .i64 0, .int .i64 0, .int .i64 0, .int .i64 0, .int .i64 0] 26)).drew) (t := 26) (heap_new w _)
    | exact ((Below.refl _ _).alloc (Nat.le_refl _) _).drew

end Go.Proofs.YtlbhiefamnpphaaDoor.jc
