import Derived.Test.YtkamnkldgeaaaaaDoorDkAct
import Derived.Test.YtkamnkldgeaaaaaDoorRdSame
namespace Go.Proofs.YtkamnkldgeaaaaaDoor.dk
open Go.ChangeShapes Go.WideShapes Go.ChangeAt Go.RowKit Go.Proofs.YtkamnkldgeaaaaaDoor.common
theorem sizeStep : (Tryd.prog.info? 38).map (·.size) = some 5 := by kernel_rfl
/-- the step that looks -/
abbrev lk : Sp := ⟨9, 0, 0, 0, ⟨#[]⟩⟩
set_option maxRecDepth 100000 in
set_option maxHeartbeats 800000 in
theorem lookS_any (w : World) : Calls Tryd.prog 15 #[] w fun r' w' => r' = .returned (spv lk) ∧ Below w.heap.size w w' := by
  go_enter Tryd.func15, Tryd.ntmps15
  go_wp2
  have HB := hide ((Below.refl w.heap.size w).alloc (Nat.le_refl _) (.cells #[.int .i64 9, .int .i64 0, .int .i64 0, .int .i64 0, .string ⟨#[]⟩] 38))
  refine bodyPost_ret (results_c rfl _ rfl (range_of (l := spc lk) (heap_alloc_new _ _)) Tryd.underlying38 rfl sizeStep) rfl ?_
  exact ⟨rfl, HB.out⟩

set_option maxRecDepth 100000 in
set_option maxHeartbeats 1600000 in
theorem same_eq (w : World) (va vb : Value) (a : An) (ha : Rd w va a.l) (hb : Rd w vb a.l) (hl : a.l.length ≤ 4611686018427387904) :
    Calls Tryd.prog 13 #[sdv va a.n a.e, sdv vb a.n a.e] w fun r' w' => r' = .returned (.bool true) ∧ Below w.heap.size w w' := by
  obtain ⟨oa, ca, rfl⟩ := ha.len
  obtain ⟨ob, cb, rfl⟩ := hb.len
  obtain ⟨l, n, m⟩ := a
  dsimp only at ha hb hl ⊢
  obtain ⟨V, hV⟩ : ∃ V, V = (w.alloc (.cells #[.slice oa l.length ca, .int .i64 n, .int .i64 (m : Int)] 45)).alloc (.cells #[.slice ob l.length cb, .int .i64 n, .int .i64 (m : Int)] 45) := ⟨_, rfl⟩
  have BV : Below w.heap.size w V := by rw [hV]; exact ((Below.refl _ _).alloc (Nat.le_refl _) _).alloc (by simp) _
  have HS := hide (sameBytes_eq V _ _ l (ha.below BV) (hb.below BV) hl)
  have HBV := hide BV
  have HV := hide hV
  clear ha hb BV hV
  go_enter Tryd.func13, Tryd.ntmps13
  go_wp2_with fail
  rw [← HV.out]
  refine HS.out.mono ?_
  rintro r' w1 ⟨rfl, b1⟩
  have HB1 := hide (keepD HBV.out b1)
  clear b1
  go_wp2
  go_ret
  exact ⟨rfl, HB1.out⟩
end Go.Proofs.YtkamnkldgeaaaaaDoor.dk
