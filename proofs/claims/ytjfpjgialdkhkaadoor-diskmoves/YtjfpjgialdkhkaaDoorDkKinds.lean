import Derived.Test.YtjfpjgialdkhkaaDoorDkPair
namespace Go.Proofs.YtjfpjgialdkhkaaDoor.dk
open Go.ChangeShapes Go.WideShapes Go.ChangeAt Go.RowKit Go.Proofs.YtjfpjgialdkhkaaDoor.common

abbrev stc (s : Sp) : Obj := .cells #[.int .i64 s.k, .int .i64 s.o, .int .i64 s.n, .int .i64 s.m, .string s.t] 33
/-- is the step an operation? -/
def opB (s : Sp) : Bool := decide (1 ≤ s.k) && decide (s.k ≤ 4)
theorem fld0 (o : Option Addr) (l c : Nat) (n m : Int) (W : World) : (Instr.field 30 (.agg #[.slice o l c, .int .i64 n, .int .i64 m]) 0).run Tryd.prog W = .ok (.slice o l c) W := by kernel_rfl
theorem fld1 (o : Option Addr) (l c : Nat) (n m : Int) (W : World) : (Instr.field 30 (.agg #[.slice o l c, .int .i64 n, .int .i64 m]) 1).run Tryd.prog W = .ok (.int .i64 n) W := by kernel_rfl
theorem fld2 (o : Option Addr) (l c : Nat) (n m : Int) (W : World) : (Instr.field 30 (.agg #[.slice o l c, .int .i64 n, .int .i64 m]) 2).run Tryd.prog W = .ok (.int .i64 m) W := by kernel_rfl
set_option maxRecDepth 100000 in
set_option maxHeartbeats 800000 in
theorem operation_any (w : World) (s : Sp) : Calls Tryd.prog 33 #[spv s] w fun r' w' => r' = .returned (.bool (opB s)) ∧ Below w.heap.size w w' := by
  have HB := hide ((Below.refl w.heap.size w).alloc (Nat.le_refl _) (stc s))
  unfold opB
  by_cases h1 : 1 ≤ s.k
  · have e1 : decide (1 ≤ s.k) = true := decide_eq_true h1
    by_cases h4 : s.k ≤ 4
    · have e4 : decide (s.k ≤ 4) = true := decide_eq_true h4
      rw [e1, e4]
      go_enter Tryd.func33, Tryd.ntmps33
      go_wp2
      go_ret
      exact ⟨rfl, HB.out⟩
    · have e4 : decide (s.k ≤ 4) = false := decide_eq_false h4
      rw [e1, e4]
      go_enter Tryd.func33, Tryd.ntmps33
      go_wp2
      go_ret
      exact ⟨rfl, HB.out⟩
  · have e1 : decide (1 ≤ s.k) = false := decide_eq_false h1
    rw [e1]
    go_enter Tryd.func33, Tryd.ntmps33
    go_wp2
    go_ret
    exact ⟨rfl, HB.out⟩
set_option maxHeartbeats 800000 in
theorem roomy_any (w : World) (n : Int) : Calls Tryd.prog 13 #[.int .i64 n] w fun r' w' => r' = .returned (.int .i64 (roomOf n : Int)) ∧ w' = w := by
  have e : (roomOf n : Int) = if n < 0 then 0 else if 1073741824 < n then 1073741824 else n := by
    unfold roomOf
    split
    · rfl
    · split
      · rfl
      · omega
  rw [e]
  by_cases h0 : n < 0
  · rw [if_pos h0]
    go_enter Tryd.func13, Tryd.ntmps13
    go_wp2
    go_ret
    exact ⟨rfl, rfl⟩
  · rw [if_neg h0]
    by_cases h1 : 1073741824 < n
    · rw [if_pos h1]
      go_enter Tryd.func13, Tryd.ntmps13
      go_wp2
      go_ret
      exact ⟨rfl, rfl⟩
    · rw [if_neg h1]
      go_enter Tryd.func13, Tryd.ntmps13
      go_wp2
      go_ret
      exact ⟨rfl, rfl⟩
end Go.Proofs.YtjfpjgialdkhkaaDoor.dk
