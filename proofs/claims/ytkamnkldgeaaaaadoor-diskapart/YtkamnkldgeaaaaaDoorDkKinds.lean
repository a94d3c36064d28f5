import Derived.Test.YtkamnkldgeaaaaaDoorDkPair
namespace Go.Proofs.YtkamnkldgeaaaaaDoor.dk
open Go.ChangeShapes Go.WideShapes Go.ChangeAt Go.RowKit Go.Proofs.YtkamnkldgeaaaaaDoor.common

abbrev stc (s : Sp) : Obj := .cells #[.int .i64 s.k, .int .i64 s.o, .int .i64 s.n, .int .i64 s.m, .string s.t] 38
/-- is the step an operation? -/
def opB (s : Sp) : Bool := decide (1 ≤ s.k) && decide (s.k ≤ 4)
theorem fld0 (o : Option Addr) (l c : Nat) (n m : Int) (W : World) : (Instr.field 45 (.agg #[.slice o l c, .int .i64 n, .int .i64 m]) 0).run Tryd.prog W = .ok (.slice o l c) W := by kernel_rfl
theorem fld1 (o : Option Addr) (l c : Nat) (n m : Int) (W : World) : (Instr.field 45 (.agg #[.slice o l c, .int .i64 n, .int .i64 m]) 1).run Tryd.prog W = .ok (.int .i64 n) W := by kernel_rfl
theorem fld2 (o : Option Addr) (l c : Nat) (n m : Int) (W : World) : (Instr.field 45 (.agg #[.slice o l c, .int .i64 n, .int .i64 m]) 2).run Tryd.prog W = .ok (.int .i64 m) W := by kernel_rfl
end Go.Proofs.YtkamnkldgeaaaaaDoor.dk
