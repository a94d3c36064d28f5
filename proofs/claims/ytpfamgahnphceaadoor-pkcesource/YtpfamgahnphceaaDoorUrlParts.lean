import Derived.Test.YtpfamgahnphceaaDoorRefOut
namespace Go.Proofs.YtpfamgahnphceaaDoor.radw
open Go.ChangeShapes Go.WideShapes Go.ChangeAt Go.RowKit Go.Proofs.YtpfamgahnphceaaDoor.common
attribute [local go_sem ↓] Go.wp_at_zero Go.wp_at_succ

theorem lets_b64 (T l : List UInt8) (n : Nat) (hn : n = l.length) : lets T (Rad.bit l) 6 ((8 * n + 5) / 6) = Rad.b64 T l := by
  subst hn
  unfold lets Rad.b64 Rad.n6
  congr 1
  funext m
  rw [Rad.six_bits]

end Go.Proofs.YtpfamgahnphceaaDoor.radw
