import Derived.Test.YtpfamgahnphceaaDoorRefLetters
namespace Go.Proofs.YtpfamgahnphceaaDoor.radw
open Go.ChangeShapes Go.WideShapes Go.ChangeAt Go.RowKit Go.Proofs.YtpfamgahnphceaaDoor.common

theorem bit_out (l : List UInt8) (i : Nat) (h : 8 * l.length ≤ i) : Rad.bit l i = 0 := by
  unfold Rad.bit; rw [Rad.g_out (by omega)]; simp

end Go.Proofs.YtpfamgahnphceaaDoor.radw
