import Derived.Test.YtkamnkldgeaaaaaDoorDrQd
import Derived.Test.YtkamnkldgeaaaaaDoorDrNew
import Derived.Deep.RegionHeld3
namespace Go.Proofs.YtkamnkldgeaaaaaDoor.dr
open Go.ChangeShapes Go.WideShapes Go.ChangeAt Go.RowKit Go.Proofs.YtkamnkldgeaaaaaDoor.common Go.Proofs.YtkamnkldgeaaaaaDoor.dk

abbrev scvQ (room : Int) (data : ByteArray) (other : Int) (vs : Value) : Value := .agg #[.int .i64 room, .string data, .int .i64 other, vs]
theorem step_listQ (x : St) (s : Sp) (h : Fine x) : (x.step s).2.l.length ≤ 4611686018427387904 := by
  have h1 := h.ok.most
  unfold St.step
  repeat' split
  · exact Nat.zero_le _
  · exact Nat.zero_le _
  · show x.readL.length ≤ _
    unfold St.readL
    split
    · omega
    · exact Nat.zero_le _
  · exact Nat.zero_le _
  · exact Nat.zero_le _
  · exact Nat.zero_le _
  · exact Nat.zero_le _
  · exact Nat.zero_le _
  · show x.b.length ≤ _; omega
  · exact Nat.zero_le _

theorem sq_new (l : List UInt8) (r : Nat) : sq ⟨l, l.length, r, [], false⟩ = ⟨l, [], r, [], false⟩ := by
  unfold sq
  dsimp only
  rw [List.take_length, List.drop_length]

end Go.Proofs.YtkamnkldgeaaaaaDoor.dr
