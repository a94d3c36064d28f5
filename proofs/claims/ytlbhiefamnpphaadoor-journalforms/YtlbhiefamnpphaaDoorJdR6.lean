import Derived.Test.YtlbhiefamnpphaaDoorJdR5
namespace Go.Proofs.YtlbhiefamnpphaaDoor.jc
open Go.ChangeShapes Go.WideShapes Go.ChangeAt Go.RowKit Go.Proofs.YtlbhiefamnpphaaDoor.common Go.Proofs.YtlbhiefamnpphaaDoor.Jc

/-- the days' names, one behind the other -/
abbrev dayB : ByteArray := ⟨#[83, 117, 110, 77, 111, 110, 84, 117, 101, 87, 101, 100, 84, 104, 117, 70, 114, 105, 83, 97, 116]⟩
theorem days_cut (k : Nat) (h : k < 7) : dayB.extract (3 * k) (3 * k + 3) = tx (wdN.getD k []) := by
  match k, h with
  | 0, _ | 1, _ | 2, _ | 3, _ | 4, _ | 5, _ | 6, _ => decide +kernel

end Go.Proofs.YtlbhiefamnpphaaDoor.jc
