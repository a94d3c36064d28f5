import Derived.Test.YtkamnkldgeaaaaaDoorRdKit
import Derived.BigQuiet
namespace Go.Proofs.YtkamnkldgeaaaaaDoor.dk
open Go.ChangeShapes Go.WideShapes Go.ChangeAt Go.RowKit Go.Proofs.YtkamnkldgeaaaaaDoor.common
set_option maxRecDepth 100000 in
set_option maxHeartbeats 1600000 in
theorem sameBytes_eq (w : World) (va vb : Value) (l : List UInt8) (ha : Rd w va l) (hb : Rd w vb l) (hl : l.length ≤ 4611686018427387904) :
    Calls Tryd.prog 7 #[va, vb] w fun r' w' => r' = .returned (.bool true) ∧ Below w.heap.size w w' := by
  obtain ⟨oa, ca, rfl⟩ := ha.len
  obtain ⟨ob, cb, rfl⟩ := hb.len
  have HA := hide ha
  have HB := hide hb
  clear ha hb
  go_enter Tryd.func7, Tryd.ntmps7
  go_wp2
  go_loopw [5] (fun i wr => ∃ k : Nat, k ≤ l.length ∧ i = .int .i64 k ∧ ∃ n, wr = w.drewN n) (fun i _ => l.length - (intOf i).toNat)
  case atStart => exact ⟨0, Nat.zero_le _, rfl, 0, rfl⟩
  case round =>
    obtain ⟨k, hk, rfl, n, rfl⟩ := hrel
    by_cases hlt : k < l.length
    · obtain ⟨ga, o1, rfl, h1⟩ := HA.out.cell (by omega)
      obtain ⟨gb, o2, rfl, h2⟩ := HB.out.cell (by omega)
      have c1 : w.cell? ⟨ga, o1 + k, none⟩ = some (B l[k]) := h1 k hlt
      have c2 : w.cell? ⟨gb, o2 + k, none⟩ = some (B l[k]) := h2 k hlt
      have k0 : (0 : Int) ≤ (k : Int) := Int.natCast_nonneg _
      have k1 : (k : Int) < (l.length : Int) := by omega
      clear h1 h2
      generalize l[k] = x at *
      go_wp2_with fail
      go_quiet (fail)
      go_wp2
      go_roundw
      case rel => exact ⟨k + 1, by omega, by go_num, _, rfl⟩
      case measure => simp [intOf]; omega
    · obtain rfl : k = l.length := by omega
      go_wp2
      go_ret
      exact ⟨rfl, bdN (Below.refl _ _) _⟩

end Go.Proofs.YtkamnkldgeaaaaaDoor.dk
