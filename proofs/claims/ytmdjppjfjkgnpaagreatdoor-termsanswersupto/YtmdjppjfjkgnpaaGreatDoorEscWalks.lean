import Derived.Test.YtmdjppjfjkgnpaaGreatDoorPctKit
namespace Go.Proofs.YtmdjppjfjkgnpaaGreatDoor.pctw
open Go.ChangeShapes Go.WideShapes Go.ChangeAt Go.RowKit Go.Proofs.YtmdjppjfjkgnpaaGreatDoor.common
attribute [local go_sem ↓] Go.wp_at_zero Go.wp_at_succ

/-- the table of the bytes that stand -/
def tabN (i : Nat) : Nat := [288054454291267584, 5188146764422578174, 0, 0].getD i 0
def Tab (w : World) : Prop := ∀ i : Nat, i < 4 → w.cell? ⟨14, i, none⟩ = some (.int .u64 (tabN i : Int))
theorem Tab.lt {w : World} (h : Tab w) : 14 < w.heap.size := World.block_lt_of_cell? w _ (h 0 (by decide))
theorem Tab.below {w w' : World} {b : Nat} (h : Tab w) (hb : Below b w w') (hB : w.heap.size ≤ b) : Tab w' := fun i hi => by
  rw [← h i hi]; exact hb.cell (Nat.lt_of_lt_of_le h.lt hB)

set_option maxRecDepth 100000 in
theorem bit_is : ∀ c : UInt8, (bits BinOp.and IntKind.u64 ((tabN (c.toNat / 64) : Int) / 2 ^ (c.toNat % 64)) 1 == 1) = Pct.unres c := Pct.u8 _ (by decide +kernel)

set_option maxHeartbeats 400000 in
theorem isUnreserved_any (c : UInt8) (w : World) (ht : Tab w) :
    Calls Tryz.prog 30 #[B c] w fun e w' => e = .returned (.bool (Pct.unres c)) ∧ w' = w := by
  have hc := c.toNat_lt
  have h1 := ht (c.toNat / 64) (by omega)
  go_enter Tryz.func30, Tryz.ntmps30
  have e := bit_is c
  go_wp2
  go_ret
  exact ⟨rfl, rfl⟩

end Go.Proofs.YtmdjppjfjkgnpaaGreatDoor.pctw
