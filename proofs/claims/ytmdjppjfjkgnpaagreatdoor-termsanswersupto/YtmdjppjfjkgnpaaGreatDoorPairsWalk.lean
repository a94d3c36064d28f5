import Derived.Test.YtmdjppjfjkgnpaaGreatDoorPctKit
namespace Go.Proofs.YtmdjppjfjkgnpaaGreatDoor.pctw
open Go.ChangeShapes Go.WideShapes Go.ChangeAt Go.RowKit Go.Proofs.YtmdjppjfjkgnpaaGreatDoor.common

abbrev X (a : Addr) : Value := .iface 101 (.pointer (some a))
def Txt (w : World) (a : Addr) : Prop := w.cell? ⟨0, 0, none⟩ = some (X a)
theorem Txt.below {w w' : World} {a : Addr} (h : Txt w a) (hb : Below w.heap.size w w') : Txt w' a := by
  unfold Txt
  rw [← h]
  exact hb.cell (World.block_lt_of_cell? w _ h)
def Mny (w : World) (a : Addr) : Prop := w.cell? ⟨1, 0, none⟩ = some (X a)
theorem Mny.below {w w' : World} {a : Addr} (h : Mny w a) (hb : Below w.heap.size w w') : Mny w' a := by
  unfold Mny
  rw [← h]
  exact hb.cell (World.block_lt_of_cell? w _ h)

end Go.Proofs.YtmdjppjfjkgnpaaGreatDoor.pctw
