import Derived.Test.YticncaoecoehkaaDoorRows
import Derived.Test.YticncaoecoehkaaDoorCrcP
namespace Go.Proofs.YticncaoecoehkaaDoor.crcw
open Go.ChangeShapes Go.WideShapes Go.ChangeAt Go.RowKit

theorem gTab : Tryd.prog.globalNamed "usher/sums.crcSteps" = some 13 := by kernel_rfl
theorem gTabType : (Tryd.prog.globals[13]?).map (·.type) = some 118 := by kernel_rfl
theorem cellsT : Tryd.prog.cellsOf 118 = 16 := by kernel_rfl
theorem cellsE : Tryd.prog.cellsOf 110 = 1 := by kernel_rfl

theorem tab {W : World} {rest : List (String × DataW Unit)} (h : laidMet Tryd.prog (("usher/sums.crcSteps", Rows.laid_usher_sums_crcSteps) :: rest) W) : Tab W := by
  have t : Lib.TabIs Tryd.prog W "usher/sums.crcSteps" .u32 [0, 498536548, 997073096, 651767980, 1994146192, 1802195444, 1303535960, 1342533948, 3988292384, 4027552580, 3604390888, 3412177804, 2607071920, 2262029012, 2685067896, 3183342108] :=
    Lib.tabIs_of_head (rest := rest) gTab gTabType Tryd.underlying118 Tryd.underlying110 cellsE cellsT h
  intro i hi
  have h1 := t.cell gTab i (by simpa using hi)
  rw [h1]
  have e : ∀ k : Fin 16, ([0, 498536548, 997073096, 651767980, 1994146192, 1802195444, 1303535960, 1342533948, 3988292384, 4027552580, 3604390888, 3412177804, 2607071920, 2262029012, 2685067896, 3183342108] : List Int).getD k.val 0 = ((Crc.table.getD k.val 0#32).toNat : Int) := by decide
  rw [e ⟨i, hi⟩]

/-- the table's block is there -/
theorem Tab.lt {w : World} (h : Tab w) : 13 < w.heap.size := by
  have := h 0 (by decide)
  apply Decidable.byContradiction
  intro hn
  simp [World.cell?, Array.getElem?_eq_none (show w.heap.size ≤ 13 by omega)] at this

theorem Tab.below {w w' : World} {B : Nat} (h : Tab w) (hb : Below B w w') (hB : 13 < B) : Tab w' := fun i hi => by
  rw [← h i hi]
  exact hb.cell hB

theorem Tab.alloc {w : World} (h : Tab w) (o : Obj) : Tab (w.alloc o) := h.below ((Below.refl w.heap.size w).alloc (Nat.le_refl _) o) h.lt

end Go.Proofs.YticncaoecoehkaaDoor.crcw
