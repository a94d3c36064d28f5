import Derived.Test.YthkbheojjcdglaaDoorPctKit
namespace Go.Proofs.YthkbheojjcdglaaDoor.pctw
open Go.ChangeShapes Go.WideShapes Go.ChangeAt Go.RowKit Go.Proofs.YthkbheojjcdglaaDoor.common

theorem cellsText : Tryd.prog.cellsOf 23 = 2 := by kernel_rfl

/-- a struct of two cells, laid in memory -/
structure Two (w0 w : World) (b : Nat) (x y : Value) : Prop where
  c0 : w.cell? ⟨b, 0, none⟩ = some x
  c1 : w.cell? ⟨b, 1, none⟩ = some y
  bl : Below w0.heap.size w0 w
  lt : b < w.heap.size

theorem two_new (w : World) (x y : Value) (t : TypeId) : Two w (w.alloc (.cells #[x, y] t)) w.heap.size x y := by
  refine ⟨?_, ?_, (Below.refl _ _).alloc (Nat.le_refl _) _, by simp⟩
  · exact range_new w #[x, y] t 0 x rfl
  · exact range_new w #[x, y] t 1 y rfl

theorem Two.next {w0 w w' : World} {b : Nat} {x y : Value} (h : Two w0 w b x y) (hb : Below w.heap.size w w') : Two w0 w' b x y :=
  ⟨(hb.cell h.lt).trans h.c0, (hb.cell h.lt).trans h.c1, h.bl.trans (hb.mono h.bl.size), Nat.lt_of_lt_of_le h.lt hb.size⟩
theorem Two.drew {w0 w : World} {b : Nat} {x y : Value} (h : Two w0 w b x y) : Two w0 w.drew b x y := ⟨h.c0, h.c1, h.bl.drew, h.lt⟩

end Go.Proofs.YthkbheojjcdglaaDoor.pctw
