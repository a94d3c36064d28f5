import Derived.Test.YtocpikgcbibcoaaGreatDoorMPickWalk
namespace Go.Proofs.YtocpikgcbibcoaaGreatDoor.rc
open Go.ChangeShapes Go.WideShapes Go.ChangeAt Go.RowKit Go.Proofs.YtocpikgcbibcoaaGreatDoor.common Go.Proofs.YtocpikgcbibcoaaGreatDoor.dk

theorem Lo.below {w w' : World} {v : Value} {l : List UInt8} (h : Lo w.heap.size w v l) (b : Below w.heap.size w w') : Lo w'.heap.size w' v l := by
  obtain ⟨oa, cap, rfl, hc, h⟩ := h
  exact ⟨oa, cap, rfl, hc, fun h0 => by
    obtain ⟨g, o, e1, e2, _, e4⟩ := h h0
    have := b.size
    exact ⟨g, o, e1, by omega, by omega, range_block e4 (b.block g e2)⟩⟩
theorem lies_none (w : World) : Go.Proofs.YtocpikgcbibcoaaGreatDoor.ss.Lies w (.slice none 0 0) [] := ⟨none, 0, rfl, fun j hj => absurd hj (Nat.not_lt_zero j)⟩

end Go.Proofs.YtocpikgcbibcoaaGreatDoor.rc
