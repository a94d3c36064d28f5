import Derived.Test.YtocpikgcbibcoaaGreatDoorMRcMemG
import Derived.Test.YtocpikgcbibcoaaGreatDoorMRcPkB
namespace Go.Proofs.YtocpikgcbibcoaaGreatDoor.rc
open Go.ChangeShapes Go.WideShapes Go.ChangeAt Go.RowKit Go.Proofs.YtocpikgcbibcoaaGreatDoor.common Go.Proofs.YtocpikgcbibcoaaGreatDoor.dk

theorem OwnR.blk {base : Nat} {w : World} {l : List Rec} {s : List Value} {g n cap : Nat} (h : OwnR base w (.slice (some ⟨g, 0, none⟩) n cap) l s) : ∃ cs, w.heap[g]? = some (.cells cs 26 (0, 0)) ∧ l.length * 9 ≤ cs.size := by
  rcases h.row.2 with ⟨hv, _⟩ | ⟨g', cap', cur, hv, hg, hh, h1, h2, h3, h4⟩
  · cases hv
  · cases hv
    exact ⟨cur, hh, by rw [h3]; omega⟩
end Go.Proofs.YtocpikgcbibcoaaGreatDoor.rc
