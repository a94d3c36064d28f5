import Derived.Test.YtocpikgcbibcoaaGreatDoorMRefPlan
import Derived.Test.YtocpikgcbibcoaaGreatDoorMSumWalks2
import Derived.WalkSpells
import Derived.WalkLawsBesides
import Derived.Outline
import Derived.Maps.AppendAt
import Derived.Deep.DeepCutAuto
namespace Go.Proofs.YtocpikgcbibcoaaGreatDoor.refw
open Go.ChangeShapes Go.WideShapes Go.ChangeAt Go.RowKit Go.Proofs.YtocpikgcbibcoaaGreatDoor.common Go.Proofs.YtocpikgcbibcoaaGreatDoor.shaw
attribute [local go_sem ↓] Go.wp_at_zero Go.wp_at_succ

/-- the eight words v lie in the first new block -/
structure At (w W : World) (v : Sha.St) : Prop where
  st : W.rangeAt w.heap.size 0 ((Sha.words v).map V)
  out : W.there w.heap.size 0 8
  below : Below w.heap.size w W

theorem At.lt {w W : World} {v : Sha.St} (h : At w W v) : w.heap.size < W.heap.size := there_lt h.out (by decide)
theorem At.over {w W W' : World} {v : Sha.St} {B : Nat} (h : At w W v) (hb : Below B W W') (hB : w.heap.size < B) : At w W' v :=
  ⟨range_below h.st hb hB, there_below h.out hb hB, h.below.trans (hb.mono (Nat.le_of_lt hB))⟩

/-- behind the plan of a piece -/
structure Planned (w W : World) (g : Nat) (v : Sha.St) (L : List (BitVec 32)) : Prop where
  at_ : At w W v
  gt : w.heap.size < g
  lt : g < W.heap.size
  plan : W.rangeAt g 0 (L.map V)

theorem Planned.over {w W W' : World} {g B : Nat} {v : Sha.St} {L : List (BitVec 32)} (h : Planned w W g v L) (hb : Below B W W') (hB : g < B) : Planned w W' g v L :=
  ⟨h.at_.over hb (Nat.lt_trans h.gt hB), h.gt, Nat.lt_of_lt_of_le h.lt hb.size, range_below h.plan hb hB⟩

theorem info8 : (Tryz.prog.info? 5).map (fun i => (i.zero, i.size, i.bytes)) = some (some (.int .u8 0), 1, 1) := by kernel_rfl

theorem own_ge {w : World} {base : Nat} {e : TypeId} {size : Nat} {v : Value} {n : Nat} {xs : List Value} (h : w.ownsRow base e size v n xs) : ∀ b, v.ownBlock = some b → base ≤ b := by
  intro b hb
  rcases h.2 with ⟨rfl, _⟩ | ⟨g, cap, cur, rfl, hg, _⟩
  · cases hb
  · cases hb; exact hg

end Go.Proofs.YtocpikgcbibcoaaGreatDoor.refw
