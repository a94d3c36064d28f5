import Derived.Test.YtgppnklildhmbaaDoorPkS256
namespace Go.Proofs.YtgppnklildhmbaaDoor.pk
open Go.ChangeShapes Go.WideShapes Go.ChangeAt Go.RowKit Go.Proofs.YtgppnklildhmbaaDoor.common

theorem lawS256 (s : ByteArray) (w : World) (hs : s.size ≤ reachBytes) (he : Env w) (hr : EnvR w) :
    Calls Tryd.prog 6 #[.string s] w fun e w' => e = .returned (.bool true) ∧ Below w.heap.size w w' := by
  unfold reachBytes at hs
  have H1 := hide (s256_any s w (by omega) he)
  have H2 : Hid (∀ W, Below w.heap.size w W → Calls Tryd.prog 17 #[.string s] W fun e w' => e = .returned (.string (ch s)) ∧ Below W.heap.size W w') := fun W hW => refS256_any s W (by omega) (hr.below hW)
  clear he hr hs
  generalize ch s = C at *
  go_enter Tryd.func6, Tryd.ntmps6
  go_wp2_with fail
  refine H1.out.mono ?_
  rintro x w1 ⟨rfl, h1⟩
  have B1 := hide h1
  clear h1
  go_wp2_with fail
  refine (H2.out _ B1.out).mono ?_
  rintro x w2 ⟨rfl, h2⟩
  have B2 := hide (B1.out.trans (h2.mono B1.out.size))
  clear h2
  go_wp2
  go_ret
  exact ⟨by simp, B2.out⟩

end Go.Proofs.YtgppnklildhmbaaDoor.pk
