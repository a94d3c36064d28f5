import Derived.Test.YtgppnklildhmbaaDoorPkChal
import Derived.Test.YtgppnklildhmbaaDoorPkRefV
namespace Go.Proofs.YtgppnklildhmbaaDoor.pk
open Go.ChangeShapes Go.WideShapes Go.ChangeAt Go.RowKit Go.Proofs.YtgppnklildhmbaaDoor.common

set_option maxHeartbeats 800000 in
theorem lawGrammar (s : ByteArray) (w : World) (ht : Tab w) :
    Calls Tryd.prog 3 #[.string s] w fun e w' => e = .returned (.bool true) ∧ Below w.heap.size w w' := by
  have H1 := hide (refVerifier_any s w)
  have H2 := hide (verifier_any s w ht)
  have H3 := hide (challenge_any s w ht)
  clear ht
  generalize Pk.proof s.data.toList = t at *
  go_enter Tryd.func3, Tryd.ntmps3
  go_wp2_with fail
  refine H1.out.mono ?_
  rintro x w1 ⟨rfl, h1⟩
  obtain rfl := h1.symm
  go_wp2_with fail
  refine H2.out.mono ?_
  rintro x w2 ⟨rfl, h2⟩
  obtain rfl := h2.symm
  go_wp2_with fail
  refine H3.out.mono ?_
  rintro x w3 ⟨rfl, h3⟩
  obtain rfl := h3.symm
  go_wp2
  go_ret
  exact ⟨rfl, Below.refl _ _⟩

end Go.Proofs.YtgppnklildhmbaaDoor.pk
