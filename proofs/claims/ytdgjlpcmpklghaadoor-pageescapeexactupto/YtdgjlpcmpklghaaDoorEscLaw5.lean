import Derived.Test.YtdgjlpcmpklghaaDoorPageText
namespace Go.Proofs.YtdgjlpcmpklghaaDoor.pg
open Go.ChangeShapes Go.WideShapes Go.ChangeAt Go.RowKit Go.Proofs.YtdgjlpcmpklghaaDoor.common
attribute [local go_sem ↓] Go.wp_at_zero Go.wp_at_succ

set_option maxRecDepth 100000 in
set_option maxHeartbeats 800000 in
theorem lawEscapeExact (s : ByteArray) (w : World) (hs : s.size ≤ 1048576) (ht : Esc w) :
    Calls Tryd.prog 3 #[.string s] w fun e w' => e = .returned (.bool true) ∧ Below w.heap.size w w' := by
  have HS := hide hs
  have HT := hide ht
  clear hs ht
  go_enter Tryd.func3, Tryd.ntmps3
  go_wp2_with fail
  refine (escape_any s w HT.out (by have := HS.out; omega)).mono ?_
  rintro x w1 ⟨rfl, hb1⟩
  have H1 := hide hb1
  clear hb1
  go_wp2_with fail
  refine (refEscape_any s w1 (by have := HS.out; omega)).mono ?_
  rintro x w2 ⟨rfl, hb2⟩
  have H2 := hide (H1.out.trans (hb2.mono H1.out.size))
  clear hb2
  go_wp2
  go_ret
  exact ⟨by simp, H2.out⟩

end Go.Proofs.YtdgjlpcmpklghaaDoor.pg
