import Derived.Test.YtdgjlpcmpklghaaDoorRefUnesc5
import Derived.Test.YtdgjlpcmpklghaaDoorErrWalks
namespace Go.Proofs.YtdgjlpcmpklghaaDoor.pg
open Go.ChangeShapes Go.WideShapes Go.ChangeAt Go.RowKit Go.Proofs.YtdgjlpcmpklghaaDoor.common
open Go.Proofs.YtdgjlpcmpklghaaDoor.errw (Errs E num_nil num_1)
attribute [local go_sem ↓] Go.wp_at_zero Go.wp_at_succ

theorem Txt.of {w : World} {e : Nat → Addr} (h : Errs w e) : Txt w (e 1) := h.cell 1 (by decide)

set_option maxRecDepth 100000 in
set_option maxHeartbeats 800000 in
theorem lawUnescapeExact (s : ByteArray) (w : World) (hs : s.size ≤ 1048576) (ht : Esc w) (e : Nat → Addr) (he : Errs w e) :
    Calls Tryd.prog 5 #[.string s] w fun e w' => e = .returned (.bool true) ∧ Below w.heap.size w w' := by
  have HS := hide hs
  have HT := hide ht
  have HE := hide he
  clear hs ht he
  go_enter Tryd.func5, Tryd.ntmps5
  go_wp2_with fail
  refine (unescape_any s w (by have := HS.out; omega) HT.out (e 1) (Txt.of HE.out)).mono ?_
  rintro x w1 ⟨hb1, hx⟩
  have H1 := hide hb1
  clear hb1
  rcases hx with ⟨t, ht, rfl⟩ | ⟨hn, rfl⟩
  · have HTT := hide ht
    clear ht
    go_wp2_with fail
    refine (refUnescape_any s w1 (by have := HS.out; omega)).mono ?_
    rintro x w2 ⟨hb2, ⟨t', ht', rfl⟩ | ⟨hn, rfl⟩⟩
    · have H2 := hide (H1.out.trans (hb2.mono H1.out.size))
      obtain rfl : t = t' := Option.some.inj (HTT.out.symm.trans ht')
      clear hb2 ht'
      go_wp2_with (go_at_call 12; refine (num_nil _).mono ?_; rintro x w' ⟨rfl, rfl⟩)
      go_ret
      exact ⟨rfl, H2.out⟩
    · rw [HTT.out] at hn; cases hn
  · have HN := hide hn
    clear hn
    go_wp2_with fail
    refine (refUnescape_any s w1 (by have := HS.out; omega)).mono ?_
    rintro x w2 ⟨hb2, ⟨t', ht', rfl⟩ | ⟨hn, rfl⟩⟩
    · rw [HN.out] at ht'; cases ht'
    · have H2 := hide (H1.out.trans (hb2.mono H1.out.size))
      clear hb2
      go_wp2_with (go_at_call 12; refine (num_1 _ e (HE.out.below H2.out)).mono ?_; rintro x w' ⟨rfl, rfl⟩)
      go_ret
      exact ⟨rfl, H2.out⟩

end Go.Proofs.YtdgjlpcmpklghaaDoor.pg
