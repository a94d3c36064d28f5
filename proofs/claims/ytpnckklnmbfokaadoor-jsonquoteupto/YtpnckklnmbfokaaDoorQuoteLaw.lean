import Derived.Test.YtpnckklnmbfokaaDoorRefQuote2
import Derived.Test.YtpnckklnmbfokaaDoorJsonLaid
namespace Go.Proofs.YtpnckklnmbfokaaDoor.jw
open Go.ChangeShapes Go.WideShapes Go.ChangeAt Go.RowKit Go.Proofs.YtpnckklnmbfokaaDoor.common
open Go.Proofs.YtpnckklnmbfokaaDoor.errw (Errs E num_nil num_1)
attribute [local go_sem ↓] Go.wp_at_zero Go.wp_at_succ

theorem Txt.of {w : World} {e : Nat → Addr} (h : Errs w e) : Txt w (e 1) := h.cell 1 (by decide)

set_option maxRecDepth 100000 in
set_option maxHeartbeats 1600000 in
theorem lawQuote (s : ByteArray) (w : World) (hs : s.size ≤ 1048576) (hS : Short w) (hT : Tabs w) (e : Nat → Addr) (he : Errs w e) :
    Calls Tryd.prog 3 #[.string s] w fun e w' => e = .returned (.bool true) ∧ Below w.heap.size w w' := by
  have HS := hide hS
  have HT := hide hT
  have HE := hide he
  clear hS hT he
  go_enter Tryd.func3, Tryd.ntmps3
  go_wp2_with fail
  refine (quote_any s w HS.out HT.out (e 1) (Txt.of HE.out) (by omega)).mono ?_
  rintro x w1 ⟨rfl, hb1⟩
  have HB1 := hide hb1
  clear hb1
  by_cases hv : Lib.validD s.data.toList = true
  · rw [if_pos hv]
    go_wp2_with fail
    refine (refQuote_any s w1 (by omega)).mono ?_
    rintro x w2 ⟨rfl, hb2⟩
    have HB2 := hide (HB1.out.trans (hb2.mono HB1.out.size))
    rw [if_pos hv]
    clear hb2
    go_wp2_with (go_at_call 11; refine (num_nil _).mono ?_; rintro x w' ⟨rfl, rfl⟩)
    go_ret
    exact ⟨rfl, HB2.out⟩
  · rw [if_neg hv]
    go_wp2_with fail
    refine (refQuote_any s w1 (by omega)).mono ?_
    rintro x w2 ⟨rfl, hb2⟩
    have HB2 := hide (HB1.out.trans (hb2.mono HB1.out.size))
    rw [if_neg hv]
    clear hb2
    go_wp2_with (go_at_call 11; refine (num_1 _ e (HE.out.below HB2.out)).mono ?_; rintro x w' ⟨rfl, rfl⟩)
    go_ret
    exact ⟨rfl, HB2.out⟩
end Go.Proofs.YtpnckklnmbfokaaDoor.jw
