import Derived.Test.YtdgjlpcmpklghaaDoorEscBack5
import Derived.Test.YtdgjlpcmpklghaaDoorUnescLaw5
namespace Go.Proofs.YtdgjlpcmpklghaaDoor.pg
open Go.ChangeShapes Go.WideShapes Go.ChangeAt Go.RowKit Go.Proofs.YtdgjlpcmpklghaaDoor.common
open Go.Proofs.YtdgjlpcmpklghaaDoor.errw (Errs E num_nil num_1)
attribute [local go_sem ↓] Go.wp_at_zero Go.wp_at_succ

set_option maxRecDepth 100000 in
set_option maxHeartbeats 1600000 in
theorem lawEscapeOnly (s : ByteArray) (w : World) (hs : s.size ≤ 1048576) (ht : Esc w) (e : Nat → Addr) (he : Errs w e) :
    Calls Tryd.prog 6 #[.string s] w fun e w' => e = .returned (.bool true) ∧ Below w.heap.size w w' := by
  have HS := hide hs
  have HT := hide ht
  have HE := hide he
  clear hs ht he
  go_enter Tryd.func6, Tryd.ntmps6
  go_wp2_with fail
  refine (lawEscapeBack s w HS.out HT.out (e 1) (Txt.of HE.out)).mono ?_
  rintro x w1 ⟨rfl, hb1⟩
  have H1 := hide hb1
  have HT1 := hide (HT.out.next hb1)
  have HE1 := hide (HE.out.below hb1)
  clear hb1
  go_wp2_with fail
  refine (unescape_any s w1 (by have := HS.out; omega) HT1.out (e 1) (Txt.of HE1.out)).mono ?_
  rintro x w2 ⟨hb2, hx⟩
  have H2 := hide (H1.out.trans (hb2.mono H1.out.size))
  have HT2 := hide (HT1.out.next hb2)
  have HE2 := hide (HE1.out.below hb2)
  clear hb2
  rcases hx with ⟨t, ht, rfl⟩ | ⟨hn, rfl⟩
  · have HO := hide (Pg.only_esc ht)
    have HL := hide (Pg.unesc_len ht)
    rw [len_list] at HL
    clear ht
    obtain ⟨Y, hY⟩ : ∃ Y : ByteArray, (⟨t.toArray⟩ : ByteArray) = Y := ⟨_, rfl⟩
    have HYl : Hid (Y.data.toList = t) := by show _ = _; rw [← hY]
    have HYs : Hid (Y.size = t.length) := by show _ = _; rw [← hY, str_size]
    unfold S
    rw [hY]
    clear hY
    go_wp2_with fail
    refine (escape_any Y w2 HT2.out (by have := HS.out; have := HL.out; have := HYs.out; omega)).mono ?_
    rintro x w3 ⟨rfl, hb3⟩
    have H3 := hide (H2.out.trans (hb3.mono H2.out.size))
    clear hb3
    rw [HYl.out, HO.out]
    rw [show S s.data.toList = .string s from rfl]
    go_wp2
    go_ret
    exact ⟨by simp, H3.out⟩
  · clear hn
    go_wp2_with (go_at_call 12; refine (num_1 _ e HE2.out).mono ?_; rintro x w' ⟨rfl, rfl⟩)
    go_ret
    exact ⟨rfl, H2.out⟩

end Go.Proofs.YtdgjlpcmpklghaaDoor.pg
