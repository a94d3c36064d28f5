import Derived.Test.YthkbheojjcdglaaDoorEscapeW
import Derived.Test.YthkbheojjcdglaaDoorPctTab
import Derived.Test.YthkbheojjcdglaaDoorTextKit
import Derived.Test.YthkbheojjcdglaaDoorUnescWalks
namespace Go.Proofs.YthkbheojjcdglaaDoor.pctw
open Go.ChangeShapes Go.WideShapes Go.ChangeAt Go.RowKit Go.Proofs.YthkbheojjcdglaaDoor.common
attribute [local go_sem ↓] Go.wp_at_zero Go.wp_at_succ

set_option maxRecDepth 100000 in
set_option maxHeartbeats 1600000 in
theorem lawBack (s : ByteArray) (plus : Bool) (w : World) (hs : 3 * s.size ≤ 140737488351232) (ht : Tab w) (ea : Addr) (he : Txt w ea) :
    Calls Tryd.prog 7 #[.agg #[.string s, .bool plus]] w fun e w' => e = .returned (.bool true) ∧ Below w.heap.size w w' := by
  have HS := hide hs
  have HT := hide ht
  have HE := hide he
  have H0 := hide (two_new w (.string s) (.bool plus) 23)
  clear hs ht he
  go_enter Tryd.func7, Tryd.ntmps7
  go_wp2_with fail
  generalize w.alloc (.cells #[.string s, .bool plus] 23) = W at *
  refine (escape_any s plus W (HT.out.below H0.out.bl (Nat.le_refl _)) (by have := HS.out; omega)).mono ?_
  rintro x w1 ⟨rfl, hb1⟩
  have H1 := hide (H0.out.next hb1)
  have c0 := H1.out.c0
  have c1 := H1.out.c1
  clear hb1
  obtain ⟨Y, hY0⟩ : ∃ Y : ByteArray, (⟨(Pct.esc plus s.data.toList).toArray⟩ : ByteArray) = Y := ⟨_, rfl⟩
  rw [show S (Pct.esc plus s.data.toList) = .string Y from congrArg Value.string hY0]
  have HY : Hid (Y.size ≤ 3 * s.size) := by
    show _ ≤ _
    rw [← hY0, str_size]; have := (Pct.esc_len plus s.data.toList).2; rw [len_list] at this; exact this
  have HYB : Hid (Pct.unesc plus Y.data.toList = some s.data.toList) := by show _ = _; rw [← hY0]; exact Pct.back plus s.data.toList
  clear hY0
  go_wp2_with fail
  refine (unescape_any Y plus w1 (by have := HS.out; have := HY.out; unfold reachBytes; omega) ea (HE.out.below H1.out.bl)).mono ?_
  rintro x w2 ⟨hb2, ⟨t, ht, rfl⟩ | ⟨hn, rfl⟩⟩
  · have H2 := hide (H1.out.next hb2)
    have d0 := H2.out.c0
    rw [show S t = .string s from congrArg Value.string (str_eq t s (Option.some.inj (HYB.out.symm.trans ht)).symm)]
    clear hb2 ht c0 c1
    go_wp2_with fail
    go_ret
    exact ⟨by simp, H2.out.bl⟩
  · rw [HYB.out] at hn; cases hn

end Go.Proofs.YthkbheojjcdglaaDoor.pctw
