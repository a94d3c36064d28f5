import Derived.Test.YthkbheojjcdglaaDoorRefUnesc
import Derived.Test.YthkbheojjcdglaaDoorErrWalks
import Derived.Test.YthkbheojjcdglaaDoorTextKit
namespace Go.Proofs.YthkbheojjcdglaaDoor.pctw
open Go.ChangeShapes Go.WideShapes Go.ChangeAt Go.RowKit Go.Proofs.YthkbheojjcdglaaDoor.common
open Go.Proofs.YthkbheojjcdglaaDoor.errw (Errs E num_nil num_1)

theorem Txt.of {w : World} {e : Nat → Addr} (h : Errs w e) : Txt w (e 1) := h.cell 1 (by decide)

set_option maxRecDepth 100000 in
set_option maxHeartbeats 400000 in
theorem lawUnescapes (s : ByteArray) (plus : Bool) (w : World) (hs : s.size ≤ reachBytes) (e : Nat → Addr) (he : Errs w e) :
    Calls Tryd.prog 5 #[.agg #[.string s, .bool plus]] w fun e w' => e = .returned (.bool true) ∧ Below w.heap.size w w' := by
  have HS := hide hs
  have HE := hide he
  have H0 := hide (two_new w (.string s) (.bool plus) 23)
  clear hs he
  go_enter Tryd.func5, Tryd.ntmps5
  go_wp2_with fail
  generalize w.alloc (.cells #[.string s, .bool plus] 23) = W at *
  generalize w.heap.size = b at *
  refine (unescape_any s plus W HS.out (e 1) (Txt.of (HE.out.below H0.out.bl))).mono ?_
  rintro x w1 ⟨hb1, ⟨t, ht, rfl⟩ | ⟨hn, rfl⟩⟩
  · have H1 := hide (H0.out.next hb1)
    have c0 := H1.out.c0
    have c1 := H1.out.c1
    have HT := hide ht
    clear hb1 ht
    go_wp2_with fail
    refine (refUnescape_any s plus w1 HS.out).mono ?_
    rintro x w2 ⟨hb2, ⟨t', ht', rfl⟩ | ⟨hn, rfl⟩⟩
    · have H2 := hide (H1.out.next hb2)
      obtain rfl : t = t' := Option.some.inj (HT.out.symm.trans ht')
      clear hb2 ht' c0 c1
      go_wp2_with (go_at_call 12; refine (num_nil _).mono ?_; rintro x w' ⟨rfl, rfl⟩)
      go_ret
      exact ⟨rfl, H2.out.bl⟩
    · rw [HT.out] at hn; cases hn
  · have H1 := hide (H0.out.next hb1)
    have c0 := H1.out.c0
    have c1 := H1.out.c1
    have HN := hide hn
    clear hb1 hn
    go_wp2_with fail
    refine (refUnescape_any s plus w1 HS.out).mono ?_
    rintro x w2 ⟨hb2, ⟨t', ht', rfl⟩ | ⟨hn, rfl⟩⟩
    · rw [HN.out] at ht'; cases ht'
    · have H2 := hide (H1.out.next hb2)
      clear hb2 c0 c1
      go_wp2_with (go_at_call 12; refine (num_1 _ e (HE.out.below H2.out.bl)).mono ?_; rintro x w' ⟨rfl, rfl⟩)
      go_ret
      exact ⟨rfl, H2.out.bl⟩

end Go.Proofs.YthkbheojjcdglaaDoor.pctw
