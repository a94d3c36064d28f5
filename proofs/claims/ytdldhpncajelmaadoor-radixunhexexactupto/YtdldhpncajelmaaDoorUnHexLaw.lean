import Derived.Test.YtdldhpncajelmaaDoorUnHexWalks
import Derived.Test.YtdldhpncajelmaaDoorRefUnHex
namespace Go.Proofs.YtdldhpncajelmaaDoor.radw
open Go.ChangeShapes Go.WideShapes Go.ChangeAt Go.RowKit Go.Proofs.YtdldhpncajelmaaDoor.common
open Go.Proofs.YtdldhpncajelmaaDoor.errw (Errs E num_nil num_1)

set_option maxHeartbeats 400000 in
theorem lawUnHexExact (s : ByteArray) (w : World) (hs : s.size ≤ 1048576) (e : Nat → Addr) (he : Errs w e) (ht : HexTab w) :
    Calls Tryd.prog 8 #[.string s] w fun e w' => e = .returned (.bool true) ∧ Below w.heap.size w w' := by
  have HS := hide hs
  have HT := hide ht
  have HE := hide he
  clear hs ht he
  go_enter Tryd.func8, Tryd.ntmps8
  go_wp2_with fail
  refine (unhex_any s w (by have := HS.out; unfold reachBytes; omega) e HE.out HT.out).mono ?_
  rintro x w1 ⟨hb1, h1⟩
  have HB1 := hide hb1
  clear hb1
  rcases h1 with ⟨hv, hev, rfl⟩ | ⟨hno, rfl⟩
  · have HV := hide hv
    have HEV := hide hev
    clear hv hev
    go_wp2_with fail
    refine (refUnHex_any s w1 HS.out).mono ?_
    rintro x w2 ⟨hb2, ⟨_, _, rfl⟩ | ⟨hno, rfl⟩⟩
    · have HB2 := hide (HB1.out.trans (hb2.mono HB1.out.size))
      clear hb2
      go_wp2_with (go_at_call 18; refine (num_nil _).mono ?_; rintro x w' ⟨rfl, rfl⟩)
      go_ret
      exact ⟨rfl, HB2.out⟩
    · exact absurd ⟨HV.out, HEV.out⟩ hno
  · have HN := hide hno
    clear hno
    go_wp2_with fail
    refine (refUnHex_any s w1 HS.out).mono ?_
    rintro x w2 ⟨hb2, ⟨hv, hev, rfl⟩ | ⟨_, rfl⟩⟩
    · exact absurd ⟨hv, hev⟩ HN.out
    · have HB2 := hide (HB1.out.trans (hb2.mono HB1.out.size))
      clear hb2
      go_wp2_with (go_at_call 18; refine (num_1 _ e (HE.out.below HB2.out)).mono ?_; rintro x w' ⟨rfl, rfl⟩)
      go_ret
      exact ⟨rfl, HB2.out⟩

end Go.Proofs.YtdldhpncajelmaaDoor.radw
