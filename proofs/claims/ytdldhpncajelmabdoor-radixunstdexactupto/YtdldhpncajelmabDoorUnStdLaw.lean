import Derived.Test.YtdldhpncajelmabDoorUnStdWalks
import Derived.Test.YtdldhpncajelmabDoorRefUnStd
namespace Go.Proofs.YtdldhpncajelmabDoor.radw
open Go.ChangeShapes Go.WideShapes Go.ChangeAt Go.RowKit Go.Proofs.YtdldhpncajelmabDoor.common
open Go.Proofs.YtdldhpncajelmabDoor.errw (Errs E num_nil num_1)

set_option maxRecDepth 100000 in
set_option maxHeartbeats 400000 in
theorem lawUnStdExact (s : ByteArray) (w : World) (hs : s.size ≤ 1048576) (e : Nat → Addr) (he : Errs w e) (ht : StdTab w) :
    Calls Tryd.prog 4 #[.string s] w fun e w' => e = .returned (.bool true) ∧ Below w.heap.size w w' := by
  have HS := hide hs
  have HT := hide ht
  have HE := hide he
  clear hs ht he
  go_enter Tryd.func4, Tryd.ntmps4
  go_wp2_with fail
  refine (unstd_any s w (by have := HS.out; unfold reachBytes; omega) (e 1) (Txt.of HE.out) HT.out).mono ?_
  rintro x w1 ⟨hb1, h1⟩
  have HB1 := hide hb1
  clear hb1
  rcases h1 with ⟨hv, rfl⟩ | ⟨hno, rfl⟩
  · have HV := hide hv
    clear hv
    go_wp2_with fail
    refine (refUnStd_any s w1 HS.out).mono ?_
    rintro x w2 ⟨hb2, ⟨_, rfl⟩ | ⟨hno, rfl⟩⟩
    · have HB2 := hide (HB1.out.trans (hb2.mono HB1.out.size))
      clear hb2
      go_wp2_with (go_at_call 10; refine (num_nil _).mono ?_; rintro x w' ⟨rfl, rfl⟩)
      go_ret
      exact ⟨rfl, HB2.out⟩
    · exact absurd HV.out hno
  · have HN := hide hno
    clear hno
    go_wp2_with fail
    refine (refUnStd_any s w1 HS.out).mono ?_
    rintro x w2 ⟨hb2, ⟨hv, rfl⟩ | ⟨_, rfl⟩⟩
    · exact absurd hv HN.out
    · have HB2 := hide (HB1.out.trans (hb2.mono HB1.out.size))
      clear hb2
      go_wp2_with (go_at_call 10; refine (num_1 _ e (HE.out.below HB2.out)).mono ?_; rintro x w' ⟨rfl, rfl⟩)
      go_ret
      exact ⟨rfl, HB2.out⟩

end Go.Proofs.YtdldhpncajelmabDoor.radw
