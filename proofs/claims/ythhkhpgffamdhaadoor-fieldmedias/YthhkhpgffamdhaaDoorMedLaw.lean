import Derived.Test.YthhkhpgffamdhaaDoorRefMed3
import Derived.Test.YthhkhpgffamdhaaDoorErrWalks
namespace Go.Proofs.YthhkhpgffamdhaaDoor.fd
open Go.ChangeShapes Go.WideShapes Go.ChangeAt Go.RowKit Go.Proofs.YthhkhpgffamdhaaDoor.common Go.Proofs.YthhkhpgffamdhaaDoor.bk
attribute [local go_sem ↓] Go.wp_at_zero Go.wp_at_succ

set_option maxRecDepth 100000 in
set_option maxHeartbeats 3200000 in
theorem lawMedias (s : ByteArray) (w : World) (hs : s.size ≤ 140737488355328) (e : Nat → Addr) (he : errw.Errs w e) :
    Calls Tryd.prog 4 #[.string s] w fun x w' => x = .returned (.bool true) ∧ Below w.heap.size w w' := by
  have HE := hide he
  have H1 := hide (media_any s w hs (e 1) (he.cell 1 (by decide)))
  have H2 := hide (fun W => refMedia_any s W hs)
  clear he
  cases hm : medR s.data.toList with
  | none =>
    have e1 : medV s.data.toList (X (e 1)) = .tuple #[.string ⟨#[]⟩, X (e 1)] := by unfold medV; rw [hm]
    rw [e1] at H1
    rw [medN_none hm] at H2
    clear e1 hm
    go_enter Tryd.func4, Tryd.ntmps4
    go_wp2_with fail
    refine H1.out.mono ?_
    rintro x w1 ⟨rfl, hb1⟩
    have HB1 := hide hb1
    clear hb1
    go_wp2_with fail
    refine (H2.out w1).mono ?_
    rintro x w2 ⟨rfl, hb2⟩
    have HB2 := hide (keepD HB1.out hb2)
    clear hb2
    go_wp2_with (go_at_call 15; refine (errw.num_1 _ e (HE.out.below HB2.out)).mono ?_; rintro x w3 ⟨rfl, rfl⟩)
    go_ret
    exact ⟨by simp, HB2.out⟩
  | some t =>
    have e1 : medV s.data.toList (X (e 1)) = .tuple #[S t, .nilIface] := by unfold medV; rw [hm]
    rw [e1] at H1
    rw [medN_some hm] at H2
    clear e1 hm
    go_enter Tryd.func4, Tryd.ntmps4
    go_wp2_with fail
    refine H1.out.mono ?_
    rintro x w1 ⟨rfl, hb1⟩
    have HB1 := hide hb1
    clear hb1
    go_wp2_with fail
    refine (H2.out w1).mono ?_
    rintro x w2 ⟨rfl, hb2⟩
    have HB2 := hide (keepD HB1.out hb2)
    clear hb2
    go_wp2_with (go_at_call 15; refine (errw.num_nil _).mono ?_; rintro x w3 ⟨rfl, rfl⟩)
    go_ret
    exact ⟨by simp, HB2.out⟩

end Go.Proofs.YthhkhpgffamdhaaDoor.fd
