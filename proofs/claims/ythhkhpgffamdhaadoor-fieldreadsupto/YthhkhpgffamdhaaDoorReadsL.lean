import Derived.Test.YthhkhpgffamdhaaDoorRefRd
import Derived.Test.YthhkhpgffamdhaaDoorErrWalks
namespace Go.Proofs.YthhkhpgffamdhaaDoor.fd
open Go.ChangeShapes Go.WideShapes Go.ChangeAt Go.RowKit Go.Proofs.YthhkhpgffamdhaaDoor.common Go.Proofs.YthhkhpgffamdhaaDoor.bk
attribute [local go_sem ↓] Go.wp_at_zero Go.wp_at_succ

set_option maxRecDepth 100000 in
set_option maxHeartbeats 3200000 in
theorem lawReads (s : ByteArray) (w : World) (hs : s.size ≤ 1048576) (e : Nat → Addr) (he : errw.Errs w e) (henv : Env6 w (e 1)) :
    Calls Tryd.prog 8 #[.string s] w fun x w' => x = .returned (.bool true) ∧ Below w.heap.size w w' := by
  have HE := hide he
  have HRS := hide (readSet_any s w (e 1) (by omega) henv)
  clear he henv
  go_enter Tryd.func8, Tryd.ntmps8
  go_wp2_with fail
  refine HRS.out.mono ?_
  rintro x w1 ⟨hro, hb1⟩
  have HB1 := hide hb1
  clear hb1 HRS
  have H3 : Hid (∀ W, Calls Tryd.prog 26 #[.string s] W fun e w' => RdOut s.data.toList (.int .i64 2) (.int .i64 0) e ∧ Below W.heap.size W w') := fun W => refReadSet_any s W hs
  rcases hro with ⟨n, v, m, hg, rfl⟩ | ⟨hno, rfl⟩
  · have HG := hide hg
    have HC : Hid (ckC n v m = .agg #[.string n, .string v, .int .i64 m]) := rfl
    rw [HC.out]
    clear hg
    obtain ⟨x0, x1, x2, hbl⟩ := box3 w1 (.string n) (.string v) (.int .i64 m) 52
    have HB2 := hide (keepD HB1.out hbl)
    clear hbl
    go_wp2_with fail
    generalize w1.alloc (.cells #[.string n, .string v, .int .i64 m] 52) = W1 at *
    refine (H3.out W1).mono ?_
    rintro x w2 ⟨hro, hb2⟩
    rcases hro with ⟨n2, v2, m2, hg2, rfl⟩ | ⟨hno, _⟩
    · obtain ⟨rfl, rfl, rfl⟩ := good_eq hg2 HG.out
      rw [HC.out]
      obtain ⟨y0, y1, y2, hbl2⟩ := box3 w2 (.string n2) (.string v2) (.int .i64 m2) 52
      have HB3 := hide (keepD (keepD HB2.out hb2) hbl2)
      have z0 := x0 _ (keepD hb2 hbl2)
      have z1 := x1 _ (keepD hb2 hbl2)
      have z2 := x2 _ (keepD hb2 hbl2)
      have u0 := y0 _ (Below.refl _ _)
      have u1 := y1 _ (Below.refl _ _)
      have u2 := y2 _ (Below.refl _ _)
      clear hbl2 hb2 x0 x1 x2 y0 y1 y2 hg2
      go_wp2_with (go_at_call 15; refine (errw.num_nil _).mono ?_; rintro x w3 ⟨rfl, rfl⟩)
      go_ret
      exact ⟨by simp, HB3.out⟩
    · exact absurd HG.out (hno _ _ _)
  · have HNO := hide hno
    have HC : Hid (ckC ⟨#[]⟩ ⟨#[]⟩ 0 = .agg #[.string ⟨#[]⟩, .string ⟨#[]⟩, .int .i64 0]) := rfl
    rw [HC.out]
    clear hno
    obtain ⟨x0, x1, x2, hbl⟩ := box3 w1 (.string ⟨#[]⟩) (.string ⟨#[]⟩) (.int .i64 0) 52
    have HB2 := hide (keepD HB1.out hbl)
    clear hbl
    go_wp2_with fail
    generalize w1.alloc (.cells #[.string ⟨#[]⟩, .string ⟨#[]⟩, .int .i64 0] 52) = W1 at *
    refine (H3.out W1).mono ?_
    rintro x w2 ⟨hro, hb2⟩
    rcases hro with ⟨n2, v2, m2, hg2, _⟩ | ⟨_, rfl⟩
    · exact absurd hg2 (HNO.out _ _ _)
    · rw [HC.out]
      obtain ⟨y0, y1, y2, hbl2⟩ := box3 w2 (.string ⟨#[]⟩) (.string ⟨#[]⟩) (.int .i64 0) 52
      have HB3 := hide (keepD (keepD HB2.out hb2) hbl2)
      have z0 := x0 _ (keepD hb2 hbl2)
      have z1 := x1 _ (keepD hb2 hbl2)
      have z2 := x2 _ (keepD hb2 hbl2)
      have u0 := y0 _ (Below.refl _ _)
      have u1 := y1 _ (Below.refl _ _)
      have u2 := y2 _ (Below.refl _ _)
      clear hbl2 hb2 x0 x1 x2 y0 y1 y2
      go_wp2_with (go_at_call 15; refine (errw.num_1 _ e (HE.out.below HB3.out)).mono ?_; rintro x w3 ⟨rfl, rfl⟩)
      go_ret
      exact ⟨by simp, HB3.out⟩

end Go.Proofs.YthhkhpgffamdhaaDoor.fd
