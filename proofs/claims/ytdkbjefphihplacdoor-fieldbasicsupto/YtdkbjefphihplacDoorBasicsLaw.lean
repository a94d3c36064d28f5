import Derived.Test.YtdkbjefphihplacDoorRefBasic
import Derived.Test.YtdkbjefphihplacDoorErrWalks
namespace Go.Proofs.YtdkbjefphihplacDoor.fd
open Go.ChangeShapes Go.WideShapes Go.ChangeAt Go.RowKit Go.Proofs.YtdkbjefphihplacDoor.common Go.Proofs.YtdkbjefphihplacDoor.bk
attribute [local go_sem ↓] Go.wp_at_zero Go.wp_at_succ

theorem basics_both (ok : Bool) (xt xs : Value) (l : List UInt8) : (basicV ok xt xs l = failV xt ∧ basicN ok l = failN 2) ∨ (basicV ok xt xs l = failV xs ∧ basicN ok l = failN 5) ∨ (∃ a b, basicV ok xt xs l = .tuple #[S a, S b, .nilIface] ∧ basicN ok l = .tuple #[S a, S b, .int .i64 0]) := by
  unfold basicV basicN
  by_cases h1 : l.takeWhile Fd.tok = []
  · rw [if_pos h1, if_pos h1]; exact Or.inl ⟨rfl, rfl⟩
  · rw [if_neg h1, if_neg h1]
    by_cases h2 : Fd.lows (l.takeWhile Fd.tok) = Fd.lows nameL
    · rw [if_pos h2, if_pos h2]
      unfold credV credN
      generalize l.dropWhile Fd.tok = r
      by_cases h3 : r.takeWhile isBl = []
      · rw [if_pos h3, if_pos h3]; exact Or.inl ⟨rfl, rfl⟩
      · rw [if_neg h3, if_neg h3]
        generalize codedL (r.dropWhile isBl) = c
        cases h4 : (ok && c.contains 58) with
        | false => exact Or.inl ⟨rfl, rfl⟩
        | true =>
          rw [if_pos rfl, if_pos rfl]
          unfold unV unN
          cases Pct.unesc true (before 58 c) with
          | none => exact Or.inl ⟨rfl, rfl⟩
          | some a =>
            cases Pct.unesc true (behind 58 c) with
            | none => exact Or.inl ⟨rfl, rfl⟩
            | some b => exact Or.inr (Or.inr ⟨a, b, rfl, rfl⟩)
    · rw [if_neg h2, if_neg h2]; exact Or.inr (Or.inl ⟨rfl, rfl⟩)

set_option maxRecDepth 100000 in
set_option maxHeartbeats 3200000 in
theorem lawBasics (s : ByteArray) (w : World) (hs : s.size ≤ 1048576) (e : Nat → Addr) (he : errw.Errs w e) (ht : radw.StdTab w) :
    Calls Tryd.prog 3 #[.string s] w fun x w' => x = .returned (.bool true) ∧ Below w.heap.size w w' := by
  have h1 : Ev 0 w (X (e 1)) := he.cell 1 (by decide)
  have h4 : Ev 1 w (X (e 4)) := he.cell 4 (by decide)
  have HB := hide (basic_any s w (by unfold reachBytes; omega) (e 1) (e 4) h1 h4 ht)
  have HRB := hide (fun W => refBasic_any s W hs)
  have HE := hide he
  clear h1 h4 ht he
  go_enter Tryd.func3, Tryd.ntmps3
  go_wp2_with fail
  refine HB.out.mono ?_
  rintro x w1 ⟨⟨ok, hok, rfl⟩, hb1⟩
  have HB1 := hide hb1
  have HOK := hide hok
  clear hb1 hok HB
  rcases basics_both ok (X (e 1)) (X (e 4)) s.data.toList with ⟨h1, h2⟩ | ⟨h1, h2⟩ | ⟨a, b, h1, h2⟩
  · rw [h1]
    have H2 := hide h2
    clear h1 h2
    unfold failV
    go_wp2_with fail
    refine (HRB.out w1).mono ?_
    rintro x w2 ⟨⟨ok2, hok2, rfl⟩, hb2⟩
    have ho : ok2 = ok := Bool.eq_iff_iff.2 (hok2.trans HOK.out.symm)
    have HB2 := hide (keepD HB1.out hb2)
    rw [ho, H2.out]
    clear ho hok2 hb2
    unfold failN
    go_wp2_with fail
    refine (errw.num_1 w2 e (HE.out.below HB2.out)).mono ?_
    rintro x w3 ⟨rfl, rfl⟩
    go_wp2_with fail
    go_ret
    exact ⟨rfl, HB2.out⟩
  · rw [h1]
    have H2 := hide h2
    clear h1 h2
    unfold failV
    go_wp2_with fail
    refine (HRB.out w1).mono ?_
    rintro x w2 ⟨⟨ok2, hok2, rfl⟩, hb2⟩
    have ho : ok2 = ok := Bool.eq_iff_iff.2 (hok2.trans HOK.out.symm)
    have HB2 := hide (keepD HB1.out hb2)
    rw [ho, H2.out]
    clear ho hok2 hb2
    unfold failN
    go_wp2_with fail
    refine (errw.num_4 w2 e (HE.out.below HB2.out)).mono ?_
    rintro x w3 ⟨rfl, rfl⟩
    go_wp2_with fail
    go_ret
    exact ⟨rfl, HB2.out⟩
  · rw [h1]
    have H2 := hide h2
    clear h1 h2
    go_wp2_with fail
    refine (HRB.out w1).mono ?_
    rintro x w2 ⟨⟨ok2, hok2, rfl⟩, hb2⟩
    have ho : ok2 = ok := Bool.eq_iff_iff.2 (hok2.trans HOK.out.symm)
    have HB2 := hide (keepD HB1.out hb2)
    rw [ho, H2.out]
    clear ho hok2 hb2
    go_wp2_with fail
    refine (errw.num_nil w2).mono ?_
    rintro x w3 ⟨rfl, rfl⟩
    go_wp2_with fail
    go_ret
    exact ⟨rfl, HB2.out⟩

end Go.Proofs.YtdkbjefphihplacDoor.fd
