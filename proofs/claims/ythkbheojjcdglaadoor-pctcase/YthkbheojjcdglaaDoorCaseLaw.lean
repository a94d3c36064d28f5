import Derived.Test.YthkbheojjcdglaaDoorUnescLaw
import Derived.Test.YthkbheojjcdglaaDoorTurnWalks
namespace Go.Proofs.YthkbheojjcdglaaDoor.pctw
open Go.ChangeShapes Go.WideShapes Go.ChangeAt Go.RowKit Go.Proofs.YthkbheojjcdglaaDoor.common
open Go.Proofs.YthkbheojjcdglaaDoor.errw (Errs E num_nil num_1)
attribute [local go_sem ↓] Go.wp_at_zero Go.wp_at_succ

theorem three (plus : Bool) : Pct.unesc plus [37, 50, 102, 37, 50, 70, 37, 99, 51] = some [47, 47, 195] := by
  rw [Pct.unesc_pct _ _ _ _ (by decide) (by decide), Pct.unesc_pct _ _ _ _ (by decide) (by decide), Pct.unesc_pct _ _ _ _ (by decide) (by decide), Pct.unesc_nil]
  rfl

set_option maxRecDepth 100000 in
set_option maxHeartbeats 1600000 in
theorem lawCase (s : ByteArray) (plus : Bool) (w : World) (hs : s.size ≤ reachBytes) (e : Nat → Addr) (he : Errs w e) :
    Calls Tryd.prog 4 #[.agg #[.string s, .bool plus]] w fun e w' => e = .returned (.bool true) ∧ Below w.heap.size w w' := by
  have HS := hide hs
  have HE := hide he
  have H0 := hide (two_new w (.string s) (.bool plus) 23)
  clear hs he
  go_enter Tryd.func4, Tryd.ntmps4
  go_wp2_with fail
  generalize w.alloc (.cells #[.string s, .bool plus] 23) = W at *
  refine (unescape_any ⟨#[37, 50, 102, 37, 50, 70, 37, 99, 51]⟩ plus W (by decide) (e 1) (Txt.of (HE.out.below H0.out.bl))).mono ?_
  rintro x w1 ⟨hb1, ⟨t, ht, rfl⟩ | ⟨hn, rfl⟩⟩
  case inr => rw [show (⟨#[37, 50, 102, 37, 50, 70, 37, 99, 51]⟩ : ByteArray).data.toList = [37, 50, 102, 37, 50, 70, 37, 99, 51] from rfl, three] at hn; cases hn
  obtain rfl : t = [47, 47, 195] := by
    rw [show (⟨#[37, 50, 102, 37, 50, 70, 37, 99, 51]⟩ : ByteArray).data.toList = [37, 50, 102, 37, 50, 70, 37, 99, 51] from rfl, three] at ht
    exact (Option.some.inj ht).symm
  have H1 := hide (H0.out.next hb1)
  have c0 := H1.out.c0
  have c1 := H1.out.c1
  clear hb1 ht
  go_wp2_with fail
  refine (unescape_any s plus w1 HS.out (e 1) (Txt.of (HE.out.below H1.out.bl))).mono ?_
  rintro x w2 ⟨hb2, hx⟩
  obtain ⟨tv, ev, rfl⟩ : ∃ tv ev, x = .returned (.tuple #[tv, ev]) := by
    rcases hx with ⟨t, _, rfl⟩ | ⟨_, rfl⟩ <;> exact ⟨_, _, rfl⟩
  have HX := hide hx
  have H2 := hide (H1.out.next hb2)
  clear hx c0 c1 hb2
  have a1 := H2.out.c0
  have b1 := H2.out.c1
  obtain ⟨T, hT⟩ : ∃ T : ByteArray, (⟨(Pct.turned 0 s.data.toList).toArray⟩ : ByteArray) = T := ⟨_, rfl⟩
  have HTT : Hid (∀ W : World, Calls Tryd.prog 11 #[.string s] W fun x w' => x = .returned (.string T) ∧ Below W.heap.size W w') := fun W =>
    (turned_any s W HS.out).mono fun x w' h => ⟨h.1.trans (congrArg (fun b => Ending.returned (.string b)) hT), h.2⟩
  have hTs : T.size = s.size := by rw [← hT, str_size, Pct.turned_len, len_list]
  have HUU : Hid (∀ W : World, Txt W (e 1) → Calls Tryd.prog 9 #[.string T, .bool plus] W fun x w' => x = .returned (.tuple #[tv, ev]) ∧ Below W.heap.size W w') := fun W hW => by
    refine (unescape_any T plus W (by rw [hTs]; exact HS.out) (e 1) hW).mono fun x w' h => ?_
    have hu : Pct.unesc plus T.data.toList = Pct.unesc plus s.data.toList := by
      rw [← hT]; exact Pct.unesc_turned plus _ 0 (Int.le_refl _)
    rw [hu] at h
    obtain ⟨hb, h⟩ := h
    refine ⟨?_, hb⟩
    rcases h with ⟨t, ht, rfl⟩ | ⟨hn, rfl⟩
    · rcases HX.out with ⟨t', ht', hh⟩ | ⟨hn', _⟩
      · rw [ht] at ht'; cases ht'; exact hh.symm
      · rw [ht] at hn'; cases hn'
    · rcases HX.out with ⟨t', ht', _⟩ | ⟨_, hh⟩
      · rw [hn] at ht'; cases ht'
      · exact hh.symm
  have HL1 := hide H2.out.lt
  clear hT hTs
  go_wp2_with fail
  go_region_held3 (fun W => W.cell? ⟨w.heap.size, 0, none⟩ = some (.string s) ∧ W.cell? ⟨w.heap.size, 1, none⟩ = some (.bool plus))
    (first
      | go_keep
      | exact ⟨(hb4.cell (Nat.lt_of_lt_of_le HL1.out hb3.size)).trans ((hb3.cell HL1.out).trans a1), (hb4.cell (Nat.lt_of_lt_of_le HL1.out hb3.size)).trans ((hb3.cell HL1.out).trans b1)⟩
      | exact ⟨(hb3.cell HL1.out).trans a1, (hb3.cell HL1.out).trans b1⟩)
    (first
      | (go_at_call 11; refine (HTT.out _).mono ?_; rintro x w3 ⟨rfl, hb3⟩)
      | (go_at_call 9; refine (HUU.out _ (Txt.of (HE.out.below (H2.out.drew.next hb3).bl))).mono ?_; rintro x w4 ⟨rfl, hb4⟩))
  all_goals
    have H4 := hide ((H2.out.drew.next hb3).next hb4)
    clear hb3 hb4 a1 b1
  all_goals
    rcases HX.out with ⟨t, ht, hh⟩ | ⟨hn, hh⟩
    · obtain ⟨rfl, rfl⟩ : tv = S t ∧ ev = .nilIface := by cases hh; exact ⟨rfl, rfl⟩
      clear ht hh
      go_wp2_with (go_at_call 12; refine (num_nil _).mono ?_; rintro x w' ⟨rfl, rfl⟩)
      go_ret
      exact ⟨by simp, H4.out.bl⟩
    · obtain ⟨rfl, rfl⟩ : tv = .string ⟨#[]⟩ ∧ ev = X (e 1) := by cases hh; exact ⟨rfl, rfl⟩
      clear hn hh
      go_wp2_with (go_at_call 12; refine (num_1 _ e (HE.out.below H4.out.bl)).mono ?_; rintro x w' ⟨rfl, rfl⟩)
      go_ret
      exact ⟨by simp, H4.out.bl⟩

end Go.Proofs.YthkbheojjcdglaaDoor.pctw
