import Derived.Test.YthkbheojjcdglaaDoorAppEsc
namespace Go.Proofs.YthkbheojjcdglaaDoor.pctw
open Go.ChangeShapes Go.WideShapes Go.ChangeAt Go.RowKit Go.Proofs.YthkbheojjcdglaaDoor.common
attribute [local go_sem ↓] Go.wp_at_zero Go.wp_at_succ

set_option maxRecDepth 100000 in
set_option maxHeartbeats 800000 in
theorem escape_any (s : ByteArray) (plus : Bool) (w : World) (ht : Tab w) (hs : 3 * s.size ≤ 140737488355328) :
    Calls Tryd.prog 14 #[.string s, .bool plus] w fun e w' => e = .returned (S (Pct.esc plus s.data.toList)) ∧ Below w.heap.size w w' := by
  obtain ⟨i0, hi, hz0, hz1, hz2⟩ := info_parts info8
  have HT := hide ht
  have HS := hide hs
  clear ht
  go_enter Tryd.func14, Tryd.ntmps14
  go_wp2_with (refine wpList_make_own _ rfl _ _ 36 rfl w.heap.size 5 i0 (.int .u8 0) 1 Tryd.underlying36 hi hz0 hz1 .i64 .i64 (s.size : Int) s.size ?c1 ?c2 ?c3 ?c4 ?c5 ?c6 ?_)
  case c1 => rfl
  case c2 => rfl
  case c3 => rfl
  case c4 => rw [hz2]; omega
  case c5 => unfold maxLen; omega
  case c6 => omega
  intro w1 hown hgrow
  have hb0 := (Below.refl w.heap.size w).grown hgrow (Nat.le_refl _) (fun k e => by cases e)
  have HO := hide hown
  have HB := hide hb0
  clear hown hgrow hb0 hi hz0 hz1 hz2
  go_wp2_with fail
  refine (appendEscaped_any w.heap.size _ [] s plus w1 HO.out HB.out.size HT.out.lt (HT.out.below HB.out (Nat.le_refl _)) (by have := HS.out; simp; omega)).mono ?_
  rintro x w2 ⟨v', rfl, hown, hb2, _⟩
  have hconv := conv_own hown rfl
  have H2 := hide (HB.out.trans hb2)
  rw [List.nil_append] at hconv
  clear hown hb2
  go_wp2
  go_ret
  exact ⟨rfl, H2.out⟩

end Go.Proofs.YthkbheojjcdglaaDoor.pctw
