import Derived.Test.YthkbheojjcdglaaDoorEscapeW
import Derived.Test.YthkbheojjcdglaaDoorPctTab
import Derived.Test.YthkbheojjcdglaaDoorTextKit
namespace Go.Proofs.YthkbheojjcdglaaDoor.pctw
open Go.ChangeShapes Go.WideShapes Go.ChangeAt Go.RowKit Go.Proofs.YthkbheojjcdglaaDoor.common
attribute [local go_sem ↓] Go.wp_at_zero Go.wp_at_succ

set_option maxRecDepth 100000 in
set_option maxHeartbeats 1600000 in
theorem lawEscapes (s : ByteArray) (plus : Bool) (w : World) (hs : 3 * s.size ≤ 140737488355328) (ht : Tab w) :
    Calls Tryd.prog 8 #[.agg #[.string s, .bool plus]] w fun e w' => e = .returned (.bool true) ∧ Below w.heap.size w w' := by
  have HS := hide hs
  have HT := hide ht
  have H0 := hide (two_new w (.string s) (.bool plus) 23)
  clear hs ht
  go_enter Tryd.func8, Tryd.ntmps8
  go_wp2_with fail
  generalize w.alloc (.cells #[.string s, .bool plus] 23) = wx at *
  have a1 := H0.out.c0
  have b1 := H0.out.c1
  have HL1 := hide H0.out.lt
  have HW := hide H0.out.bl
  go_region_held3 (fun W => W.cell? ⟨w.heap.size, 0, none⟩ = some (.string s) ∧ W.cell? ⟨w.heap.size, 1, none⟩ = some (.bool plus))
    (first
      | go_keep
      | exact ⟨(hb3.cell (Nat.lt_of_lt_of_le HL1.out hb2.size)).trans ((hb2.cell HL1.out).trans a1), (hb3.cell (Nat.lt_of_lt_of_le HL1.out hb2.size)).trans ((hb2.cell HL1.out).trans b1)⟩
      | exact ⟨(hb2.cell HL1.out).trans a1, (hb2.cell HL1.out).trans b1⟩)
    (first
      | (go_at_call 14; refine (escape_any s plus _ (HT.out.below HW.out.drew (Nat.le_refl _)) HS.out).mono ?_; rintro e w2 ⟨rfl, hb2⟩)
      | (go_at_call 16; refine (refEscape_any s plus _ HS.out).mono ?_; rintro e w3 ⟨rfl, hb3⟩))
  have KW : Hid (Below w.heap.size w w3) := (HW.out.drew.trans (hb2.mono HW.out.size)).trans (hb3.mono (Nat.le_trans HW.out.size hb2.size))
  clear hb2 hb3 a1 b1
  go_wp2
  go_ret
  exact ⟨by simp, KW.out⟩

end Go.Proofs.YthkbheojjcdglaaDoor.pctw
