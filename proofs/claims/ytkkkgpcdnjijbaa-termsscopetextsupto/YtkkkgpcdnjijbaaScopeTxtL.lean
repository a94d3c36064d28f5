import Derived.Test.YtkkkgpcdnjijbaaScopeTxt
import Derived.Test.YtkkkgpcdnjijbaaStrWalks
namespace Go.Proofs.Ytkkkgpcdnjijbaa.ss
open Go.ChangeShapes Go.WideShapes Go.ChangeAt Go.RowKit Go.Proofs.Ytkkkgpcdnjijbaa.common Go.Proofs.Ytkkkgpcdnjijbaa.bk
attribute [local go_sem ↓] Go.wp_at_zero Go.wp_at_succ

set_option maxRecDepth 100000 in
set_option maxHeartbeats 3200000 in
theorem lawScopeTexts (v : Value) (l : List ByteArray) (w : World) (hl : Lies w v l) (ht : tot l ≤ 1048600) :
    Calls Try.prog 8 #[v] w fun e w' => e = .returned (.bool true) ∧ Below w.heap.size w w' := by
  have HL := hide hl
  obtain ⟨ov, cv, rfl, _⟩ := hl
  have hn := len_tot l
  have HP : Hid (∀ p ∈ l, p.size ≤ 140737488355328) := fun p h => by have := tot_mem h; omega
  have htt := tot_turn l
  have HTL := hide (turnL_len l)
  go_enter Try.func8, Try.ntmps8
  go_wp2_with fail
  refine (spare_any _ l w HL.out (by omega)).mono ?_
  rintro e w1 ⟨g, cap, rfl, hg0, hg, hcap, hrow, hb1⟩
  have R1 := hide hrow
  have G1 := hide hg
  have B1 := hide hb1
  clear hrow hb1 hg
  have k0 : (0 : Int) ≤ (l.length : Int) := Int.natCast_nonneg _
  have k4 : (l.length : Int) ≤ (cap : Int) := by omega
  have k5 : l.length ≤ cap := by omega
  go_wp2_with fail
  refine (scopeText_any g cap l.length l [bh, bh] w1 rfl R1.out G1.out k5 (by omega)).mono ?_
  rintro e w2 ⟨rfl, hb2⟩
  have R2 := hide (R1.out.below hb2 G1.out)
  have G2 : Hid (g < w2.heap.size) := Nat.lt_of_lt_of_le G1.out hb2.size
  have B2 := hide (keepD B1.out hb2)
  clear hb2 R1 G1 B1
  go_wp2_with fail
  refine (copied_any _ l w2 (HL.out.below B2.out) (by omega)).mono ?_
  rintro e w3 ⟨v3, rfl, ho3, hb3⟩
  have R3 := hide (R2.out.below hb3 G2.out)
  have G3 : Hid (g < w3.heap.size) := Nat.lt_of_lt_of_le G2.out hb3.size
  have B3 := hide (keepD B2.out hb3)
  have L3 := hide (lies_of_own ho3)
  clear hb3 ho3 R2 G2 B2
  obtain ⟨oo, oc, rfl, _⟩ := L3.out
  go_wp2_with fail
  refine (refText_any _ l w3 L3.out (by omega)).mono ?_
  rintro e w4 ⟨rfl, hb4⟩
  have R4 := hide (R3.out.below hb4 G3.out)
  have G4 : Hid (g < w4.heap.size) := Nat.lt_of_lt_of_le G3.out hb4.size
  have B4 := hide (keepD B3.out hb4)
  clear hb4 R3 G3 B3 L3
  generalize joinS l = J at *
  go_wp2_with fail
  refine (kept_any g cap _ l w4 R4.out G4.out (HL.out.below B4.out) hcap (by omega)).mono ?_
  rintro e w5 ⟨rfl, hb5⟩
  have R5 := hide (R4.out.below hb5 G4.out)
  have G5 : Hid (g < w5.heap.size) := Nat.lt_of_lt_of_le G4.out hb5.size
  have B5 := hide (keepD B4.out hb5)
  clear hb5 R4 G4 B4
  go_wp2_with fail
  refine (turn_any g l.length cap l [bh, bh] w5 rfl R5.out (by omega) HP.out).mono ?_
  rintro e w6 ⟨rfl, hr6, hb6⟩
  have R6 := hide hr6
  have G6 : Hid (g < w6.heap.size) := Nat.lt_of_lt_of_le G5.out hb6.size
  have B6 := hide (keepT hg0 B5.out hb6)
  clear hb6 hr6 R5 G5 B5
  go_wp2_with fail
  refine (scopeText_any g cap l.length (turnL l) [bh, bh] w6 HTL.out R6.out G6.out (by rw [HTL.out]; exact k5) (by omega)).mono ?_
  rintro e w7 ⟨rfl, hb7⟩
  have B7 := hide (keepD B6.out hb7)
  clear hb7 R6 G6 B6
  go_wp2_with fail
  refine (copied_any _ l w7 (HL.out.below B7.out) (by omega)).mono ?_
  rintro e w8 ⟨v8, rfl, ho8, hb8⟩
  have B8 := hide (keepD B7.out hb8)
  have O8 := hide ho8
  have S7 := hide B7.out.size
  clear hb8 ho8 B7
  obtain ⟨oo, on, oc, rfl⟩ := own_form O8.out
  go_wp2_with fail
  refine (turn_own _ l w8 O8.out (by omega) HP.out).mono ?_
  rintro e w9 ⟨rfl, hl9, hb9⟩
  have B9 := hide (keepT S7.out B8.out hb9)
  have L9 := hide hl9
  clear hl9 hb9 B8 O8
  go_wp2_with fail
  refine (refText_any _ (turnL l) w9 L9.out (by omega)).mono ?_
  rintro e w10 ⟨rfl, hb10⟩
  have B10 := hide (keepD B9.out hb10)
  clear hb10 B9 L9
  generalize joinS (turnL l) = J2 at *
  go_wp2_with fail
  go_ret
  exact ⟨by simp, B10.out⟩

end Go.Proofs.Ytkkkgpcdnjijbaa.ss
