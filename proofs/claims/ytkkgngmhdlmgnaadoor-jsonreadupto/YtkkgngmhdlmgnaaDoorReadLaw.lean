import Derived.Test.YtkkgngmhdlmgnaaDoorRefReadC
import Derived.Test.YtkkgngmhdlmgnaaDoorErrWalks
import Derived.Test.YtkkgngmhdlmgnaaDoorSameM
namespace Go.Proofs.YtkkgngmhdlmgnaaDoor.jw
open Go.ChangeShapes Go.WideShapes Go.ChangeAt Go.RowKit Go.Proofs.YtkkgngmhdlmgnaaDoor.common
open Go.Proofs.YtkkgngmhdlmgnaaDoor.errw (Errs num_nil num_1 num_2 num_3)
attribute [local go_sem ↓] Go.wp_at_zero Go.wp_at_succ

theorem read_code (l : List UInt8) : (Json.read l).1 = 0 ∨ (Json.read l).1 = 2 ∨ (Json.read l).1 = 3 ∨ (Json.read l).1 = 4 := by
  unfold Json.read
  split
  · exact Or.inr (Or.inl rfl)
  · split
    · exact Or.inr (Or.inr (Or.inl rfl))
    · split
      · exact Or.inr (Or.inr (Or.inr rfl))
      · exact Or.inl rfl
theorem read_len (l : List UInt8) : (Json.read l).2.length ≤ 32 := by
  unfold Json.read
  split
  · exact Nat.zero_le _
  · split
    · exact Nat.zero_le _
    · rename_i h
      split
      · exact Nat.zero_le _
      · exact Nat.le_of_not_lt h
theorem num_errV (w : World) (e : Nat → Addr) (he : Errs w e) (c : Nat) (hc : c = 0 ∨ c = 2 ∨ c = 3 ∨ c = 4) :
    Calls Tryd.prog 9 #[errV e c] w fun x w' => x = .returned (.int .i64 (c : Int)) ∧ w' = w := by
  rcases hc with rfl | rfl | rfl | rfl
  · exact num_nil w
  · exact num_1 w e he
  · exact num_2 w e he
  · exact num_3 w e he

set_option maxRecDepth 100000 in
set_option maxHeartbeats 1600000 in
theorem lawRead (s : ByteArray) (w : World) (hs : s.size ≤ 1048576) (e : Nat → Addr) (hB : Base w e) (hE : Errs w e) :
    Calls Tryd.prog 3 #[.string s] w fun x w' => x = .returned (.bool true) ∧ Below w.heap.size w w' := by
  have HB := hide hB
  have HE := hide hE
  have HS := hide hs
  clear hB hE hs
  go_enter Tryd.func3, Tryd.ntmps3
  go_wp2_with fail
  refine (readB HB.out (by unfold reachBytes; have := HS.out; omega)).mono ?_
  rintro x w1 ⟨⟨mv, rfl, hown1⟩, hb1⟩
  have H1 := hide hb1
  have HL1 := hide (lies_of_own hown1)
  obtain ⟨oa, cap, rfl⟩ := own_form hown1
  clear hb1 hown1
  generalize hev : errV e (Json.read s.data.toList).1 = ev
  have HEV := hide hev
  clear hev
  go_wp2_with fail
  refine (refRead_any s w1 (by have := HS.out; omega)).mono ?_
  rintro x w2 ⟨⟨v2, rfl, mv2, rfl, hown2⟩, hb2⟩
  have H2 := hide (H1.out.trans (hb2.mono H1.out.size))
  have HL2 := hide (HL1.out.below hb2)
  have HM2 := hide (lies_of_own hown2)
  have hlen := hide ((read_len s.data.toList))
  obtain ⟨oa2, cap2, rfl⟩ := own_form hown2
  clear hb2 hown2
  have HC := hide (read_code s.data.toList)
  generalize (Json.read s.data.toList).1 = c at *
  generalize (Json.read s.data.toList).2 = ms at *
  go_wp2_with fail
  refine (sameM_any _ _ ms w2 HL2.out HM2.out (by have := hlen.out; omega)).mono ?_
  rintro x w3 ⟨rfl, hb3⟩
  have H3 := hide (H2.out.trans (hb3.mono H2.out.size))
  clear hb3
  go_wp2_with fail
  rw [← HEV.out]
  refine (num_errV _ e (HE.out.below H3.out) c HC.out).mono ?_
  rintro x w4 ⟨rfl, hw4⟩
  obtain rfl := hw4
  go_wp2
  go_ret
  exact ⟨by simp, H3.out⟩
end Go.Proofs.YtkkgngmhdlmgnaaDoor.jw
