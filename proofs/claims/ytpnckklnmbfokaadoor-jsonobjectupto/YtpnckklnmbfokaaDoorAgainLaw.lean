import Derived.Test.YtpnckklnmbfokaaDoorBegun
namespace Go.Proofs.YtpnckklnmbfokaaDoor.jw
open Go.ChangeShapes Go.WideShapes Go.ChangeAt Go.RowKit Go.Proofs.YtpnckklnmbfokaaDoor.common
attribute [local go_sem ↓] Go.wp_at_zero Go.wp_at_succ

theorem own_form {w : World} {b : Nat} {t : TypeId} {z : Nat} {v : Value} {n : Nat} {xs : List Value} (h : w.ownsRow b t z v n xs) : ∃ oa cap, v = .slice oa n cap := by
  rcases h.2 with ⟨hv, h0⟩ | ⟨g, cap, cur, hv, _⟩
  · exact ⟨none, 0, by rw [hv, h0]⟩
  · exact ⟨_, cap, hv⟩
/-- a refusal comes with no members -/
theorem read_none {l : List UInt8} (h : (Json.read l).1 ≠ 0) : (Json.read l).2 = [] := by
  revert h
  unfold Json.read
  split
  · intro _; rfl
  · split
    · intro _; rfl
    · split
      · intro _; rfl
      · intro h; exact absurd rfl h
theorem read_zero {l : List UInt8} (h : (Json.read l).1 = 0) : Json.read l = (0, (Json.read l).2) := by rw [← h]
theorem errV_no {e : Nat → Addr} {c : Nat} (h : c ≠ 0) : ∃ a, errV e c = X a := ⟨_, if_neg h⟩

set_option maxRecDepth 100000 in
set_option maxHeartbeats 3200000 in
theorem lawAgain (s : ByteArray) (w : World) (hs : s.size ≤ 1048576) (e : Nat → Addr) (h : Base w e) :
    Calls Tryd.prog 5 #[.string s] w fun x w' => x = .returned (.bool true) ∧ Below w.heap.size w w' := by
  have HB := hide h
  clear h
  go_enter Tryd.func5, Tryd.ntmps5
  go_wp2_with fail
  refine (begun_any w e HB.out).mono ?_
  rintro x w1 ⟨rfl, hb1⟩
  have HX1 := hide hb1
  clear hb1
  go_wp2_with fail
  refine (readB (HB.out.below HX1.out) (by unfold reachBytes; omega)).mono ?_
  rintro x w2 ⟨⟨mv, rfl, hown2⟩, hb2⟩
  have HX2 := hide (HX1.out.trans (hb2.mono HX1.out.size))
  clear hb2
  by_cases hc : (Json.read s.data.toList).1 = 0
  · have hz := read_zero hc
    obtain ⟨ms, hms⟩ : ∃ ms, (Json.read s.data.toList).2 = ms := ⟨_, rfl⟩
    rw [hms] at hz hown2
    obtain ⟨hck, hrg, hbm⟩ := Json.read_ok hz
    have htt := read_tot hz
    have hl32 := (read_room hz).1
    rw [len_list] at htt
    have hev : errV e (Json.read s.data.toList).1 = .nilIface := if_pos hc
    rw [hev]
    have HL2 := hide (lies_of_own hown2)
    have HCK := hide hck
    have HRG := hide hrg
    have HBM := hide hbm
    obtain ⟨oa, cap, rfl⟩ := own_form hown2
    clear hc hz hms hck hrg hbm hev hown2
    go_wp2_with fail
    refine (objectB (HB.out.below HX2.out) HL2.out (by omega) HRG.out (by omega)).mono ?_
    rintro x w3 ⟨rfl, hb3⟩
    have hans : objAns e ms = .tuple #[S (Json.objOf ms), .nilIface] := by unfold objAns; rw [if_pos HCK.out]
    rw [hans]
    have HX3 := hide (HX2.out.trans (hb3.mono HX2.out.size))
    have HL3 := hide (HL2.out.below hb3)
    have hol := obj_len ms HRG.out
    have HRB : Hid (Json.read (Json.objOf ms) = (0, ms)) := by
      show _ = _
      rw [Json.read_back ms HCK.out HRG.out, HBM.out]
    clear hb3 hans
    go_wp2_with fail
    refine (readB (s := ⟨(Json.objOf ms).toArray⟩) (HB.out.below HX3.out) (by rw [str_size]; unfold reachBytes; omega)).mono ?_
    rintro x w4 ⟨⟨mv4, rfl, hown4⟩, hb4⟩
    rw [str_list, HRB.out] at hown4
    rw [str_list, HRB.out]
    have hev : errV e (0, ms).1 = .nilIface := rfl
    rw [hev]
    have HX4 := hide (HX3.out.trans (hb4.mono HX3.out.size))
    have HL4 := hide (HL3.out.below hb4)
    have HM4 := hide (lies_of_own hown4)
    obtain ⟨oa4, cap4, rfl⟩ := own_form hown4
    clear hb4 hown4 hev
    go_wp2_with fail
    refine (objectB (HB.out.below HX4.out) HM4.out (by omega) HRG.out (by omega)).mono ?_
    rintro x w5 ⟨rfl, hb5⟩
    have hans : objAns e ms = .tuple #[S (Json.objOf ms), .nilIface] := by unfold objAns; rw [if_pos HCK.out]
    rw [hans]
    have HX5 := hide (HX4.out.trans (hb5.mono HX4.out.size))
    have HL5 := hide (HL4.out.below hb5)
    have HM5 := hide (HM4.out.below hb5)
    clear hb5 hans
    go_wp2_with fail
    refine (sameM_any _ _ ms w5 HL5.out HM5.out (by omega)).mono ?_
    rintro x w6 ⟨rfl, hb6⟩
    have HX6 := hide (HX5.out.trans (hb6.mono HX5.out.size))
    clear hb6
    generalize Json.objOf ms = T at *
    go_wp2
    go_ret
    exact ⟨by simp, HX6.out⟩
  · have hz := read_none hc
    rw [hz] at hown2
    obtain ⟨a, ha⟩ := errV_no (e := e) hc
    rw [ha]
    obtain ⟨oa, cap, rfl⟩ := own_form hown2
    clear hc hz ha hown2
    go_wp2
    go_ret
    exact ⟨rfl, HX2.out⟩
end Go.Proofs.YtpnckklnmbfokaaDoor.jw
