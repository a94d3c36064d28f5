import Derived.Test.YtpnckklnmbfokaaDoorBareM
namespace Go.Proofs.YtpnckklnmbfokaaDoor.jw
open Go.ChangeShapes Go.WideShapes Go.ChangeAt Go.RowKit Go.Proofs.YtpnckklnmbfokaaDoor.common
attribute [local go_sem ↓] Go.wp_at_zero Go.wp_at_succ

theorem lies_form {w : World} {v : Value} {l : List Mem} (h : Lies w v l) : ∃ oa cap, v = .slice oa l.length cap := by
  obtain ⟨oa, cap, hv, _⟩ := h
  exact ⟨oa, cap, hv⟩

set_option maxRecDepth 100000 in
set_option maxHeartbeats 3200000 in
theorem lawBackJ (v : Value) (l : List Mem) (w : World) (hl : Lies w v l) (hn : ∀ m ∈ l, Json.inRange m.num) (hb : l.length * 56 ≤ 140737488355328) (ht : tot l ≤ 14680064) (e : Nat → Addr) (h : Base w e) :
    Calls Tryd.prog 6 #[v] w fun x w' => x = .returned (.bool true) ∧ Below w.heap.size w w' := by
  have HB := hide h
  have HL := hide hl
  have HN := hide hn
  obtain ⟨oa, cap, rfl⟩ := lies_form hl
  clear h hl hn
  go_enter Tryd.func6, Tryd.ntmps6
  go_wp2_with fail
  refine (begun_any w e HB.out).mono ?_
  rintro x w1 ⟨rfl, hb1⟩
  have HX1 := hide hb1
  have HL1 := hide (HL.out.below hb1)
  clear hb1
  go_wp2_with fail
  refine (bareM_any _ l w1 HL1.out hb).mono ?_
  obtain ⟨B, hBB⟩ : ∃ B, l.map Json.bareMem = B := ⟨_, rfl⟩
  have HML : Hid (B.length = l.length) := by show B.length = _; rw [← hBB, List.length_map]
  have HBB := hide hBB
  rw [hBB]
  clear hBB
  rintro x w2 ⟨v2, rfl, hown2, hb2⟩
  have HX2 := hide (HX1.out.trans (hb2.mono HX1.out.size))
  have HL2 := hide (HL1.out.below hb2)
  have HM2 := hide (lies_of_own hown2)
  obtain ⟨oa2, cap2, rfl⟩ := own_form hown2
  clear hb2 hown2
  go_wp2_with fail
  refine (objectB (HB.out.below HX2.out) HL2.out (by omega) HN.out (by omega)).mono ?_
  rintro x w3 ⟨rfl, hb3⟩
  have HX3 := hide (HX2.out.trans (hb3.mono HX2.out.size))
  have HM3 := hide (HM2.out.below hb3)
  clear hb3 HL2 HL1 HM2
  by_cases hck : Json.check l = 0
  · have hans : objAns e l = .tuple #[S (Json.objOf l), .nilIface] := by unfold objAns; rw [if_pos hck]
    rw [hans]
    have hol := obj_len l HN.out
    have HRB : Hid (Json.read (Json.objOf l) = (0, B)) := by show _ = _; rw [Json.read_back l hck HN.out, HBB.out]
    clear hans hck
    go_wp2_with fail
    refine (readB (s := ⟨(Json.objOf l).toArray⟩) (HB.out.below HX3.out) (by rw [str_size]; unfold reachBytes; omega)).mono ?_
    rintro x w4 ⟨⟨mv4, rfl, hown4⟩, hb4⟩
    rw [str_list, HRB.out] at hown4
    rw [str_list, HRB.out]
    have hev : errV e (0, B).1 = .nilIface := rfl
    rw [hev]
    have HX4 := hide (HX3.out.trans (hb4.mono HX3.out.size))
    have HL4 := hide (HM3.out.below hb4)
    have HM4 := hide (lies_of_own hown4)
    obtain ⟨oa4, cap4, rfl⟩ := own_form hown4
    clear hb4 hown4 hev
    go_wp2_with fail
    refine (sameM_any _ _ B w4 HM4.out HL4.out (by have := HML.out; omega)).mono ?_
    rintro x w5 ⟨rfl, hb5⟩
    have HX5 := hide (HX4.out.trans (hb5.mono HX4.out.size))
    clear hb5
    go_wp2
    go_ret
    exact ⟨rfl, HX5.out⟩
  · have hans : objAns e l = .tuple #[S [], errV e (Json.check l)] := by unfold objAns; rw [if_neg hck]
    rw [hans]
    obtain ⟨a, ha⟩ := errV_no (e := e) hck
    rw [ha]
    clear hck hans ha
    go_wp2
    go_ret
    exact ⟨rfl, HX3.out⟩
end Go.Proofs.YtpnckklnmbfokaaDoor.jw
