import Derived.Test.YtpnckklnmbfokaaDoorBackJ
import Derived.Test.YtpnckklnmbfokaaDoorPickWalk
import Derived.Test.YtpnckklnmbfokaaDoorErrWalks
import Derived.Test.YtpnckklnmbfokaaDoorJsonCutMath
namespace Go.Proofs.YtpnckklnmbfokaaDoor.jw
open Go.ChangeShapes Go.WideShapes Go.ChangeAt Go.RowKit Go.Proofs.YtpnckklnmbfokaaDoor.common
attribute [local go_sem ↓] Go.wp_at_zero Go.wp_at_succ

theorem head_any (s : ByteArray) (k : Nat) (w : World) (hk : k < s.size) :
    Calls Tryd.prog 19 #[.string s, .int .i64 k] w fun x w' => ∃ t : ByteArray, x = .returned (.string t) ∧ t.data.toList = s.data.toList.take k ∧ w' = w := by
  by_cases h0 : k = 0
  · subst h0
    go_enter Tryd.func19, Tryd.ntmps19
    go_wp2
    go_ret
    exact ⟨⟨#[]⟩, rfl, by simp, rfl⟩
  · have a1 : ¬ (k : Int) < 1 := by omega
    have a2 : ¬ (s.size : Int) ≤ (k : Int) := by omega
    have a3 : (0 : Int) ≤ (k : Int) := by omega
    have a4 : (k : Int) ≤ (s.size : Int) := by omega
    go_enter Tryd.func19, Tryd.ntmps19
    go_wp2
    go_ret
    refine ⟨_, rfl, ?_, rfl⟩
    simp
theorem E_of (e : Nat → Addr) : errV e 2 = errw.E e 1 := rfl
theorem num_txt (w : World) (e : Nat → Addr) (h : errw.Errs w e) : Calls Tryd.prog 11 #[errw.E e 1] w fun x w' => x = .returned (.int .i64 2) ∧ w' = w := errw.num_1 w e h
theorem four_errs {w : World} {e : Nat → Addr} (h : errw.Errs w e) : Four w e := ⟨h.cell 0 (by decide), h.cell 1 (by decide), h.cell 2 (by decide), h.cell 3 (by decide)⟩

/-- a struct of two values in a block of its own -/
structure Two (w : World) (P : Nat) (x y : Value) : Prop where
  c0 : w.cell? ⟨P, 0, none⟩ = some x
  c1 : w.cell? ⟨P, 1, none⟩ = some y
  lt : P < w.heap.size
theorem Two.new (w : World) (x y : Value) (t : TypeId) : Two (w.alloc (.cells #[x, y] t)) w.heap.size x y :=
  ⟨range_new w #[x, y] t 0 _ rfl, range_new w #[x, y] t 1 _ rfl, by simp⟩
theorem Two.below {w w' : World} {P : Nat} {x y : Value} (h : Two w P x y) (hb : Below w.heap.size w w') : Two w' P x y :=
  ⟨(hb.cell h.lt).trans h.c0, (hb.cell h.lt).trans h.c1, Nat.lt_of_lt_of_le h.lt hb.size⟩
theorem app_list (T u : ByteArray) : (T ++ u).data.toList = T.data.toList ++ u.data.toList := by
  rw [ByteArray.data_append]; simp

set_option maxRecDepth 100000 in
set_option maxHeartbeats 6400000 in
theorem lawCut (v : Value) (k : Int) (l : List Mem) (w : World) (hl : Lies w v l) (hk0 : -9223372036854775808 ≤ k) (hk1 : k ≤ 9223372036854775807) (hn : ∀ m ∈ l, Json.inRange m.num) (hb : l.length * 56 ≤ 140737488355328) (ht : tot l ≤ 14680064) (e : Nat → Addr) (h : Base w e) (he : errw.Errs w e) :
    Calls Tryd.prog 8 #[.agg #[v, .int .i64 k]] w fun x w' => x = .returned (.bool true) ∧ Below w.heap.size w w' := by
  have HB := hide h
  have HE := hide he
  have HL := hide hl
  have HN := hide hn
  obtain ⟨oa, cap, rfl⟩ := lies_form hl
  have H0 := hide (Two.new w (.slice oa l.length cap) (.int .i64 k) 45)
  have HX0 : Hid (Below w.heap.size w (w.alloc (.cells #[.slice oa l.length cap, .int .i64 k] 45))) := (Below.refl w.heap.size w).alloc (Nat.le_refl _) _
  clear h hl hn he
  go_enter Tryd.func8, Tryd.ntmps8
  go_wp2_with fail
  generalize w.alloc (.cells #[.slice oa l.length cap, .int .i64 k] 45) = W at *
  obtain ⟨P, hP⟩ : ∃ P, w.heap.size = P := ⟨_, rfl⟩
  rw [hP] at H0
  try rw [hP]
  refine (begun_any W e (HB.out.below HX0.out)).mono ?_
  rintro x w1 ⟨rfl, hb1⟩
  have HX1 := hide (HX0.out.trans (hb1.mono HX0.out.size))
  have H1 := hide (H0.out.below hb1)
  have c0 := H1.out.c0
  clear hb1
  go_wp2_with fail
  refine (objectB (HB.out.below HX1.out) (HL.out.below HX1.out) (by omega) HN.out (by omega)).mono ?_
  rintro x w2 ⟨rfl, hb2⟩
  have HX2 := hide (HX1.out.trans (hb2.mono HX1.out.size))
  have H2 := hide (H1.out.below hb2)
  clear hb2 c0
  by_cases hck : Json.check l = 0
  · have hans : objAns e l = .tuple #[S (Json.objOf l), .nilIface] := by unfold objAns; rw [if_pos hck]
    rw [hans]
    have hol := obj_len l HN.out
    have hmo : ∀ m ∈ l, Json.memOk m := fun m hm => ⟨((Json.check_ok hck).2.1 m hm).1, ((Json.check_ok hck).2.1 m hm).2, HN.out m hm⟩
    obtain ⟨T, hT⟩ : ∃ T : ByteArray, (⟨(Json.objOf l).toArray⟩ : ByteArray) = T := ⟨_, rfl⟩
    have hTs : T.size = (Json.objOf l).length := by rw [← hT, str_size]
    have hTl : T.data.toList = Json.objOf l := by rw [← hT]
    have hT2 : 2 ≤ T.size := by rw [hTs]; unfold Json.objOf; simp
    have hS : S (Json.objOf l) = .string T := by unfold S; rw [hT]
    rw [hS]
    have HRH : Hid (∀ j, j < T.size → Json.read (T.data.toList.take j) = (2, [])) := fun j hj => by
      rw [hTl]; exact Json.read_head l hmo j (by omega)
    have HRM : Hid (∀ c, Json.bl c = false → Json.read (T.data.toList ++ [c]) = (2, [])) := fun c hc => by
      rw [hTl]; exact Json.read_more l hmo c hc
    have hTz : T.size ≤ 14680066 := by omega
    obtain ⟨p0, p1⟩ := kitw.pick_bounds k (T.size : Int)
    obtain ⟨j, hj⟩ : ∃ j : Nat, (j : Int) = kitw.pick k (T.size : Int) := ⟨(kitw.pick k (T.size : Int)).toNat, by omega⟩
    have hjl : j < T.size := by have := p1 (by omega); omega
    have HJ := hide hj
    have d1 := H2.out.c1
    clear hans hck hmo hT hTs hTl hS hol p0 p1 hj
    go_wp2_with fail
    refine (kitw.pick_any k (T.size : Int) w2 (by omega) (by omega) hk0 hk1).mono ?_
    rintro x w2' ⟨rfl, hww⟩
    obtain rfl : w2 = w2' := hww.symm
    rw [← HJ.out]
    go_wp2_with fail
    refine (head_any T j w2 hjl).mono ?_
    rintro x w2' ⟨t, rfl, htl, hww⟩
    obtain rfl : w2 = w2' := hww.symm
    have hts : t.size ≤ 14680066 := by
      have : t.data.toList.length = t.size := by simp
      rw [← this, htl, List.length_take]
      have : T.data.toList.length = T.size := by simp
      omega
    have HR1 : Hid (Json.read t.data.toList = (2, [])) := by show _ = _; rw [htl]; exact HRH.out j hjl
    clear htl
    go_wp2_with fail
    refine (readB (HB.out.below HX2.out) (by unfold reachBytes; omega)).mono ?_
    rintro x w3 ⟨⟨mv3, rfl, hown3⟩, hb3⟩
    rw [HR1.out] at hown3
    rw [HR1.out, E_of]
    obtain ⟨oa3, cap3, rfl⟩ := own_form hown3
    have HX3 := hide (HX2.out.trans (hb3.mono HX2.out.size))
    clear hb3 hown3 d1
    go_wp2_with fail
    refine (readB (HB.out.below HX3.out) (by rw [ByteArray.size_append]; unfold reachBytes; show _ + 1 ≤ _; omega)).mono ?_
    rintro x w4 ⟨⟨mv4, rfl, hown4⟩, hb4⟩
    have HR2 : Hid (Json.read (T ++ ⟨#[44]⟩).data.toList = (2, [])) := by show _ = _; rw [app_list]; exact HRM.out 44 (by decide)
    rw [HR2.out] at hown4
    rw [HR2.out, E_of]
    obtain ⟨oa4, cap4, rfl⟩ := own_form hown4
    have HX4 := hide (HX3.out.trans (hb4.mono HX3.out.size))
    clear hb4 hown4
    go_wp2_with fail
    refine (readB (HB.out.below HX4.out) (by rw [ByteArray.size_append]; unfold reachBytes; show _ + 1 ≤ _; omega)).mono ?_
    rintro x w5 ⟨⟨mv5, rfl, hown5⟩, hb5⟩
    have HR3 : Hid (Json.read (T ++ ⟨#[125]⟩).data.toList = (2, [])) := by show _ = _; rw [app_list]; exact HRM.out 125 (by decide)
    rw [HR3.out] at hown5
    rw [HR3.out, E_of]
    obtain ⟨oa5, cap5, rfl⟩ := own_form hown5
    have HX5 := hide (HX4.out.trans (hb5.mono HX4.out.size))
    clear hb5 hown5
    have HE5 := hide (HE.out.below HX5.out)
    go_wp2_with fail
    refine (num_txt w5 e HE5.out).mono ?_
    rintro x w6 ⟨rfl, hww⟩
    obtain rfl : w5 = w6 := hww.symm
    go_wp2_with fail
    refine (num_txt w5 e HE5.out).mono ?_
    rintro x w6 ⟨rfl, hww⟩
    obtain rfl : w5 = w6 := hww.symm
    go_wp2_with fail
    refine (num_txt w5 e HE5.out).mono ?_
    rintro x w6 ⟨rfl, hww⟩
    obtain rfl : w5 = w6 := hww.symm
    go_wp2
    go_ret
    exact ⟨rfl, HX5.out⟩
  · have hans : objAns e l = .tuple #[S [], errV e (Json.check l)] := by unfold objAns; rw [if_neg hck]
    rw [hans]
    obtain ⟨a, ha⟩ := errV_no (e := e) hck
    rw [ha]
    clear hck hans ha
    go_wp2
    go_ret
    exact ⟨rfl, HX2.out⟩
end Go.Proofs.YtpnckklnmbfokaaDoor.jw
