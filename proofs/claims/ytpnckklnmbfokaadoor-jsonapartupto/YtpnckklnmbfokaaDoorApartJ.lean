import Derived.Test.YtpnckklnmbfokaaDoorMKit
namespace Go.Proofs.YtpnckklnmbfokaaDoor.jw
open Go.ChangeShapes Go.WideShapes Go.ChangeAt Go.RowKit Go.Proofs.YtpnckklnmbfokaaDoor.common
attribute [local go_sem ↓] Go.wp_at_zero Go.wp_at_succ

/-- a struct of two texts in a block of its own -/
structure TwoAt (w : World) (P : Nat) (x y : Value) : Prop where
  c0 : w.cell? ⟨P, 0, none⟩ = some x
  c1 : w.cell? ⟨P, 1, none⟩ = some y
  lt : P < w.heap.size
theorem TwoAt.new (w : World) (x y : Value) (t : TypeId) : TwoAt (w.alloc (.cells #[x, y] t)) w.heap.size x y :=
  ⟨range_new w #[x, y] t 0 _ rfl, range_new w #[x, y] t 1 _ rfl, by simp⟩
theorem TwoAt.below {w w' : World} {P : Nat} {x y : Value} (h : TwoAt w P x y) (hb : Below w.heap.size w w') : TwoAt w' P x y :=
  ⟨(hb.cell h.lt).trans h.c0, (hb.cell h.lt).trans h.c1, Nat.lt_of_lt_of_le h.lt hb.size⟩

/-- no byte below 20 -/
theorem inner_ge : ∀ l : List UInt8, ∀ c ∈ Json.inner l, 32 ≤ c.toNat
  | [], c, h => by simp [Json.inner] at h
  | x :: r, c, h => by
    have ih := inner_ge r
    unfold Json.inner at h ih
    rw [List.flatMap_cons, List.mem_append] at h
    rcases h with h | h
    · by_cases hx : x.toNat < 128
      · rcases Json.esc_cases x hx with ⟨d, he, hs, _⟩ | ⟨hl, he⟩ | ⟨he, a1, _, _⟩
        · rw [he] at h
          simp at h
          rcases h with rfl | rfl
          · decide
          · unfold Json.short at hs
            repeat' split at hs
            all_goals first | (rename_i hd; subst hd; decide) | cases hs
        · rw [he] at h
          have hd : ∀ n : Fin 16, 32 ≤ (Json.dig n.val).toNat := by decide
          simp at h
          rcases h with rfl | rfl | rfl | rfl | rfl
          · decide
          · decide
          · decide
          · exact hd ⟨x.toNat / 16, by omega⟩
          · exact hd ⟨x.toNat % 16, by omega⟩
        · rw [he] at h; simp at h; subst h; exact a1
      · rw [Json.esc_high x (by omega)] at h; simp at h; subst h; omega
    · exact ih c h
theorem quote_ge (l : List UInt8) : ∀ c ∈ Json.quote l, 32 ≤ c.toNat := by
  intro c h
  unfold Json.quote at h
  simp only [List.mem_cons, List.mem_append, List.not_mem_nil, or_false] at h
  rcases h with rfl | h | rfl
  · decide
  · exact inner_ge l c h
  · decide

theorem cellsTwo : Tryd.prog.cellsOf 42 = 2 := by kernel_rfl
/-- the two members of the law -/
def one1 (s t : ByteArray) : Mem := ⟨97 :: s.data.toList, 1, t.data.toList, 0, false⟩
def twoOf (s t : ByteArray) : List Mem := [one1 s t, ⟨[98], 1, s.data.toList, 0, false⟩]
theorem S_list (s : ByteArray) : S s.data.toList = .string s := by unfold S; congr
theorem S_cons (s : ByteArray) : S (97 :: s.data.toList) = .string (⟨#[97]⟩ ++ s) := by
  unfold S
  rw [show (⟨(97 :: s.data.toList).toArray⟩ : ByteArray) = ⟨#[97]⟩ ++ s from by apply ByteArray.ext; rw [ByteArray.data_append]; simp]
theorem one1_cells (s t : ByteArray) : cms [one1 s t] = [.string (⟨#[97]⟩ ++ s), .int .i64 1, .string t, .int .i64 0, .bool false] := by
  show [S (97 :: s.data.toList), _, S t.data.toList, _, _] = _
  rw [S_cons, S_list]; rfl
theorem two_cells (s t : ByteArray) : cms (twoOf s t) = cms [one1 s t] ++ [.string ⟨#[98]⟩, .int .i64 1, .string s, .int .i64 0, .bool false] := by
  show cms ([one1 s t] ++ [_]) = _
  rw [cms_app]
  congr 1
theorem two_range (s t : ByteArray) : ∀ m ∈ twoOf s t, Json.inRange m.num := by
  intro m hm
  unfold twoOf one1 at hm
  simp only [List.mem_cons, List.not_mem_nil, or_false] at hm
  rcases hm with rfl | rfl <;> exact ⟨(by decide : (-9223372036854775808 : Int) ≤ 0), (by decide : (0 : Int) ≤ 9223372036854775807)⟩
theorem two_tot (s t : ByteArray) : tot (twoOf s t) = 6 * (s.size + 1 + t.size) + 40 + (6 * (1 + s.size) + 40 + 0) := by
  show 6 * ((97 :: s.data.toList).length + t.data.toList.length) + 40 + (6 * (1 + s.data.toList.length) + 40 + 0) = _
  rw [List.length_cons, len_list, len_list]

set_option maxRecDepth 100000 in
set_option maxHeartbeats 6400000 in
theorem lawApartJ (s t : ByteArray) (w : World) (hs : s.size + t.size ≤ 1048576) (e : Nat → Addr) (h : Base w e) :
    Calls Tryd.prog 7 #[.agg #[.string s, .string t]] w fun x w' => x = .returned (.bool true) ∧ Below w.heap.size w w' := by
  obtain ⟨i0, hi, hz0, hz1, hz2⟩ := info_parts infoM
  have HB := hide h
  have H0 := hide (TwoAt.new w (.string s) (.string t) 42)
  have HX0 : Hid (Below w.heap.size w (w.alloc (.cells #[.string s, .string t] 42))) := (Below.refl w.heap.size w).alloc (Nat.le_refl _) _
  clear h
  go_enter Tryd.func7, Tryd.ntmps7
  go_wp2_with fail
  generalize w.alloc (.cells #[.string s, .string t] 42) = W at *
  obtain ⟨P, hP⟩ : ∃ P, w.heap.size = P := ⟨_, rfl⟩
  rw [hP] at H0
  try rw [hP]
  refine (begun_any W e (HB.out.below HX0.out)).mono ?_
  rintro x w1 ⟨rfl, hb1⟩
  have HX1 := hide (HX0.out.trans (hb1.mono HX0.out.size))
  have H1 := hide (H0.out.below hb1)
  have c0 := H1.out.c0
  clear hb1
  go_wp2_with fail
  have hB1 := HB.out.below HX1.out
  refine (quote_any s w1 hB1.short hB1.tabs (e 1) hB1.four.text (by omega)).mono ?_
  rintro x w2 ⟨rfl, hb2⟩
  have HX2 := hide (HX1.out.trans (hb2.mono HX1.out.size))
  have H2 := hide (H1.out.below hb2)
  clear hb2 hB1 c0
  by_cases hv : Lib.validD s.data.toList = true
  · rw [if_pos hv]
    have HV := hide hv
    obtain ⟨q, hq⟩ : ∃ q : ByteArray, (⟨(Json.quote s.data.toList).toArray⟩ : ByteArray) = q := ⟨_, rfl⟩
    have hql : q.data.toList = Json.quote s.data.toList := by rw [← hq]
    have hqs : q.size = (Json.quote s.data.toList).length := by rw [← hq, str_size]
    have hil := inner_len s.data.toList
    rw [len_list] at hil
    have hqn : (Json.quote s.data.toList).length = (Json.inner s.data.toList).length + 2 := by unfold Json.quote; simp
    have k1 : ¬ (q.size : Int) < (s.size : Int) + 2 := by omega
    have hq0 : 0 < q.size := by omega
    have hqz : q.size - 1 < q.size := by omega
    have b0 : (q[0].toNat : Int) = 34 := by
      have : q[0] = 34 := by rw [← getD_list q 0 hq0, hql]; rfl
      rw [this]; rfl
    have b1 : (q[q.size - 1].toNat : Int) = 34 := by
      have : q[q.size - 1] = 34 := by
        rw [← getD_list q (q.size - 1) hqz, hql, hqs]
        unfold Json.quote
        rw [List.getD_eq_getElem?_getD]
        simp
      rw [this]; rfl
    have hge : ∀ i (h : i < q.size), 32 ≤ q[i].toNat := by
      intro i h
      refine quote_ge s.data.toList _ ?_
      rw [← hql]
      exact List.getElem_mem (by rw [len_list]; exact h)
    have z0 : (0 : Int) < (q.size : Int) := by omega
    have z1 : ((q.size : Int) - 1).toNat = q.size - 1 := by omega
    have z2 : (q.size : Int) - 1 < (q.size : Int) := by omega
    have z3 : (0 : Int) ≤ (q.size : Int) - 1 := by omega
    have z4 : (q.size : Int) < 9223372036854775807 := by omega
    have HGE := hide hge
    have d0 := H2.out.c0
    have d1 := H2.out.c1
    have hS : S (Json.quote s.data.toList) = .string q := by unfold S; rw [hq]
    rw [hS]
    have k1d : decide ((q.size : Int) < (s.size : Int) + 2) = false := decide_eq_false k1
    have HQ := hide (And.intro hq (And.intro hql hqs))
    clear hS hq hql hqs hge
    go_wp2_with fail
    clear b0 b1 k1 k1d z0 z1 z2 z3 hq0 hqz
    go_loopw [6] (fun i wr => ∃ k : Nat, k ≤ q.size ∧ i = .int .i64 k ∧ wr = w2) (fun i _ => q.size - (intOf i).toNat)
    case atStart => exact ⟨0, Nat.zero_le _, rfl, rfl⟩
    case round =>
      obtain ⟨k, hk, rfl, hwr⟩ := hrel
      obtain rfl : w2 = wr := hwr.symm
      by_cases hlt : k < q.size
      · have hki : (k : Int) < (q.size : Int) := by omega
        have k0 : (0 : Int) ≤ (k : Int) := Int.natCast_nonneg _
        have hg := HGE.out k hlt
        have hgn : ¬ ((q[k].toNat : Int) < 32) := by omega
        have hgd : decide ((q[k].toNat : Int) < 32) = false := decide_eq_false hgn
        go_wp2_with fail
        go_roundw
        case rel => exact ⟨k + 1, by omega, by go_num, by first | rfl | trivial⟩
        case measure => simp [intOf]; omega
      · obtain rfl : k = q.size := by omega
        have hkz : ¬ ((q.size : Int) < (q.size : Int)) := by omega
        clear HGE z4 hil hqn
        go_wp2_with (at_builtin; refine wpList_append_own _ rfl _ _ 30 rfl w2.heap.size 33 i0 _ 5 56 Tryd.underlying30 hi hz0 hz1 hz2 rfl (by decide) _ _ _ rfl ((World.ownsRow_nil _ _ _ _).alloc _) ⟨w2.heap.size, 0, none⟩ 1 1 [.string (⟨#[97]⟩ ++ s), .int .i64 1, .string t, .int .i64 0, .bool false] rfl rfl (cells_new w2 [.string (⟨#[97]⟩ ++ s), .int .i64 1, .string t, .int .i64 0, .bool false] 33) ?c2 ?c3 ?c4 ?c5 ?_)
        case c2 => first | exact ⟨rfl, rfl, rfl, rfl, rfl⟩ | (intro u hu; simp at hu; rcases hu with rfl | rfl | rfl | rfl | rfl <;> rfl)
        case c3 => unfold maxLen; omega
        try (case c4 => omega)
        try (case c5 => simp)
        intro v3 w3 hown3 hgrow3 _
        have hb3 : Below w2.heap.size w2 w3 := ((Below.refl w2.heap.size w2).alloc (Nat.le_refl _) _).grown hgrow3 (by simp) (fun k hk => by cases hk)
        have HX3 := hide (HX2.out.trans (hb3.mono HX2.out.size))
        have H3 := hide (H2.out.below hb3)
        have HO3 : Hid (w3.ownsRow w2.heap.size 33 5 v3 1 (cms [one1 s t])) := by
          show w3.ownsRow _ _ _ _ _ _
          rw [one1_cells]; exact hown3
        have hsz3 := hb3.size
        clear hown3 hgrow3 hb3 d0 d1
        have d0 := H3.out.c0
        have d1 := H3.out.c1
        go_wp2_with (at_builtin; refine wpList_append_own _ rfl _ _ 30 rfl w2.heap.size 33 i0 _ 5 56 Tryd.underlying30 hi hz0 hz1 hz2 rfl (by decide) _ _ _ rfl (HO3.out.alloc _) ⟨w3.heap.size, 0, none⟩ 1 1 [.string ⟨#[98]⟩, .int .i64 1, .string s, .int .i64 0, .bool false] rfl rfl (cells_new w3 [.string ⟨#[98]⟩, .int .i64 1, .string s, .int .i64 0, .bool false] 33) ?e2 ?e3 ?e4 ?e5 ?_)
        case e2 => first | exact ⟨rfl, rfl, rfl, rfl, rfl⟩ | (intro u hu; simp at hu; rcases hu with rfl | rfl | rfl | rfl | rfl <;> rfl)
        case e3 => unfold maxLen; omega
        try (case e4 => omega)
        try (case e5 => simp; omega)
        intro v4 w4 hown4 hgrow4 _
        have hb4 : Below w2.heap.size w3 w4 := ((Below.refl w2.heap.size w3).alloc hsz3 _).grown hgrow4 (by simp; omega) (own_geM HO3.out)
        have HX4 := hide (HX3.out.trans (hb4.mono HX2.out.size))
        have HO4 : Hid (w4.ownsRow w2.heap.size 33 5 v4 (twoOf s t).length (cms (twoOf s t))) := by
          show w4.ownsRow _ _ _ _ _ _
          rw [two_cells]; exact hown4
        clear hown4 hgrow4 hb4 d0 d1 HO3
        have HL4 := hide (lies_of_own HO4.out)
        obtain ⟨oa4, cap4, rfl⟩ := own_form HO4.out
        clear HO4
        go_wp2_with fail
        refine (copiedM_any _ (twoOf s t) w4 HL4.out (by show 2 * 56 ≤ _; omega)).mono ?_
        rintro x w5 ⟨v5, rfl, hown5, hb5⟩
        have HX5 := hide (HX4.out.trans (hb5.mono HX4.out.size))
        have HL5 := hide (HL4.out.below hb5)
        have HM5 := hide (lies_of_own hown5)
        obtain ⟨oa5, cap5, rfl⟩ := own_form hown5
        have htt : tot (twoOf s t) + 100 ≤ 140737488355328 := by have := two_tot s t; omega
        have hll : (twoOf s t).length = 2 := rfl
        clear hb5 hown5
        go_wp2_with fail
        refine (objectB (HB.out.below HX5.out) HL5.out (by omega) (two_range s t) htt).mono ?_
        rintro x w6 ⟨rfl, hb6⟩
        have HX6 := hide (HX5.out.trans (hb6.mono HX5.out.size))
        have HM6 := hide (HM5.out.below hb6)
        clear hb6 HL4 HL5 HM5
        by_cases hck : Json.check (twoOf s t) = 0
        · have hans : objAns e (twoOf s t) = .tuple #[S (Json.objOf (twoOf s t)), .nilIface] := by unfold objAns; rw [if_pos hck]
          rw [hans]
          have hol := obj_len (twoOf s t) (two_range s t)
          have htw := two_tot s t
          have HRB : Hid (Json.read (Json.objOf (twoOf s t)) = (0, twoOf s t)) := by
            show _ = _
            rw [Json.read_back _ hck (two_range s t)]; rfl
          clear hans hck
          go_wp2_with fail
          refine (readB (s := ⟨(Json.objOf (twoOf s t)).toArray⟩) (HB.out.below HX6.out) (by rw [str_size]; unfold reachBytes; omega)).mono ?_
          rintro x w7 ⟨⟨mv7, rfl, hown7⟩, hb7⟩
          rw [str_list, HRB.out] at hown7
          rw [str_list, HRB.out]
          have hev : errV e (0, twoOf s t).1 = .nilIface := rfl
          rw [hev]
          have HX7 := hide (HX6.out.trans (hb7.mono HX6.out.size))
          have HL7 := hide (HM6.out.below hb7)
          have HM7 := hide (lies_of_own hown7)
          obtain ⟨oa7, cap7, rfl⟩ := own_form hown7
          clear hb7 hown7 hev
          go_wp2_with fail
          refine (sameM_any _ _ (twoOf s t) w7 HL7.out HM7.out (by omega)).mono ?_
          rintro x w8 ⟨rfl, hb8⟩
          have HX8 := hide (HX7.out.trans (hb8.mono HX7.out.size))
          clear hb8
          go_wp2
          go_ret
          exact ⟨rfl, HX8.out⟩
        · have hans : objAns e (twoOf s t) = .tuple #[S [], errV e (Json.check (twoOf s t))] := by unfold objAns; rw [if_neg hck]
          rw [hans]
          obtain ⟨a, ha⟩ := errV_no (e := e) hck
          rw [ha]
          clear hck hans ha
          go_wp2
          go_ret
          exact ⟨rfl, HX6.out⟩
  · rw [if_neg hv]
    go_wp2
    go_ret
    exact ⟨rfl, HX2.out⟩
end Go.Proofs.YtpnckklnmbfokaaDoor.jw
