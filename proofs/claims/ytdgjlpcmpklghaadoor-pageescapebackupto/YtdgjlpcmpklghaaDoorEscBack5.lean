import Derived.Test.YtdgjlpcmpklghaaDoorUnescW2
namespace Go.Proofs.YtdgjlpcmpklghaaDoor.pg
open Go.ChangeShapes Go.WideShapes Go.ChangeAt Go.RowKit Go.Proofs.YtdgjlpcmpklghaaDoor.common
attribute [local go_sem ↓] Go.wp_at_zero Go.wp_at_succ

theorem quot_at (s : ByteArray) (k : Nat) (hk : k < s.size) (h : s.data.toList.any Pg.quotable = false) : Pg.quotable s[k] = false := by
  have := List.any_eq_false.1 h s[k] (by
    have : s[k] = s.data.toList[k]'(by simpa using hk) := rfl
    rw [this]; exact List.getElem_mem _)
  simpa using this

set_option maxRecDepth 100000 in
set_option maxHeartbeats 1600000 in
theorem quotable_no (s : ByteArray) (w : World) (hs : s.size < 9223372036854775000) (hq : s.data.toList.any Pg.quotable = false) :
    Calls Tryd.prog 10 #[.string s] w fun e w' => e = .returned (.bool false) ∧ w' = w := by
  have HQ := hide hq
  clear hq
  go_enter Tryd.func10, Tryd.ntmps10
  go_wp2_with fail
  go_loopw [2, 3] (fun r i wr => ∃ k : Nat, r = .bool false ∧ k ≤ s.size ∧ i = .int .i64 k ∧ wr = w) (fun _ i _ => s.size - (intOf i).toNat)
  case atStart => exact ⟨0, rfl, by omega, rfl, rfl⟩
  case round =>
    obtain ⟨k, rfl, hk, rfl, hwr⟩ := hrel
    obtain rfl : w = wr := hwr.symm
    by_cases hlt : k < s.size
    · have hki : (k : Int) < (s.size : Int) := by omega
      have k0 : (0 : Int) ≤ (k : Int) := by omega
      have hq := quot_at s k hlt HQ.out
      unfold Pg.quotable at hq
      simp only [Bool.or_eq_false_iff, beq_eq_false_iff_ne] at hq
      obtain ⟨⟨⟨n1, n2⟩, n3⟩, n4⟩ := hq
      have hne : ∀ q : UInt8, s[k] ≠ q → ((s[k].toNat : Int) == (q.toNat : Int)) = false := fun q h => beq_false_of_ne (fun e => h (UInt8.toNat_inj.1 (by omega)))
      have q1 : ((s[k].toNat : Int) == 60) = false := hne 60 n1
      have q2 : ((s[k].toNat : Int) == 62) = false := hne 62 n2
      have q3 : ((s[k].toNat : Int) == 34) = false := hne 34 n3
      have q4 : ((s[k].toNat : Int) == 39) = false := hne 39 n4
      clear hne n1 n2 n3 n4
      go_wp2
      go_roundw
      case rel => exact ⟨k + 1, by first | rfl | trivial, by omega, by go_num, by first | rfl | trivial⟩
      case measure => simp [intOf]; omega
    · have hki : ¬ (k : Int) < (s.size : Int) := by omega
      go_wp2
      go_ret
      exact ⟨rfl, rfl⟩

set_option maxRecDepth 100000 in
set_option maxHeartbeats 1600000 in
theorem lawEscapeBack (s : ByteArray) (w : World) (hs : s.size ≤ 1048576) (ht : Esc w) (ea : Addr) (he : Txt w ea) :
    Calls Tryd.prog 4 #[.string s] w fun e w' => e = .returned (.bool true) ∧ Below w.heap.size w w' := by
  have HS := hide hs
  have HT := hide ht
  have HE := hide he
  have hK : Hid (((s.size : Int) / 2).toNat ≤ s.size) := by show _ ≤ _; omega
  clear ht he
  go_enter Tryd.func4, Tryd.ntmps4
  go_wp2_with fail
  refine (escape_any s w HT.out (by have := HS.out; omega)).mono ?_
  rintro x w1 ⟨rfl, hb1⟩
  have H1 := hide hb1
  have HT1 := hide (HT.out.next hb1)
  have HE1 := hide (HE.out.next hb1)
  clear hb1
  obtain ⟨Y, hY⟩ : ∃ Y : ByteArray, (⟨(Pg.esc s.data.toList).toArray⟩ : ByteArray) = Y := ⟨_, rfl⟩
  have HYl : Hid (Y.data.toList = Pg.esc s.data.toList) := by show _ = _; rw [← hY]
  have HYs : Hid (s.size ≤ Y.size ∧ Y.size ≤ 6 * s.size) := by
    have := Pg.esc_len s.data.toList
    rw [len_list] at this
    have h2 : Y.size = (Pg.esc s.data.toList).length := by rw [← hY, str_size]
    exact ⟨by omega, by omega⟩
  unfold S
  rw [hY]
  clear hY
  go_wp2_with fail
  refine (unescape_any Y w1 (by have := HS.out; have := HYs.out; omega) HT1.out ea HE1.out).mono ?_
  rintro x w2 ⟨hb2, hx⟩
  have H2 := hide (H1.out.trans (hb2.mono H1.out.size))
  have HT2 := hide (HT1.out.next hb2)
  clear hb2
  have hback : Pg.unesc Y.data.toList = some s.data.toList := by rw [HYl.out]; exact Pg.unesc_esc _
  obtain rfl : x = .returned (.tuple #[.string s, .nilIface]) := by
    rcases hx with ⟨t, ht, rfl⟩ | ⟨hn, _⟩
    · rw [hback] at ht
      rw [← Option.some.inj ht]
    · rw [hback] at hn; cases hn
  clear hx hback
  go_wp2_with fail
  have HXl : Hid ((s.extract 0 (s.size / 2)).size ≤ s.size) := by show _ ≤ _; rw [ByteArray.size_extract]; omega
  have HXr : Hid ((s.extract (s.size / 2) s.size).size ≤ s.size) := by show _ ≤ _; rw [ByteArray.size_extract]; omega
  have HXj : Hid (Pg.esc s.data.toList = Pg.esc (s.extract 0 (s.size / 2)).data.toList ++ Pg.esc (s.extract (s.size / 2) s.size).data.toList) := by
    show _ = _
    rw [← Pg.esc_append, ext_list, extract_list, List.drop_zero, Nat.sub_zero, List.take_append_drop]
  have hx1 : (s.size : Int) / 2 ≤ (s.size : Int) := by omega
  have hx2 : (0 : Int) ≤ (s.size : Int) / 2 := by omega
  have hx3 : ((s.size : Int) / 2).toNat = s.size / 2 := by omega
  refine (escape_any (s.extract 0 (s.size / 2)) w2 HT2.out (by have := HS.out; have := HXl.out; omega)).mono ?_
  rintro x w3 ⟨rfl, hb3⟩
  have H3 := hide (H2.out.trans (hb3.mono H2.out.size))
  have HT3 := hide (HT2.out.next hb3)
  clear hb3
  obtain ⟨P, hP⟩ : ∃ P : ByteArray, (⟨(Pg.esc (s.extract 0 (s.size / 2)).data.toList).toArray⟩ : ByteArray) = P := ⟨_, rfl⟩
  have HPl : Hid (P.data.toList = Pg.esc (s.extract 0 (s.size / 2)).data.toList) := by show _ = _; rw [← hP]
  have HPs : Hid (P.size ≤ 6 * s.size) := by
    show _ ≤ _
    have h1 := (Pg.esc_len (s.extract 0 (s.size / 2)).data.toList).2
    rw [← HPl.out, len_list, len_list] at h1
    have := HXl.out; omega
  unfold S
  rw [hP]
  clear hP
  go_wp2_with fail
  refine (escape_any (s.extract (s.size / 2) s.size) w3 HT3.out (by have := HS.out; have := HXr.out; omega)).mono ?_
  rintro x w4 ⟨rfl, hb4⟩
  have H4 := hide (H3.out.trans (hb4.mono H3.out.size))
  clear hb4
  obtain ⟨Q, hQ⟩ : ∃ Q : ByteArray, (⟨(Pg.esc (s.extract (s.size / 2) s.size).data.toList).toArray⟩ : ByteArray) = Q := ⟨_, rfl⟩
  have HQl : Hid (Q.data.toList = Pg.esc (s.extract (s.size / 2) s.size).data.toList) := by show _ = _; rw [← hQ]
  have HQs : Hid (Q.size ≤ 6 * s.size) := by
    show _ ≤ _
    have h1 := (Pg.esc_len (s.extract (s.size / 2) s.size).data.toList).2
    rw [← HQl.out, len_list, len_list] at h1
    have := HXr.out; omega
  unfold S
  rw [hQ]
  clear hQ
  go_wp2_with fail
  refine (quotable_no Y w4 (by have := HS.out; have := HYs.out; omega) (by rw [HYl.out]; exact Pg.esc_any _)).mono ?_
  rintro x w5 ⟨rfl, hw5⟩
  obtain rfl := hw5
  have HPQ : Hid (P ++ Q = Y) := by
    apply ba_ext
    rw [ByteArray.toList_data_append, HPl.out, HQl.out, HYl.out, HXj.out]
  have hsz : ¬ (9223372036854775807 < P.size + Q.size) := by have := HS.out; have := HPs.out; have := HQs.out; omega
  have hYs : (s.size : Int) ≤ (Y.size : Int) := by have := HYs.out.1; omega
  have hyy : (Y.toList == (P ++ Q).toList) = true := eq_list HPQ.out.symm
  clear hx1 hx2 hx3 hs
  go_wp2
  go_ret
  exact ⟨rfl, H4.out⟩

end Go.Proofs.YtdgjlpcmpklghaaDoor.pg
