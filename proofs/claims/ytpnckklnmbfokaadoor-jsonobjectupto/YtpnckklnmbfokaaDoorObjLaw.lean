import Derived.Test.YtpnckklnmbfokaaDoorRowM
import Derived.Test.YtpnckklnmbfokaaDoorSameM
namespace Go.Proofs.YtpnckklnmbfokaaDoor.jw
open Go.ChangeShapes Go.WideShapes Go.ChangeAt Go.RowKit Go.Proofs.YtpnckklnmbfokaaDoor.common
attribute [local go_sem ↓] Go.wp_at_zero Go.wp_at_succ

theorem lies_formO {w : World} {v : Value} {l : List Mem} (h : Lies w v l) : ∃ oa cap, v = .slice oa l.length cap := by
  obtain ⟨oa, cap, hv, _⟩ := h
  exact ⟨oa, cap, hv⟩

/-- the list behind which k names have been lengthened -/
def mid (l : List Mem) (k : Nat) : List Mem := (l.take k).map rn ++ (l.drop k ++ [bhM, bhM])
theorem mid_len (l : List Mem) (k : Nat) (h : k ≤ l.length) : (mid l k).length = l.length + 2 := by
  unfold mid
  simp only [List.length_append, List.length_map, List.length_take, List.length_drop, List.length_cons, List.length_nil]
  omega
theorem mid_get (l : List Mem) (k : Nat) (h : k < l.length) : (mid l k)[k]'(by rw [mid_len l k (by omega)]; omega) = l[k] := by
  unfold mid
  rw [List.getElem_append_right (by simp; omega)]
  have : ((l.take k).map rn).length = k := by simp; omega
  simp only [this, Nat.sub_self]
  rw [List.getElem_append_left (by rw [List.length_drop]; omega), List.getElem_drop]
  rfl
theorem mid_end (l : List Mem) : mid l l.length = l.map rn ++ [bhM, bhM] := by
  unfold mid
  rw [List.take_length, List.drop_length]; rfl
theorem mid_set (l : List Mem) (k : Nat) (h : k < l.length) : (mid l k).set k { (mid l k)[k]'(by rw [mid_len l k (by omega)]; omega) with name := l[k].name ++ [120] } = mid l (k + 1) := by
  rw [mid_get l k h]
  show (mid l k).set k (rn l[k]) = _
  unfold mid
  have hl : ((l.take k).map rn).length = k := by simp; omega
  rw [List.set_append_right _ _ (by omega), hl, Nat.sub_self, List.take_succ_eq_append_getElem h, List.map_append, List.drop_eq_getElem_cons h, List.append_assoc]
  rfl
theorem num_of {w : World} {e : Nat → Addr} {c : Nat} {v : Value} (hv : errV e c = v) (h : errw.Errs w e) (hc : c ≤ 4) : Calls Tryd.prog 11 #[v] w fun x w' => x = .returned (.int .i64 (c : Int)) ∧ w' = w := by
  subst hv; exact num_errV w e h c hc
theorem one_bh : ∀ u ∈ cms [bhM, bhM], u.oneCell' = true := by
  intro u hu
  have h : cms [bhM, bhM] = cm bhM ++ (cm bhM ++ []) := rfl
  rw [h, List.append_nil, List.mem_append, or_self] at hu
  unfold cm at hu
  simp only [List.mem_cons, List.not_mem_nil, or_false] at hu
  rcases hu with rfl | rfl | rfl | rfl | rfl <;> rfl

set_option maxRecDepth 100000 in
set_option maxHeartbeats 6400000 in
theorem lawObject (v : Value) (l : List Mem) (w : World) (hl : Lies w v l) (hn : ∀ m ∈ l, Json.inRange m.num) (hb : l.length * 56 ≤ 140737488355328) (ht : tot l ≤ 14680064) (hlz : l.length ≤ 14680064) (e : Nat → Addr) (h : BaseO w e) :
    Calls Tryd.prog 4 #[v] w fun x w' => x = .returned (.bool true) ∧ Below w.heap.size w w' := by
  obtain ⟨i0, hi, hz0, hz1, hz2⟩ := info_parts infoM
  have HB := hide h
  have HL := hide hl
  have HN := hide hn
  obtain ⟨oa, cap, rfl⟩ := lies_formO hl
  clear h hl hn
  go_enter Tryd.func4, Tryd.ntmps4
  go_wp2_with fail
  refine (copiedM_any _ l w HL.out hb).mono ?_
  rintro x w1 ⟨v1, rfl, hown1, hb1⟩
  have HX1 := hide hb1
  have HL1 := hide (HL.out.below hb1)
  have HM1 := hide (lies_of_own hown1)
  obtain ⟨oa1, cap1, rfl⟩ := own_form hown1
  clear hb1 hown1
  go_wp2_with fail
  refine (copiedM_any _ l w1 HL1.out hb).mono ?_
  rintro x w2 ⟨v2, rfl, hown2, hb2⟩
  have HX2 := hide (HX1.out.trans (hb2.mono HX1.out.size))
  have HM2 := hide (HM1.out.below hb2)
  have HY2 := hide hb2
  have HO2 := hide hown2
  have hsz2 := hb2.size
  clear hb2 hown2 HL1
  go_wp2_with (at_builtin; refine wpList_append_own _ rfl _ _ 30 rfl w1.heap.size 33 i0 _ 5 56 Tryd.underlying30 hi hz0 hz1 hz2 rfl (by decide) _ _ _ rfl (HO2.out.alloc _) ⟨w2.heap.size, 0, none⟩ 2 2 (cms [bhM, bhM]) rfl rfl (cells_new w2 (cms [bhM, bhM]) 33) ?c2 ?c3 ?c4 ?c5 ?_)
  case c2 => exact one_bh
  case c3 => unfold maxLen; omega
  case c4 => omega
  case c5 => simp; omega
  intro v3 w3 hown3 hgrow3 _
  have hb3 : Below w1.heap.size w2 w3 := ((Below.refl w1.heap.size w2).alloc hsz2 _).grown hgrow3 (by simp; omega) (own_geM HO2.out)
  have HO3 : w3.ownsRow w1.heap.size 33 5 v3 (l ++ [bhM, bhM]).length (cms (l ++ [bhM, bhM])) := by
    rw [cms_app, List.length_append]; exact hown3
  obtain ⟨g, cap3, hv3, hg, hrow, hcap⟩ := rowM_of_own (by simp) HO3
  have hfl : (l ++ [bhM, bhM]).length = l.length + 2 := by simp
  rw [hfl] at hcap hv3
  subst hv3
  have HX3 := hide (HX2.out.trans (hb3.mono HX1.out.size))
  have HY3 := hide (HY2.out.trans hb3)
  have HR3 := hide hrow
  have hgw : w.heap.size ≤ g := Nat.le_trans HX1.out.size hg
  clear hown3 hgrow3 hb3 HO3 hrow HO2 HM2 hfl
  go_wp2_with fail
  refine (objectO (HB.out.below HX3.out) (HR3.out.lies cap3 (by omega)) (by omega) HN.out (by omega)).mono ?_
  rintro x w4 ⟨rfl, hb4⟩
  obtain ⟨O, hO⟩ : ∃ O : ByteArray, (⟨(obA l).toArray⟩ : ByteArray) = O := ⟨_, rfl⟩
  have hSO : S (obA l) = .string O := by unfold S; rw [hO]
  obtain ⟨c, hc⟩ : ∃ c, Json.check l = c := ⟨_, rfl⟩
  have hc4 : c ≤ 4 := by rw [← hc]; exact check_le l
  rw [hSO, hc]
  have HX4 := hide (HX3.out.trans (hb4.mono HX3.out.size))
  have HY4 := hide (HY3.out.trans (hb4.mono HY3.out.size))
  have HR4 := hide (HR3.out.below hb4 HR3.out.lt)
  have HSO := hide hSO
  have HC := hide hc
  clear hb4 hO hSO hc HR3
  obtain ⟨E1, hE1⟩ : ∃ E1, errV e c = E1 := ⟨_, rfl⟩
  rw [hE1]
  have HE1 := hide hE1
  clear hE1
  go_wp2_with fail
  refine (refO (HB.out.below HX4.out) (HM1.out.below HY4.out) (by omega) HN.out (by omega)).mono ?_
  rintro x w5 ⟨rfl, hb5⟩
  rw [HSO.out, HC.out]
  have HX5 := hide (HX4.out.trans (hb5.mono HX4.out.size))
  have HY5 := hide (HY4.out.trans (hb5.mono HY4.out.size))
  have HR5 := hide (HR4.out.below hb5 HR4.out.lt)
  clear hb5 HR4
  go_wp2_with fail
  refine (sameM_any _ _ l w5 (HR5.out.lies cap3 (by omega)) (HM1.out.below HY5.out) (by omega)).mono ?_
  rintro x w6 ⟨rfl, hb6⟩
  have HX6 := hide (HX5.out.trans (hb6.mono HX5.out.size))
  have HY6 := hide (HY5.out.trans (hb6.mono HY5.out.size))
  have HR6 := hide (HR5.out.below hb6 HR5.out.lt)
  clear hb6 HR5
  have n0 := (HR6.out.at l.length (by simp)).c0
  have n1 := (HR6.out.at (l.length + 1) (by simp)).c0
  rw [List.getElem_append_right (Nat.le_refl _)] at n0
  rw [List.getElem_append_right (by omega)] at n1
  simp only [Nat.sub_self, Nat.add_sub_cancel_left, List.getElem_cons_zero, List.getElem_cons_succ] at n0 n1
  go_wp2_with fail
  refine (num_of HE1.out (HB.out.below HX6.out).errs hc4).mono ?_
  rintro x w6' ⟨rfl, hww⟩
  obtain rfl : w6 = w6' := hww.symm
  clear n0 n1
  go_wp2_with fail
  have HR6' : Hid (RowM w6 g (mid l 0)) := HR6.out
  go_loopw [11] (fun i wr => ∃ k : Nat, k ≤ l.length ∧ i = .int .i64 k ∧ Below w.heap.size w wr ∧ RowM wr g (mid l k)) (fun i _ => l.length - (intOf i).toNat)
  case atStart => exact ⟨0, Nat.zero_le _, rfl, HX6.out, HR6'.out⟩
  case round =>
    obtain ⟨k, hk, rfl, hnx, hrw⟩ := hrel
    by_cases hlt : k < l.length
    · have hki : (k : Int) < (l.length : Int) := by omega
      have hki2 : (k : Int) < (l.length : Int) + 2 := by omega
      have hkn2 : k < l.length + 2 := by omega
      have k0 : (0 : Int) ≤ (k : Int) := Int.natCast_nonneg _
      have hml := mid_len l k hk
      have d0 := (hrw.at k (by omega)).c0
      rw [mid_get l k hlt] at d0
      have f0 := hrw.nf k (by omega)
      have hnl := tot_mem (List.getElem_mem hlt)
      obtain ⟨N, hN⟩ : ∃ N : ByteArray, (⟨l[k].name.toArray⟩ : ByteArray) = N := ⟨_, rfl⟩
      have hNs : N.size ≤ 14680064 := by rw [← hN, str_size]; omega
      have hSN : S l[k].name = .string N := by unfold S; rw [hN]
      have HSX : Hid (Value.string (N ++ ⟨#[120]⟩) = S (l[k].name ++ [120])) := by
        show _ = _
        rw [← hN]
        unfold S
        congr 1
      rw [hSN] at d0
      have HX := hide hnx
      have HW := hide hrw
      clear hnx hrw hml hN hSN hnl
      go_wp2_with fail
      go_roundw
      case rel => exact ⟨k + 1, by omega, by go_num, HX.out.setCell hgw _, by
        have h1 := HW.out.set k (by rw [mid_len l k hk]; omega) (l[k].name ++ [120])
        have h2 := mid_set l k hlt
        rw [HSX.out, ← h2]
        exact h1⟩
      case measure => simp [intOf]; omega
    · obtain rfl : k = l.length := by omega
      rw [mid_end] at hrw
      have hkz : ¬ ((l.length : Int) < (l.length : Int)) := by omega
      obtain ⟨B, hBB⟩ : ∃ B, l.map rn = B := ⟨_, rfl⟩
      rw [hBB] at hrw
      have hBn : ∀ m ∈ B, Json.inRange m.num := by
        rw [← hBB]
        intro m hm
        obtain ⟨q, hq, rfl⟩ := List.mem_map.1 hm
        exact HN.out q hq
      have hBl : B.length = l.length := by rw [← hBB, List.length_map]
      have hBt : tot B = tot l + 6 * l.length := by rw [← hBB]; exact tot_rn l
      have HBN := hide hBn
      have HBT := hide hBt
      have HBL := hide hBl
      have HX7 := hide hnx
      have HR7 := hide hrw
      have HL7 : Hid (Lies wr (.slice (some ⟨g, 0, none⟩) l.length cap3) B) := by
        show Lies _ _ _
        rw [← hBl]
        exact hrw.lies cap3 (by omega)
      clear hnx hrw hBB hBn hBl hBt HR6 HR6'
      go_wp2_with fail
      refine (objectO (HB.out.below HX7.out) HL7.out (by have := HBL.out; omega) HBN.out (by have := HBT.out; omega)).mono ?_
      rintro x w8 ⟨rfl, hb8⟩
      obtain ⟨O2, hO⟩ : ∃ O : ByteArray, (⟨(obA B).toArray⟩ : ByteArray) = O := ⟨_, rfl⟩
      have hSO : S (obA B) = .string O2 := by unfold S; rw [hO]
      obtain ⟨c2, hc⟩ : ∃ c, Json.check B = c := ⟨_, rfl⟩
      have hc42 : c2 ≤ 4 := by rw [← hc]; exact check_le B
      rw [hSO, hc]
      have HX8 := hide (HX7.out.trans (hb8.mono HX7.out.size))
      have HL8 := hide (HL7.out.below hb8)
      have HSO2 := hide hSO
      have HC2 := hide hc
      clear hb8 hO hSO hc
      obtain ⟨E2, hE2⟩ : ∃ E2, errV e c2 = E2 := ⟨_, rfl⟩
      rw [hE2]
      have HE2 := hide hE2
      clear hE2
      go_wp2_with fail
      refine (copiedM_any _ B w8 HL8.out (by have := HBL.out; omega)).mono ?_
      rintro x w9 ⟨v9, rfl, hown9, hb9⟩
      have HX9 := hide (HX8.out.trans (hb9.mono HX8.out.size))
      have HM9 := hide (lies_of_own hown9)
      obtain ⟨oa9, cap9, rfl⟩ := own_form hown9
      clear hb9 hown9
      go_wp2_with fail
      refine (refO (HB.out.below HX9.out) HM9.out (by have := HBL.out; omega) HBN.out (by have := HBT.out; omega)).mono ?_
      rintro x w10 ⟨rfl, hb10⟩
      rw [HSO2.out, HC2.out]
      have HX10 := hide (HX9.out.trans (hb10.mono HX9.out.size))
      clear hb10
      go_wp2_with fail
      refine (num_of HE2.out (HB.out.below HX10.out).errs hc42).mono ?_
      rintro x w11 ⟨rfl, hww⟩
      obtain rfl : w10 = w11 := hww.symm
      go_wp2
      go_ret
      exact ⟨by simp, HX10.out⟩
end Go.Proofs.YtpnckklnmbfokaaDoor.jw
