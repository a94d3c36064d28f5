import Derived.Test.YtdkbjefphihplabDoorBasicW3
namespace Go.Proofs.YtdkbjefphihplabDoor.fd
open Go.ChangeShapes Go.WideShapes Go.ChangeAt Go.RowKit Go.Proofs.YtdkbjefphihplabDoor.common Go.Proofs.YtdkbjefphihplabDoor.bk
attribute [local go_sem ↓] Go.wp_at_zero Go.wp_at_succ

theorem ok_exists (p : Prop) : ∃ ok : Bool, ok = true ↔ p := by
  by_cases h : p
  · exact ⟨true, Iff.intro (fun _ => h) (fun _ => rfl)⟩
  · exact ⟨false, Iff.intro (fun e => Bool.noConfusion e) (fun e => absurd e h)⟩
theorem credV_three (ok : Bool) (x : Value) (l : List UInt8) : ∃ a1 a2 a3, credV ok x l = .tuple #[a1, a2, a3] := by
  unfold credV
  split
  · exact ⟨_, _, _, rfl⟩
  · split
    · unfold unV
      split
      · exact ⟨_, _, _, rfl⟩
      · exact ⟨_, _, _, rfl⟩
    · exact ⟨_, _, _, rfl⟩

set_option maxRecDepth 100000 in
set_option maxHeartbeats 3200000 in
theorem basic_any (s : ByteArray) (w : World) (hs : s.size ≤ reachBytes) (ea es : Addr) (he : Ev 1 w (X ea)) (hes : Ev 4 w (X es)) (ht : radw.StdTab w) :
    Calls Tryd.prog 23 #[.string s] w fun e w' => (∃ ok : Bool, (ok = true ↔ radw.okStd ((s.data.toList.dropWhile Fd.tok).dropWhile isBl)) ∧ e = .returned (basicV ok (X ea) (X es) s.data.toList)) ∧ Below w.heap.size w w' := by
  have hsz : s.size ≤ 4611686018427387904 := by unfold reachBytes at hs; omega
  have hge := he.lt
  have hgs := hes.lt
  have hgt : 13 < w.heap.size := ht.lt (by decide)
  obtain ⟨T, C, hT, hC⟩ := new_basic s
  have HT := hide hT
  have HC := hide hC
  have HE := hide he
  have HES := hide hes
  have HST := hide ht
  clear hT hC he hes ht
  have htl : (s.data.toList.takeWhile Fd.tok).length ≤ s.size := by have := (List.takeWhile_prefix (l := s.data.toList) Fd.tok).length_le; rwa [len_list] at this
  have HBV : Hid (∀ ok, basicV ok (X ea) (X es) s.data.toList = if s.data.toList.takeWhile Fd.tok = [] then failV (X ea) else if Fd.lows (s.data.toList.takeWhile Fd.tok) = Fd.lows nameL then credV ok (X ea) (s.data.toList.dropWhile Fd.tok) else failV (X es)) := fun _ => rfl
  go_enter Tryd.func23, Tryd.ntmps23
  go_wp2_with fail
  refine (HT.out.made w).mono ?_
  rintro x w1 ⟨rfl, hb1⟩
  have HB := hide (keepD hb1 (putBasic_below Tryd.zeroCells81 C w1))
  have HW1 : Hid (w.heap.size ≤ w1.heap.size) := hb1.size
  have HPS : Hid (w1.heap.size ≤ (putBasic Tryd.zeroCells81 C w1).heap.size) := (putBasic_below Tryd.zeroCells81 C w1).size
  clear hb1
  go_wp2_with (first
    | (refine wpList_build_two rfl 81 0 1 (.tmp 8) (.tmp 9) rfl _ _ rfl rfl C HC.out.built ?_)
    | (refine wpList_store_mid rfl 81 (.tmp 5) (.tmp 10) rfl w1.heap.size 0 C rfl rfl (HC.out.room w1) HC.out.size HC.out.one ?_))
  change Calls _ _ _ (putBasic Tryd.zeroCells81 C w1) _
  have HA := hide (HC.out.at w1)
  generalize hW2 : putBasic Tryd.zeroCells81 C w1 = W at *
  clear hW2 HC HT
  refine (scheme_any w1.heap.size s _ W HA.out hsz).mono ?_
  rintro x w2 ⟨rfl, ha2, hm2⟩
  have HA2 := hide ha2
  have HB2 : Hid (Below w.heap.size w w2) := HB.out.trans (hm2.below.mono HW1.out)
  have HS2 : Hid (w1.heap.size ≤ w2.heap.size) := Nat.le_trans HPS.out (Nat.le_of_eq hm2.size.symm)
  clear ha2 hm2
  by_cases htk : s.data.toList.takeWhile Fd.tok = []
  · have HV : Hid (∀ ok, basicV ok (X ea) (X es) s.data.toList = failV (X ea)) := by intro ok; rw [HBV.out, if_pos htk]
    rw [htk]
    obtain ⟨ok, hok⟩ := ok_exists (radw.okStd ((s.data.toList.dropWhile Fd.tok).dropWhile isBl))
    have HOK := hide hok
    clear hok htk
    have hx : w2.cell? ⟨1, 0, none⟩ = some (X ea) := HE.out.below HB2.out
    go_wp2_with fail
    go_quiet (fail)
    go_wp2_with fail
    refine bodyPost_ret (results_tmp3 rfl _ _ _) rfl ⟨⟨ok, HOK.out, ?_⟩, below_drewN HB2.out _⟩
    rw [HV.out]; rfl
  · obtain ⟨hn1, hn2⟩ := ne_nil_str htk
    have hn3 : (s.data.toList.takeWhile Fd.tok == []) = false := beq_false_of_ne htk
    have hn4 : (s.data.toList.takeWhile Fd.tok).isEmpty = false := by cases hh : s.data.toList.takeWhile Fd.tok with
      | nil => exact absurd hh htk
      | cons _ _ => rfl
    have hn5 : ¬ s.data.toList.takeWhile Fd.tok = [] := htk
    have HSN := hide (lnm.sameName_any ⟨(s.data.toList.takeWhile Fd.tok).toArray⟩ ⟨#[66, 97, 115, 105, 99]⟩ w2 (by rw [str_size]; omega))
    have HLD : Hid (decide (lnm.lowB ⟨(s.data.toList.takeWhile Fd.tok).toArray⟩ = lnm.lowB ⟨#[66, 97, 115, 105, 99]⟩) = decide (Fd.lows (s.data.toList.takeWhile Fd.tok) = Fd.lows nameL)) := rfl
    rw [HLD.out] at HSN
    by_cases hnm : Fd.lows (s.data.toList.takeWhile Fd.tok) = Fd.lows nameL
    · have HV : Hid (∀ ok, basicV ok (X ea) (X es) s.data.toList = credV ok (X ea) (s.data.toList.dropWhile Fd.tok)) := by intro ok; rw [HBV.out, if_neg htk, if_pos hnm]
      rw [decide_eq_true hnm] at HSN
      clear hnm htk
      generalize s.data.toList.takeWhile Fd.tok = TW at *
      obtain ⟨r, hr⟩ : ∃ r, s.data.toList.dropWhile Fd.tok = r := ⟨_, rfl⟩
      rw [hr] at HA2 HV
      have HRR := hide hr
      clear hr
      go_wp2_with fail
      refine HSN.out.mono ?_
      rintro x w3 ⟨rfl, hb3⟩
      have HB3 := hide (keepD HB2.out hb3)
      have HA3 : Hid (At w3 w1.heap.size s r) := by
        have h1 := HA2.out
        refine ⟨h1.1, (hb3.cell (p := ⟨w1.heap.size, 0, none⟩) (World.block_lt_of_cell? _ _ h1.2.c0)).trans h1.2.c0, (hb3.cell (p := ⟨w1.heap.size, 1, none⟩) (World.block_lt_of_cell? _ _ h1.2.c1)).trans h1.2.c1, ?_, h1.2.tab.below hb3⟩
        rw [hb3.frozen (p := ⟨w1.heap.size, 1, none⟩) (World.block_lt_of_cell? _ _ h1.2.c1)]; exact h1.2.f1
      have HS3 : Hid (w1.heap.size ≤ w3.heap.size) := Nat.le_trans HS2.out hb3.size
      clear hb3
      go_wp2_with fail
      refine (credentials_any w1.heap.size s r w3 HA3.out hs HS3.out ea (HE.out.below HB3.out) (Nat.lt_of_lt_of_le hge HW1.out) (HST.out.below HB3.out hgt) (Nat.lt_of_lt_of_le hgt HW1.out)).mono ?_
      rintro x w4 ⟨⟨ok, hok, rfl⟩, hb4⟩
      have HOK := hide hok
      have HB4 : Hid (Below w.heap.size w w4) := HB3.out.trans (hb4.mono HW1.out)
      clear hok hb4
      have hV := HV.out ok
      obtain ⟨a1, a2, a3, hc⟩ := credV_three ok (X ea) r
      rw [hc] at hV ⊢
      have HV2 := hide hV
      clear hV hc
      go_wp2_with fail
      refine bodyPost_ret (results_tmp3 rfl _ _ _) rfl ⟨⟨ok, by rw [HRR.out]; exact HOK.out, ?_⟩, HB4.out⟩
      rw [HV2.out]; rfl
    · have HV : Hid (∀ ok, basicV ok (X ea) (X es) s.data.toList = failV (X es)) := by intro ok; rw [HBV.out, if_neg htk, if_neg hnm]
      rw [decide_eq_false hnm] at HSN
      obtain ⟨ok, hok⟩ := ok_exists (radw.okStd ((s.data.toList.dropWhile Fd.tok).dropWhile isBl))
      have HOK := hide hok
      clear hnm htk hok
      generalize s.data.toList.takeWhile Fd.tok = TW at *
      go_wp2_with fail
      refine HSN.out.mono ?_
      rintro x w3 ⟨rfl, hb3⟩
      have HB3 := hide (keepD HB2.out hb3)
      have hx : w3.cell? ⟨4, 0, none⟩ = some (X es) := HES.out.below HB3.out
      clear hb3
      go_wp2_with fail
      go_quiet (fail)
      go_wp2_with fail
      refine bodyPost_ret (results_tmp3 rfl _ _ _) rfl ⟨⟨ok, HOK.out, ?_⟩, below_drewN HB3.out _⟩
      rw [HV.out]; rfl

end Go.Proofs.YtdkbjefphihplabDoor.fd
