import Derived.Test.YtdkbjefphihplabDoorBasicW2
namespace Go.Proofs.YtdkbjefphihplabDoor.fd
open Go.ChangeShapes Go.WideShapes Go.ChangeAt Go.RowKit Go.Proofs.YtdkbjefphihplabDoor.common Go.Proofs.YtdkbjefphihplabDoor.bk
attribute [local go_sem ↓] Go.wp_at_zero Go.wp_at_succ

theorem coded_len (l : List UInt8) : (codedL l).length ≤ l.length := by
  unfold codedL
  rw [Rad.un64_len]
  have h1 := radw.lets0_len l
  have h2 := radw.trimN_le l l.length
  unfold Rad.n8
  omega
theorem before_len (c : UInt8) (l : List UInt8) : (before c l).length ≤ l.length := (List.takeWhile_prefix _).length_le
theorem behind_len (c : UInt8) (l : List UInt8) : (behind c l).length ≤ l.length := by
  unfold behind
  have := (List.dropWhile_suffix (l := l) fun x => decide (x ≠ c)).length_le
  rw [List.length_tail]; omega
theorem dropBl_len (l : List UInt8) : (l.dropWhile isBl).length ≤ l.length := (List.dropWhile_suffix _).length_le

set_option maxRecDepth 100000 in
set_option maxHeartbeats 3200000 in
theorem credentials_any (b : Nat) (s : ByteArray) (l : List UInt8) (w : World) (h : At w b s l) (hs : s.size ≤ reachBytes) (hb : b ≤ w.heap.size) (ea : Addr) (he : Ev 1 w (X ea)) (hge : 1 < b) (ht : radw.StdTab w) (hgt : 13 < b) :
    Calls Tryd.prog 54 #[ptr b] w fun e w' => (∃ ok : Bool, (ok = true ↔ radw.okStd (l.dropWhile isBl)) ∧ e = .returned (credV ok (X ea) l)) ∧ Below b w w' := by
  have hsz : s.size ≤ 4611686018427387904 := by unfold reachBytes at hs; omega
  have hll := h.len
  have H1 := hide (takeWhile_p b s l _ isBl w h hsz enters_blank (fun W c => isBlank_any c W))
  have HE := hide he
  have HT := hide ht
  have hdl := dropBl_len l
  have hcl := coded_len (l.dropWhile isBl)
  clear h he ht
  by_cases hbl : l.takeWhile isBl = []
  · have HV : Hid (∀ ok, credV ok (X ea) l = failV (X ea)) := by intro ok; unfold credV; rw [if_pos hbl]
    rw [hbl] at H1
    obtain ⟨ok, hok⟩ : ∃ ok : Bool, ok = true ↔ radw.okStd (l.dropWhile isBl) := by
      by_cases hh : radw.okStd (l.dropWhile isBl)
      · exact ⟨true, Iff.intro (fun _ => hh) (fun _ => rfl)⟩
      · exact ⟨false, Iff.intro (fun e => Bool.noConfusion e) (fun e => absurd e hh)⟩
    have HOK := hide hok
    clear hok
    go_enter Tryd.func54, Tryd.ntmps54
    go_wp2_with fail
    refine H1.out.mono ?_
    rintro x w1 ⟨rfl, ha, hm⟩
    have HM := hide hm
    have hx : w1.cell? ⟨1, 0, none⟩ = some (X ea) := (hm.below.cell (p := ⟨1, 0, none⟩) hge).trans HE.out
    clear ha hm
    go_wp2_with fail
    go_quiet (fail)
    go_wp2_with fail
    refine bodyPost_ret (results_tmp3 rfl _ _ _) rfl ⟨⟨ok, HOK.out, ?_⟩, below_drewN HM.out.below _⟩
    rw [HV.out]; rfl
  · obtain ⟨hn1, hn2⟩ := ne_nil_str hbl
    have hn3 : (l.takeWhile isBl == []) = false := beq_false_of_ne hbl
    have hn4 : (l.takeWhile isBl).isEmpty = false := by cases hh : l.takeWhile isBl with
      | nil => exact absurd hh hbl
      | cons _ _ => rfl
    have hn5 : ¬ l.takeWhile isBl = [] := hbl
    have HV : Hid (∀ ok, credV ok (X ea) l = if ok && (codedL (l.dropWhile isBl)).contains 58 then unV (X ea) (before 58 (codedL (l.dropWhile isBl))) (behind 58 (codedL (l.dropWhile isBl))) else failV (X ea)) := by intro ok; unfold credV; rw [if_neg hbl]
    clear hbl
    generalize l.takeWhile isBl = TW at *
    generalize l.dropWhile isBl = r at *
    go_enter Tryd.func54, Tryd.ntmps54
    go_wp2_with fail
    refine H1.out.mono ?_
    rintro x w1 ⟨rfl, ha, hm⟩
    have HM := hide hm
    have HA := hide ha
    have HE1 : Hid (Ev 1 w1 (X ea)) := (hm.below.cell (p := ⟨1, 0, none⟩) hge).trans HE.out
    have HT1 : Hid (radw.StdTab w1) := HT.out.below hm.below hgt
    have HS1 : Hid (b ≤ w1.heap.size) := Nat.le_trans hb (Nat.le_of_eq hm.size.symm)
    clear ha hm
    go_wp2_with fail
    refine (rest_any b s r w1 HA.out).mono ?_
    rintro x w2 ⟨rfl, q, rfl⟩
    go_wp2_with fail
    refine (radw.unstd_any ⟨r.toArray⟩ (w1.drewN q) (by rw [str_size]; omega) ea HE1.out HT1.out).mono ?_
    rintro x w3 ⟨hb3, ⟨hok, rfl⟩ | ⟨hok, rfl⟩⟩
    · have HB3 : Hid (Below b w w3) := (below_drewN HM.out.below q).trans (hb3.mono HS1.out)
      have HE3 : Hid (Ev 1 w3 (X ea)) := Ev.below (w := w1.drewN q) HE1.out hb3
      have HS3 : Hid (b ≤ w3.heap.size) := Nat.le_trans HS1.out hb3.size
      have HOK : Hid (radw.okStd r) := hok
      change Hid (∀ ok, credV ok (X ea) l = _) at HV
      have HC : Hid (Rad.un64 Rad.stdT (radw.lets0 r) = codedL r) := rfl
      clear hb3 hok
      rw [str_list, HC.out]
      have hbf := before_len 58 (codedL r)
      have hbh := behind_len 58 (codedL r)
      have HCUT := hide (cut_any ⟨(codedL r).toArray⟩ 58 w3 (by rw [str_size]; omega))
      rw [str_list] at HCUT
      cases hc : (codedL r).contains 58 with
      | false =>
        rw [hc] at HCUT
        have HR2 : Hid (credV true (X ea) l = failV (X ea)) := by show _ = _; rw [HV.out, hc]; rfl
        clear hc
        go_wp2_with fail
        refine HCUT.out.mono ?_
        rintro x w4 ⟨rfl, hb4⟩
        have hx : w4.cell? ⟨1, 0, none⟩ = some (X ea) := HE3.out.below hb4
        have HB4 : Hid (Below b w w4) := HB3.out.trans (hb4.mono HS3.out)
        clear hb4
        go_wp2_with fail
        go_quiet (fail)
        go_wp2_with fail
        refine bodyPost_ret (results_tmp3 rfl _ _ _) rfl ⟨⟨true, ⟨fun _ => HOK.out, fun _ => rfl⟩, ?_⟩, below_drewN HB4.out _⟩
        rw [HR2.out]; rfl
      | true =>
        rw [hc] at HCUT
        have HR2 : Hid (credV true (X ea) l = unV (X ea) (before 58 (codedL r)) (behind 58 (codedL r))) := by show _ = _; rw [HV.out, hc]; rfl
        clear hc
        go_wp2_with fail
        refine HCUT.out.mono ?_
        rintro x w4 ⟨rfl, hb4⟩
        have HE4 : Hid (Ev 1 w4 (X ea)) := HE3.out.below hb4
        have HB4 : Hid (Below b w w4) := HB3.out.trans (hb4.mono HS3.out)
        have HS4 : Hid (b ≤ w4.heap.size) := Nat.le_trans HS3.out hb4.size
        clear hb4
        have HUN := hide (unBoth_any ⟨(before 58 (codedL r)).toArray⟩ ⟨(behind 58 (codedL r)).toArray⟩ w4 (by rw [str_size]; omega) (by rw [str_size]; omega) ea HE4.out)
        rw [str_list, str_list] at HUN
        obtain ⟨R, hR⟩ : ∃ R, R = unV (X ea) (before 58 (codedL r)) (behind 58 (codedL r)) := ⟨_, rfl⟩
        rw [← hR] at HUN HR2
        have hsh : ∃ a1 a2 a3, R = .tuple #[a1, a2, a3] := by
          rw [hR]
          unfold unV
          split
          · exact ⟨_, _, _, rfl⟩
          · exact ⟨_, _, _, rfl⟩
        obtain ⟨a1, a2, a3, hRR⟩ := hsh
        rw [hRR] at HUN HR2
        clear hR hRR
        go_wp2_with fail
        refine HUN.out.mono ?_
        rintro x w5 ⟨rfl, hb5⟩
        have HB5 : Hid (Below b w w5) := HB4.out.trans (hb5.mono HS4.out)
        clear hb5
        go_wp2_with fail
        refine bodyPost_ret (results_tmp3 rfl _ _ _) rfl ⟨⟨true, ⟨fun _ => HOK.out, fun _ => rfl⟩, ?_⟩, HB5.out⟩
        rw [HR2.out]; rfl
    · have HB3 : Hid (Below b w w3) := (below_drewN HM.out.below q).trans (hb3.mono HS1.out)
      have hx : w3.cell? ⟨1, 0, none⟩ = some (X ea) := Ev.below (w := w1.drewN q) HE1.out hb3
      have HOK : Hid (¬ radw.okStd r) := hok
      have HR2 : Hid (credV false (X ea) l = failV (X ea)) := by show _ = _; rw [HV.out]; rfl
      clear hb3 hok
      go_wp2_with fail
      go_quiet (fail)
      go_wp2_with fail
      refine bodyPost_ret (results_tmp3 rfl _ _ _) rfl ⟨⟨false, Iff.intro (fun e => Bool.noConfusion e) (fun e => absurd e HOK.out), ?_⟩, below_drewN HB3.out _⟩
      rw [HR2.out]; rfl

end Go.Proofs.YtdkbjefphihplabDoor.fd
