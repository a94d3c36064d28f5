import Derived.Test.YtobflealcldgnaaGreatDoorRcWk
import Derived.Test.YtobflealcldgnaaGreatDoorRcWkA
import Derived.Test.YtobflealcldgnaaGreatDoorRcWkC
import Derived.Test.YtobflealcldgnaaGreatDoorRcLent
import Derived.Test.YtobflealcldgnaaGreatDoorErrWalks
namespace Go.Proofs.YtobflealcldgnaaGreatDoor.rc
open Go.ChangeShapes Go.WideShapes Go.ChangeAt Go.RowKit Go.Proofs.YtobflealcldgnaaGreatDoor.common Go.Proofs.YtobflealcldgnaaGreatDoor.dk

set_option maxRecDepth 100000 in
set_option maxHeartbeats 25600000 in
theorem walkW_6 (b p : Nat) (r : Rec) (v : Value) (w : World) (hk : r.k = 6) (hw : Wr p w []) (hS : Src b p r v w) (hF : r.Fine) :
    Calls Tryz.prog 18 #[.pointer (some ⟨b, 0, none⟩), .iface 49 (.pointer (some ⟨p, 0, none⟩))] w fun e w' => e = .returned (.tuple #[]) ∧ Wr p w' (recL r) ∧ Below p w w' := by
  have n_kind := nil_kind ⟨p, 0, none⟩
  have m_kind := met_kind ⟨p, 0, none⟩
  have n_list := nil_list ⟨p, 0, none⟩
  have m_list := met_list ⟨p, 0, none⟩
  have n_number := nil_number ⟨p, 0, none⟩
  have m_number := met_number ⟨p, 0, none⟩
  have n_text := nil_text ⟨p, 0, none⟩
  have m_text := met_text ⟨p, 0, none⟩
  have hnm : nm (6 : Int) 1 = true := by decide
  have HREC : Hid (recL r = (((((([UInt8.ofNat 6] ++ txL r.id) ++ txL r.cd) ++ txL r.cl) ++ lsL r.ss) ++ txL r.us) ++ numL r.at_.toNat)) := by
    show recL r = _
    unfold recL idL midL endL
    rw [hk, hnm]
    simp
  have HBX : Hid (∀ X, Below p w X → X.cell? ⟨b, 0, none⟩ = some (.int .i64 6) ∧ X.cell? ⟨b, 1, none⟩ = some (.string r.id) ∧ X.cell? ⟨b, 2, none⟩ = some (.string r.us) ∧ X.cell? ⟨b, 3, none⟩ = some (.string r.cl) ∧ X.cell? ⟨b, 4, none⟩ = some (.string r.rd) ∧ X.cell? ⟨b, 5, none⟩ = some (.string r.ch) ∧ X.cell? ⟨b, 6, none⟩ = some (.string r.cd) ∧ X.cell? ⟨b, 7, none⟩ = some v ∧ X.cell? ⟨b, 8, none⟩ = some (.int .i64 ((r.at_.toNat : Nat) : Int))) := fun X hX => by
    have h := hS.box X hX
    have ha : ((r.at_.toNat : Nat) : Int) = r.at_ := Int.toNat_of_nonneg hF.at0
    rw [hk] at h
    rw [ha]
    exact h
  have HN : Hid (∀ X, Below p w X → Calls Tryz.prog 23 #[.int .i64 6, .int .i64 1] X fun e w' => e = .returned (.bool true) ∧ w' = X) := fun X hX => by
    have h := names_any 6 1 X (hS.tab X hX)
    rw [hnm] at h
    exact h
  have HSS := hide hS
  have HFF := hide hF
  have hb := hS.lt
  have hat : r.at_.toNat ≤ 9223372036854775807 := by have := hF.at1; omega
  clear hS hF hk hnm
  obtain ⟨c0, -⟩ := HBX.out w (Below.refl _ _)
  have HK := hide (wkind_any p b 0 6 [] w.drew hw c0 (by decide) (by decide))
  clear hw
  go_enter Tryz.func18, Tryz.ntmps18
  go_wp2_with fail
  go_region_with (go_at_call 204; refine HK.out.mono ?_; rintro x w0 ⟨rfl, hW0, b0⟩)
  have HW0 : Hid (Wr p w0 [UInt8.ofNat 6]) := hW0
  have HB0 : Hid (Below p w w0) := (Below.refl p w).drew.trans b0
  obtain ⟨l0, hl0⟩ : ∃ l0, l0 = [UInt8.ofNat 6] := ⟨_, rfl⟩
  have hz0 : l0.length ≤ 1 := by rw [hl0]; simp
  rw [← hl0] at HW0
  have HE0 := hide hl0
  clear HK c0 hW0 b0 hl0
  obtain ⟨c0, c1, c2, c3, c4, c5, c6, c7, c8⟩ := HBX.out w0 HB0.out
  have HNN := hide (HN.out w0 HB0.out)
  have HT := hide (wtext_any p b 1 r.id l0 w0.drew HW0.out c1 (Or.inl hb) HFF.out.id (by omega))
  go_wp2_with (go_at_call 23; refine HNN.out.mono ?_; rintro x w9 ⟨rfl, h9⟩; obtain rfl := h9.symm)
  go_region_with (go_at_call 207; refine HT.out.mono ?_; rintro x w1 ⟨rfl, hW1, b1⟩)
  have HW1 : Hid (Wr p w1 (l0 ++ txL r.id)) := hW1
  have HB1 : Hid (Below p w w1) := HB0.out.trans ((Below.refl p w0).drew.trans b1)
  obtain ⟨l1, hl1⟩ : ∃ l1, l1 = l0 ++ txL r.id := ⟨_, rfl⟩
  have hz1 : l1.length ≤ 281474987 := by have := txL_len r.id; have := HFF.out.id; rw [hl1, List.length_append]; omega
  rw [← hl1] at HW1
  have HE1 := hide hl1
  clear HT hW1 b1 hl1 c0 c1 c2 c3 c4 c5 c6 c7 c8 HNN
  obtain ⟨c0, c1, c2, c3, c4, c5, c6, c7, c8⟩ := HBX.out w1 HB1.out
  have HT := hide (wtext_any p b 6 r.cd l1 w1.drew HW1.out c6 (Or.inl hb) HFF.out.cd (by omega))
  go_wp2_with fail
  go_region_with (go_at_call 207; refine HT.out.mono ?_; rintro x w2 ⟨rfl, hW2, b2⟩)
  have HW2 : Hid (Wr p w2 (l1 ++ txL r.cd)) := hW2
  have HB2 : Hid (Below p w w2) := HB1.out.trans ((Below.refl p w1).drew.trans b2)
  obtain ⟨l2, hl2⟩ : ∃ l2, l2 = l1 ++ txL r.cd := ⟨_, rfl⟩
  have hz2 : l2.length ≤ 562949973 := by have := txL_len r.cd; have := HFF.out.cd; rw [hl2, List.length_append]; omega
  rw [← hl2] at HW2
  have HE2 := hide hl2
  clear HT hW2 b2 hl2 c0 c1 c2 c3 c4 c5 c6 c7 c8
  obtain ⟨c0, c1, c2, c3, c4, c5, c6, c7, c8⟩ := HBX.out w2 HB2.out
  have HT := hide (wtext_any p b 3 r.cl l2 w2.drew HW2.out c3 (Or.inl hb) HFF.out.cl (by omega))
  go_wp2_with fail
  go_region_with (go_at_call 207; refine HT.out.mono ?_; rintro x w3 ⟨rfl, hW3, b3⟩)
  have HW3 : Hid (Wr p w3 (l2 ++ txL r.cl)) := hW3
  have HB3 : Hid (Below p w w3) := HB2.out.trans ((Below.refl p w2).drew.trans b3)
  obtain ⟨l3, hl3⟩ : ∃ l3, l3 = l2 ++ txL r.cl := ⟨_, rfl⟩
  have hz3 : l3.length ≤ 844424959 := by have := txL_len r.cl; have := HFF.out.cl; rw [hl3, List.length_append]; omega
  rw [← hl3] at HW3
  have HE3 := hide hl3
  clear HT hW3 b3 hl3 c0 c1 c2 c3 c4 c5 c6 c7 c8
  obtain ⟨c0, c1, c2, c3, c4, c5, c6, c7, c8⟩ := HBX.out w3 HB3.out
  have HT := hide (wlist_any p b 7 v r.ss l3 w3.drew HW3.out c7 hb (fun X hX => HSS.out.own X (HB3.out.trans ((Below.refl p w3).drew.trans hX))) HFF.out.len HFF.out.ss (by omega))
  go_wp2_with fail
  go_region_with (go_at_call 205; refine HT.out.mono ?_; rintro x w4 ⟨rfl, hW4, b4⟩)
  have HW4 : Hid (Wr p w4 (l3 ++ lsL r.ss)) := hW4
  have HB4 : Hid (Below p w w4) := HB3.out.trans ((Below.refl p w3).drew.trans b4)
  obtain ⟨l4, hl4⟩ : ∃ l4, l4 = l3 ++ lsL r.ss := ⟨_, rfl⟩
  have hz4 : l4.length ≤ 5348024745 := by have := lsL_len r.ss HFF.out.len HFF.out.ss; rw [hl4, List.length_append]; omega
  rw [← hl4] at HW4
  have HE4 := hide hl4
  clear HT hW4 b4 hl4 c0 c1 c2 c3 c4 c5 c6 c7 c8
  obtain ⟨c0, c1, c2, c3, c4, c5, c6, c7, c8⟩ := HBX.out w4 HB4.out
  have HT := hide (wtext_any p b 2 r.us l4 w4.drew HW4.out c2 (Or.inl hb) HFF.out.us (by omega))
  go_wp2_with fail
  go_region_with (go_at_call 207; refine HT.out.mono ?_; rintro x w5 ⟨rfl, hW5, b5⟩)
  have HW5 : Hid (Wr p w5 (l4 ++ txL r.us)) := hW5
  have HB5 : Hid (Below p w w5) := HB4.out.trans ((Below.refl p w4).drew.trans b5)
  obtain ⟨l5, hl5⟩ : ∃ l5, l5 = l4 ++ txL r.us := ⟨_, rfl⟩
  have hz5 : l5.length ≤ 5629499731 := by have := txL_len r.us; have := HFF.out.us; rw [hl5, List.length_append]; omega
  rw [← hl5] at HW5
  have HE5 := hide hl5
  clear HT hW5 b5 hl5 c0 c1 c2 c3 c4 c5 c6 c7 c8
  obtain ⟨c0, c1, c2, c3, c4, c5, c6, c7, c8⟩ := HBX.out w5 HB5.out
  have HT := hide (wnumber_any p b 8 r.at_.toNat l5 w5.drew HW5.out c8 hat (by omega))
  go_wp2_with fail
  go_region_with (go_at_call 206; refine HT.out.mono ?_; rintro x w6 ⟨rfl, hW6, b6⟩)
  have HW6 : Hid (Wr p w6 (l5 ++ numL r.at_.toNat)) := hW6
  have HB6 : Hid (Below p w w6) := HB5.out.trans ((Below.refl p w5).drew.trans b6)
  obtain ⟨l6, hl6⟩ : ∃ l6, l6 = l5 ++ numL r.at_.toNat := ⟨_, rfl⟩
  have hz6 : l6.length ≤ 5629499741 := by have : (numL r.at_.toNat).length ≤ 10 := (numF_len 9 _).2; rw [hl6, List.length_append]; omega
  rw [← hl6] at HW6
  have HE6 := hide hl6
  clear HT hW6 b6 hl6 c0 c1 c2 c3 c4 c5 c6 c7 c8
  obtain ⟨c0, -⟩ := HBX.out w6 HB6.out
  go_wp2_with fail
  first | go_end0 | refine bodyPost_end (results_none rfl _ _ _) rfl ?_
  refine ⟨rfl, ?_, HB6.out⟩
  have h := HW6.out
  rw [HE6.out, HE5.out, HE4.out, HE3.out, HE2.out, HE1.out, HE0.out] at h
  rw [HREC.out]
  exact h

set_option maxRecDepth 100000 in
set_option maxHeartbeats 25600000 in
theorem walkW_9 (b p : Nat) (r : Rec) (v : Value) (w : World) (hk : r.k = 9) (hw : Wr p w []) (hS : Src b p r v w) (hF : r.Fine) :
    Calls Tryz.prog 18 #[.pointer (some ⟨b, 0, none⟩), .iface 49 (.pointer (some ⟨p, 0, none⟩))] w fun e w' => e = .returned (.tuple #[]) ∧ Wr p w' (recL r) ∧ Below p w w' := by
  have n_kind := nil_kind ⟨p, 0, none⟩
  have m_kind := met_kind ⟨p, 0, none⟩
  have n_list := nil_list ⟨p, 0, none⟩
  have m_list := met_list ⟨p, 0, none⟩
  have n_number := nil_number ⟨p, 0, none⟩
  have m_number := met_number ⟨p, 0, none⟩
  have n_text := nil_text ⟨p, 0, none⟩
  have m_text := met_text ⟨p, 0, none⟩
  have hnm : nm (9 : Int) 1 = true := by decide
  have HREC : Hid (recL r = (((((([UInt8.ofNat 9] ++ txL r.id) ++ txL r.cd) ++ txL r.cl) ++ lsL r.ss) ++ txL r.us) ++ numL r.at_.toNat)) := by
    show recL r = _
    unfold recL idL midL endL
    rw [hk, hnm]
    simp
  have HBX : Hid (∀ X, Below p w X → X.cell? ⟨b, 0, none⟩ = some (.int .i64 9) ∧ X.cell? ⟨b, 1, none⟩ = some (.string r.id) ∧ X.cell? ⟨b, 2, none⟩ = some (.string r.us) ∧ X.cell? ⟨b, 3, none⟩ = some (.string r.cl) ∧ X.cell? ⟨b, 4, none⟩ = some (.string r.rd) ∧ X.cell? ⟨b, 5, none⟩ = some (.string r.ch) ∧ X.cell? ⟨b, 6, none⟩ = some (.string r.cd) ∧ X.cell? ⟨b, 7, none⟩ = some v ∧ X.cell? ⟨b, 8, none⟩ = some (.int .i64 ((r.at_.toNat : Nat) : Int))) := fun X hX => by
    have h := hS.box X hX
    have ha : ((r.at_.toNat : Nat) : Int) = r.at_ := Int.toNat_of_nonneg hF.at0
    rw [hk] at h
    rw [ha]
    exact h
  have HN : Hid (∀ X, Below p w X → Calls Tryz.prog 23 #[.int .i64 9, .int .i64 1] X fun e w' => e = .returned (.bool true) ∧ w' = X) := fun X hX => by
    have h := names_any 9 1 X (hS.tab X hX)
    rw [hnm] at h
    exact h
  have HSS := hide hS
  have HFF := hide hF
  have hb := hS.lt
  have hat : r.at_.toNat ≤ 9223372036854775807 := by have := hF.at1; omega
  clear hS hF hk hnm
  obtain ⟨c0, -⟩ := HBX.out w (Below.refl _ _)
  have HK := hide (wkind_any p b 0 9 [] w.drew hw c0 (by decide) (by decide))
  clear hw
  go_enter Tryz.func18, Tryz.ntmps18
  go_wp2_with fail
  go_region_with (go_at_call 204; refine HK.out.mono ?_; rintro x w0 ⟨rfl, hW0, b0⟩)
  have HW0 : Hid (Wr p w0 [UInt8.ofNat 9]) := hW0
  have HB0 : Hid (Below p w w0) := (Below.refl p w).drew.trans b0
  obtain ⟨l0, hl0⟩ : ∃ l0, l0 = [UInt8.ofNat 9] := ⟨_, rfl⟩
  have hz0 : l0.length ≤ 1 := by rw [hl0]; simp
  rw [← hl0] at HW0
  have HE0 := hide hl0
  clear HK c0 hW0 b0 hl0
  obtain ⟨c0, c1, c2, c3, c4, c5, c6, c7, c8⟩ := HBX.out w0 HB0.out
  have HNN := hide (HN.out w0 HB0.out)
  have HT := hide (wtext_any p b 1 r.id l0 w0.drew HW0.out c1 (Or.inl hb) HFF.out.id (by omega))
  go_wp2_with (go_at_call 23; refine HNN.out.mono ?_; rintro x w9 ⟨rfl, h9⟩; obtain rfl := h9.symm)
  go_region_with (go_at_call 207; refine HT.out.mono ?_; rintro x w1 ⟨rfl, hW1, b1⟩)
  have HW1 : Hid (Wr p w1 (l0 ++ txL r.id)) := hW1
  have HB1 : Hid (Below p w w1) := HB0.out.trans ((Below.refl p w0).drew.trans b1)
  obtain ⟨l1, hl1⟩ : ∃ l1, l1 = l0 ++ txL r.id := ⟨_, rfl⟩
  have hz1 : l1.length ≤ 281474987 := by have := txL_len r.id; have := HFF.out.id; rw [hl1, List.length_append]; omega
  rw [← hl1] at HW1
  have HE1 := hide hl1
  clear HT hW1 b1 hl1 c0 c1 c2 c3 c4 c5 c6 c7 c8 HNN
  obtain ⟨c0, c1, c2, c3, c4, c5, c6, c7, c8⟩ := HBX.out w1 HB1.out
  have HT := hide (wtext_any p b 6 r.cd l1 w1.drew HW1.out c6 (Or.inl hb) HFF.out.cd (by omega))
  go_wp2_with fail
  go_region_with (go_at_call 207; refine HT.out.mono ?_; rintro x w2 ⟨rfl, hW2, b2⟩)
  have HW2 : Hid (Wr p w2 (l1 ++ txL r.cd)) := hW2
  have HB2 : Hid (Below p w w2) := HB1.out.trans ((Below.refl p w1).drew.trans b2)
  obtain ⟨l2, hl2⟩ : ∃ l2, l2 = l1 ++ txL r.cd := ⟨_, rfl⟩
  have hz2 : l2.length ≤ 562949973 := by have := txL_len r.cd; have := HFF.out.cd; rw [hl2, List.length_append]; omega
  rw [← hl2] at HW2
  have HE2 := hide hl2
  clear HT hW2 b2 hl2 c0 c1 c2 c3 c4 c5 c6 c7 c8
  obtain ⟨c0, c1, c2, c3, c4, c5, c6, c7, c8⟩ := HBX.out w2 HB2.out
  have HT := hide (wtext_any p b 3 r.cl l2 w2.drew HW2.out c3 (Or.inl hb) HFF.out.cl (by omega))
  go_wp2_with fail
  go_region_with (go_at_call 207; refine HT.out.mono ?_; rintro x w3 ⟨rfl, hW3, b3⟩)
  have HW3 : Hid (Wr p w3 (l2 ++ txL r.cl)) := hW3
  have HB3 : Hid (Below p w w3) := HB2.out.trans ((Below.refl p w2).drew.trans b3)
  obtain ⟨l3, hl3⟩ : ∃ l3, l3 = l2 ++ txL r.cl := ⟨_, rfl⟩
  have hz3 : l3.length ≤ 844424959 := by have := txL_len r.cl; have := HFF.out.cl; rw [hl3, List.length_append]; omega
  rw [← hl3] at HW3
  have HE3 := hide hl3
  clear HT hW3 b3 hl3 c0 c1 c2 c3 c4 c5 c6 c7 c8
  obtain ⟨c0, c1, c2, c3, c4, c5, c6, c7, c8⟩ := HBX.out w3 HB3.out
  have HT := hide (wlist_any p b 7 v r.ss l3 w3.drew HW3.out c7 hb (fun X hX => HSS.out.own X (HB3.out.trans ((Below.refl p w3).drew.trans hX))) HFF.out.len HFF.out.ss (by omega))
  go_wp2_with fail
  go_region_with (go_at_call 205; refine HT.out.mono ?_; rintro x w4 ⟨rfl, hW4, b4⟩)
  have HW4 : Hid (Wr p w4 (l3 ++ lsL r.ss)) := hW4
  have HB4 : Hid (Below p w w4) := HB3.out.trans ((Below.refl p w3).drew.trans b4)
  obtain ⟨l4, hl4⟩ : ∃ l4, l4 = l3 ++ lsL r.ss := ⟨_, rfl⟩
  have hz4 : l4.length ≤ 5348024745 := by have := lsL_len r.ss HFF.out.len HFF.out.ss; rw [hl4, List.length_append]; omega
  rw [← hl4] at HW4
  have HE4 := hide hl4
  clear HT hW4 b4 hl4 c0 c1 c2 c3 c4 c5 c6 c7 c8
  obtain ⟨c0, c1, c2, c3, c4, c5, c6, c7, c8⟩ := HBX.out w4 HB4.out
  have HT := hide (wtext_any p b 2 r.us l4 w4.drew HW4.out c2 (Or.inl hb) HFF.out.us (by omega))
  go_wp2_with fail
  go_region_with (go_at_call 207; refine HT.out.mono ?_; rintro x w5 ⟨rfl, hW5, b5⟩)
  have HW5 : Hid (Wr p w5 (l4 ++ txL r.us)) := hW5
  have HB5 : Hid (Below p w w5) := HB4.out.trans ((Below.refl p w4).drew.trans b5)
  obtain ⟨l5, hl5⟩ : ∃ l5, l5 = l4 ++ txL r.us := ⟨_, rfl⟩
  have hz5 : l5.length ≤ 5629499731 := by have := txL_len r.us; have := HFF.out.us; rw [hl5, List.length_append]; omega
  rw [← hl5] at HW5
  have HE5 := hide hl5
  clear HT hW5 b5 hl5 c0 c1 c2 c3 c4 c5 c6 c7 c8
  obtain ⟨c0, c1, c2, c3, c4, c5, c6, c7, c8⟩ := HBX.out w5 HB5.out
  have HT := hide (wnumber_any p b 8 r.at_.toNat l5 w5.drew HW5.out c8 hat (by omega))
  go_wp2_with fail
  go_region_with (go_at_call 206; refine HT.out.mono ?_; rintro x w6 ⟨rfl, hW6, b6⟩)
  have HW6 : Hid (Wr p w6 (l5 ++ numL r.at_.toNat)) := hW6
  have HB6 : Hid (Below p w w6) := HB5.out.trans ((Below.refl p w5).drew.trans b6)
  obtain ⟨l6, hl6⟩ : ∃ l6, l6 = l5 ++ numL r.at_.toNat := ⟨_, rfl⟩
  have hz6 : l6.length ≤ 5629499741 := by have : (numL r.at_.toNat).length ≤ 10 := (numF_len 9 _).2; rw [hl6, List.length_append]; omega
  rw [← hl6] at HW6
  have HE6 := hide hl6
  clear HT hW6 b6 hl6 c0 c1 c2 c3 c4 c5 c6 c7 c8
  obtain ⟨c0, -⟩ := HBX.out w6 HB6.out
  go_wp2_with fail
  first | go_end0 | refine bodyPost_end (results_none rfl _ _ _) rfl ?_
  refine ⟨rfl, ?_, HB6.out⟩
  have h := HW6.out
  rw [HE6.out, HE5.out, HE4.out, HE3.out, HE2.out, HE1.out, HE0.out] at h
  rw [HREC.out]
  exact h
end Go.Proofs.YtobflealcldgnaaGreatDoor.rc

namespace Go.Proofs.YtobflealcldgnaaGreatDoor.rc
open Go.ChangeShapes Go.WideShapes Go.ChangeAt Go.RowKit Go.Proofs.YtobflealcldgnaaGreatDoor.common Go.Proofs.YtobflealcldgnaaGreatDoor.dk

theorem kindsI (k : Int) (h0 : 0 < k) (h1 : k < 12) : k = 1 ∨ k = 2 ∨ k = 3 ∨ k = 4 ∨ k = 5 ∨ k = 6 ∨ k = 7 ∨ k = 8 ∨ k = 9 ∨ k = 10 ∨ k = 11 := by omega
theorem walkW_any (b p : Nat) (r : Rec) (v : Value) (w : World) (h0 : 0 < r.k) (h1 : r.k < 12) (hw : Wr p w []) (hS : Src b p r v w) (hF : r.Fine) :
    Calls Tryz.prog 18 #[.pointer (some ⟨b, 0, none⟩), .iface 49 (.pointer (some ⟨p, 0, none⟩))] w fun e w' => e = .returned (.tuple #[]) ∧ Wr p w' (recL r) ∧ Below p w w' := by
  rcases kindsI r.k h0 h1 with h | h | h | h | h | h | h | h | h | h | h
  · exact walkW_1 b p r v w h hw hS hF
  · exact walkW_2 b p r v w h hw hS hF
  · exact walkW_3 b p r v w h hw hS hF
  · exact walkW_4 b p r v w h hw hS hF
  · exact walkW_5 b p r v w h hw hS hF
  · exact walkW_6 b p r v w h hw hS hF
  · exact walkW_7 b p r v w h hw hS hF
  · exact walkW_8 b p r v w h hw hS hF
  · exact walkW_9 b p r v w h hw hS hF
  · exact walkW_10 b p r v w h hw hS hF
  · exact walkW_11 b p r v w h hw hS hF
/-- no text is long -/
structure Rec.Low (r : Rec) : Prop where
  id : r.id.size ≤ 1048576
  us : r.us.size ≤ 1048576
  cl : r.cl.size ≤ 1048576
  rd : r.rd.size ≤ 1048576
  ch : r.ch.size ≤ 1048576
  cd : r.cd.size ≤ 1048576
  ss : ∀ s ∈ r.ss, s.size ≤ 1048576
theorem fine_of {r : Rec} (h : mayB r = true) (hl : r.Low) : 0 < r.k ∧ r.k < 12 ∧ r.Fine := by
  unfold mayB isK at h
  simp only [Bool.and_eq_true, decide_eq_true_eq] at h
  obtain ⟨⟨k0, k1⟩, _, _, _, _, _, _, hL, hT⟩ := h
  have hlen : r.ss.length ≤ 16 := by
    unfold fitL at hL
    split at hL
    · simp only [Bool.and_eq_true, decide_eq_true_eq] at hL
      exact hL.1.1.2
    · simp only [decide_eq_true_eq] at hL
      omega
  have hat : 0 ≤ r.at_ ∧ r.at_ ≤ 1099511627776 := by
    unfold fitT at hT
    split at hT
    · simpa only [Bool.and_eq_true, decide_eq_true_eq] using hT
    · simp only [decide_eq_true_eq] at hT
      omega
  have hid := hl.id
  have hus := hl.us
  have hcl := hl.cl
  have hrd := hl.rd
  have hch := hl.ch
  have hcd := hl.cd
  exact ⟨k0, k1, by omega, by omega, by omega, by omega, by omega, by omega, hlen, fun s hs => by have := hl.ss s hs; omega, hat.1, by omega⟩
theorem recL_len {r : Rec} (hl : r.Low) (hn : r.ss.length ≤ 16) : (recL r).length ≤ 30000000 := by
  have t1 := txL_len r.id
  have t2 := txL_len r.us
  have t3 := txL_len r.cl
  have t4 := txL_len r.rd
  have t5 := txL_len r.ch
  have t6 := txL_len r.cd
  have hid := hl.id
  have hus := hl.us
  have hcl := hl.cl
  have hrd := hl.rd
  have hch := hl.ch
  have hcd := hl.cd
  have n1 : (numL r.at_.toNat).length ≤ 10 := (numF_len 9 r.at_.toNat).2
  have s1 : (lsL r.ss).length ≤ 10 + 16 * (1048576 + 10) := by
    unfold lsL
    have h3 := flat_len r.ss 1048576 hl.ss
    have h4 : (numL r.ss.length).length ≤ 10 := (numF_len 9 r.ss.length).2
    have h5 := Nat.mul_le_mul_right (1048576 + 10) hn
    rw [List.length_append]
    omega
  have i1 : (idL r).length ≤ 1048586 := by unfold idL; split <;> (try simp) <;> omega
  have i2 : (midL r).length ≤ 2097172 := by unfold midL; split <;> (try split) <;> (try simp) <;> omega
  have i3 : (endL r).length ≤ 20000000 := by unfold endL; split <;> (try split) <;> (try split) <;> (try simp) <;> omega
  unfold recL
  simp only [List.length_append, List.length_cons, List.length_nil]
  omega

/-- what is answered: a row of one's own, no error; or nothing, and the refusal -/
def EncOut (r : Rec) (eA : Value) (w : World) (x : Ending) (w' : World) : Prop :=
  ∃ v', x = .returned (.tuple #[v', if mayB r then .nilIface else eA]) ∧ (∃ n, w.heap.size ≤ n ∧ w'.ownsRow n 5 1 v' (if mayB r then recL r else []).length ((if mayB r then recL r else []).map B)) ∧ Below w.heap.size w w'

set_option maxRecDepth 100000 in
set_option maxHeartbeats 3200000 in
theorem encode_any (r : Rec) (v : Value) (ea em : Addr) (e : Nat → Addr) (w : World) (hv : Go.Proofs.YtobflealcldgnaaGreatDoor.ss.Lies w v r.ss) (hz : r.Small) (hl : r.Low) (he : Env ea em (errw.E e 0) w) :
    Calls Tryz.prog 12 #[.agg (rcs r v)] w (EncOut r (errw.E e 0) w) := by
  obtain ⟨W0, hW0⟩ : ∃ W0, W0 = w.alloc (.cells (rcs r v) 26) := ⟨_, rfl⟩
  have hb0 : Below w.heap.size w W0 := by rw [hW0]; exact (Below.refl _ _).alloc (Nat.le_refl _) _
  have hs0 : W0.heap.size = w.heap.size + 1 := by rw [hW0]; simp
  have HC : Hid (BoxR W0 w.heap.size r v) := by show BoxR _ _ _ _; rw [hW0]; exact boxR w r v _
  have HM := hide (check_any r v ea em (errw.E e 0) W0 (hv.below hb0) hz (he.below hb0))
  have HE : Hid (∀ X, Below w.heap.size w X → KTab X) := fun X hX => (he.below hX).kt
  have HV : Hid (∀ X, Below w.heap.size w X → Go.Proofs.YtobflealcldgnaaGreatDoor.ss.Lies X v r.ss) := fun X hX => hv.below hX
  have HB0 := hide hb0
  have HR : Hid (W0.rangeAt w.heap.size 0 [.int .i64 r.k, .string r.id, .string r.us, .string r.cl, .string r.rd, .string r.ch, .string r.cd, v, .int .i64 r.at_]) := by
    show World.rangeAt _ _ _ _
    rw [hW0]
    exact range_of (heap_alloc_new w _)
  have HS0 := hide hs0
  have HW0 := hide hW0
  clear hv he hb0 hW0 hs0
  unfold EncOut
  cases hm : mayB r with
  | false =>
    rw [hm] at HM
    simp only [Bool.false_eq_true, if_false]
    clear hm
    go_enter Tryz.func12, Tryz.ntmps12
    rw [HW0.out] at HR
    go_wp2_with (refine wpList_load_mid rfl 26 (.tmp 1) rfl w.heap.size 0 rfl _ _ HR.out Tryz.underlying26 rfl sizeRec ?_)
    rw [← HW0.out]
    refine HM.out.mono ?_
    rintro x w2 ⟨rfl, b2⟩
    have HB := hide (keepW HB0.out b2)
    clear b2
    go_wp2_with fail
    go_ret2
    exact ⟨_, rfl, ⟨_, Nat.le_refl _, World.ownsRow_nil _ _ _ _⟩, HB.out⟩
  | true =>
    rw [hm] at HM
    obtain ⟨k0, k1, hF⟩ := fine_of hm hl
    have HK0 := hide k0
    have HK1 := hide k1
    have HF := hide hF
    simp only [if_true]
    clear hm k0 k1 hF
    go_enter Tryz.func12, Tryz.ntmps12
    rw [HW0.out] at HR
    go_wp2_with (refine wpList_load_mid rfl 26 (.tmp 1) rfl w.heap.size 0 rfl _ _ HR.out Tryz.underlying26 rfl sizeRec ?_)
    rw [← HW0.out]
    refine HM.out.mono ?_
    rintro x w2 ⟨rfl, b2⟩
    have hz2 : w.heap.size < w2.heap.size := by have := b2.size; have := HS0.out; omega
    obtain ⟨X, hX⟩ : ∃ X, X = w2.alloc (.cells #[.slice none 0 0] 46) := ⟨_, rfl⟩
    have bX : Below w2.heap.size w2 X := by rw [hX]; exact (Below.refl _ _).alloc (Nat.le_refl _) _
    have hwr : Wr w2.heap.size X [] := ⟨.slice none 0 0, by rw [hX]; exact heap_alloc_new w2 _, World.ownsRow_nil _ _ _ _⟩
    have bl : Below w.heap.size w w2 := keepW HB0.out b2
    have hsrc : Src w.heap.size w2.heap.size r v X := by
      have hbel : ∀ Y, Below w2.heap.size X Y → Below w2.heap.size w2 Y := fun Y hY => bX.trans hY
      exact ⟨hz2, fun Y hY => HC.out Y (keepW b2 (hbel Y hY)), fun Y hY => HV.out Y (keepW bl (hbel Y hY)), fun Y hY => HE.out Y (keepW bl (hbel Y hY))⟩
    have HWK := hide (walkW_any w.heap.size w2.heap.size r v X HK0.out HK1.out hwr hsrc HF.out)
    have HBX : Hid (∀ Y, Below w2.heap.size X Y → Below w.heap.size w Y) := fun Y hY => keepW bl (bX.trans hY)
    have HX := hide hX
    have HZ2 : Hid (w.heap.size ≤ w2.heap.size + 1) := by show _ ≤ _; omega
    clear b2 hz2 hX bX hwr bl hsrc
    go_wp2_with fail
    rw [← HX.out]
    refine HWK.out.mono ?_
    rintro x w3 ⟨rfl, ⟨v3, hb3, hown3⟩, b3⟩
    have c3 := cell_of hb3 0
    obtain ⟨o3, cp3, hv3⟩ := own_slice hown3
    have HO3 := hide hown3
    have HB3 := hide (HBX.out _ b3)
    clear hb3 hown3 b3
    subst hv3
    go_wp2_with fail
    go_ret2
    exact ⟨_, rfl, ⟨_, HZ2.out, HO3.out⟩, HB3.out⟩
end Go.Proofs.YtobflealcldgnaaGreatDoor.rc
