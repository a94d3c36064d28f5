import Derived.Test.YtocpikgcbibcoaaGreatDoorMRcWk
namespace Go.Proofs.YtocpikgcbibcoaaGreatDoor.rc
open Go.ChangeShapes Go.WideShapes Go.ChangeAt Go.RowKit Go.Proofs.YtocpikgcbibcoaaGreatDoor.common Go.Proofs.YtocpikgcbibcoaaGreatDoor.dk

set_option maxRecDepth 100000 in
set_option maxHeartbeats 25600000 in
theorem walkW_4 (b p : Nat) (r : Rec) (v : Value) (w : World) (hk : r.k = 4) (hw : Wr p w []) (hS : Src b p r v w) (hF : r.Fine) :
    Calls Tryz.prog 22 #[.pointer (some ⟨b, 0, none⟩), .iface 53 (.pointer (some ⟨p, 0, none⟩))] w fun e w' => e = .returned (.tuple #[]) ∧ Wr p w' (recL r) ∧ Below p w w' := by
  have n_kind := nil_kind ⟨p, 0, none⟩
  have m_kind := met_kind ⟨p, 0, none⟩
  have n_list := nil_list ⟨p, 0, none⟩
  have m_list := met_list ⟨p, 0, none⟩
  have n_number := nil_number ⟨p, 0, none⟩
  have m_number := met_number ⟨p, 0, none⟩
  have n_text := nil_text ⟨p, 0, none⟩
  have m_text := met_text ⟨p, 0, none⟩
  have hnm : nm (4 : Int) 1 = true := by decide
  have HREC : Hid (recL r = ((((((([UInt8.ofNat 4] ++ txL r.id) ++ txL r.rd) ++ txL r.ch) ++ txL r.cl) ++ lsL r.ss) ++ txL r.us) ++ numL r.at_.toNat)) := by
    show recL r = _
    unfold recL idL midL endL
    rw [hk, hnm]
    simp
  have HBX : Hid (∀ X, Below p w X → X.cell? ⟨b, 0, none⟩ = some (.int .i64 4) ∧ X.cell? ⟨b, 1, none⟩ = some (.string r.id) ∧ X.cell? ⟨b, 2, none⟩ = some (.string r.us) ∧ X.cell? ⟨b, 3, none⟩ = some (.string r.cl) ∧ X.cell? ⟨b, 4, none⟩ = some (.string r.rd) ∧ X.cell? ⟨b, 5, none⟩ = some (.string r.ch) ∧ X.cell? ⟨b, 6, none⟩ = some (.string r.cd) ∧ X.cell? ⟨b, 7, none⟩ = some v ∧ X.cell? ⟨b, 8, none⟩ = some (.int .i64 ((r.at_.toNat : Nat) : Int))) := fun X hX => by
    have h := hS.box X hX
    have ha : ((r.at_.toNat : Nat) : Int) = r.at_ := Int.toNat_of_nonneg hF.at0
    rw [hk] at h
    rw [ha]
    exact h
  have HN : Hid (∀ X, Below p w X → Calls Tryz.prog 37 #[.int .i64 4, .int .i64 1] X fun e w' => e = .returned (.bool true) ∧ w' = X) := fun X hX => by
    have h := names_any 4 1 X (hS.tab X hX)
    rw [hnm] at h
    exact h
  have HSS := hide hS
  have HFF := hide hF
  have hb := hS.lt
  have hat : r.at_.toNat ≤ 9223372036854775807 := by have := hF.at1; omega
  clear hS hF hk hnm
  obtain ⟨c0, -⟩ := HBX.out w (Below.refl _ _)
  have HK := hide (wkind_any p b 0 4 [] w.drew hw c0 (by decide) (by decide))
  clear hw
  go_enter Tryz.func22, Tryz.ntmps22
  go_wp2_with fail
  go_region_with (go_at_call 205; refine HK.out.mono ?_; rintro x w0 ⟨rfl, hW0, b0⟩)
  have HW0 : Hid (Wr p w0 [UInt8.ofNat 4]) := hW0
  have HB0 : Hid (Below p w w0) := (Below.refl p w).drew.trans b0
  obtain ⟨l0, hl0⟩ : ∃ l0, l0 = [UInt8.ofNat 4] := ⟨_, rfl⟩
  have hz0 : l0.length ≤ 1 := by rw [hl0]; simp
  rw [← hl0] at HW0
  have HE0 := hide hl0
  clear HK c0 hW0 b0 hl0
  obtain ⟨c0, c1, c2, c3, c4, c5, c6, c7, c8⟩ := HBX.out w0 HB0.out
  have HNN := hide (HN.out w0 HB0.out)
  have HT := hide (wtext_any p b 1 r.id l0 w0.drew HW0.out c1 (Or.inl hb) HFF.out.id (by omega))
  go_wp2_with (go_at_call 37; refine HNN.out.mono ?_; rintro x w9 ⟨rfl, h9⟩; obtain rfl := h9.symm)
  go_region_with (go_at_call 208; refine HT.out.mono ?_; rintro x w1 ⟨rfl, hW1, b1⟩)
  have HW1 : Hid (Wr p w1 (l0 ++ txL r.id)) := hW1
  have HB1 : Hid (Below p w w1) := HB0.out.trans ((Below.refl p w0).drew.trans b1)
  obtain ⟨l1, hl1⟩ : ∃ l1, l1 = l0 ++ txL r.id := ⟨_, rfl⟩
  have hz1 : l1.length ≤ 281474987 := by have := txL_len r.id; have := HFF.out.id; rw [hl1, List.length_append]; omega
  rw [← hl1] at HW1
  have HE1 := hide hl1
  clear HT hW1 b1 hl1 c0 c1 c2 c3 c4 c5 c6 c7 c8 HNN
  obtain ⟨c0, c1, c2, c3, c4, c5, c6, c7, c8⟩ := HBX.out w1 HB1.out
  have HT := hide (wtext_any p b 4 r.rd l1 w1.drew HW1.out c4 (Or.inl hb) HFF.out.rd (by omega))
  go_wp2_with fail
  go_region_with (go_at_call 208; refine HT.out.mono ?_; rintro x w2 ⟨rfl, hW2, b2⟩)
  have HW2 : Hid (Wr p w2 (l1 ++ txL r.rd)) := hW2
  have HB2 : Hid (Below p w w2) := HB1.out.trans ((Below.refl p w1).drew.trans b2)
  obtain ⟨l2, hl2⟩ : ∃ l2, l2 = l1 ++ txL r.rd := ⟨_, rfl⟩
  have hz2 : l2.length ≤ 562949973 := by have := txL_len r.rd; have := HFF.out.rd; rw [hl2, List.length_append]; omega
  rw [← hl2] at HW2
  have HE2 := hide hl2
  clear HT hW2 b2 hl2 c0 c1 c2 c3 c4 c5 c6 c7 c8
  obtain ⟨c0, c1, c2, c3, c4, c5, c6, c7, c8⟩ := HBX.out w2 HB2.out
  have HT := hide (wtext_any p b 5 r.ch l2 w2.drew HW2.out c5 (Or.inl hb) HFF.out.ch (by omega))
  go_wp2_with fail
  go_region_with (go_at_call 208; refine HT.out.mono ?_; rintro x w3 ⟨rfl, hW3, b3⟩)
  have HW3 : Hid (Wr p w3 (l2 ++ txL r.ch)) := hW3
  have HB3 : Hid (Below p w w3) := HB2.out.trans ((Below.refl p w2).drew.trans b3)
  obtain ⟨l3, hl3⟩ : ∃ l3, l3 = l2 ++ txL r.ch := ⟨_, rfl⟩
  have hz3 : l3.length ≤ 844424959 := by have := txL_len r.ch; have := HFF.out.ch; rw [hl3, List.length_append]; omega
  rw [← hl3] at HW3
  have HE3 := hide hl3
  clear HT hW3 b3 hl3 c0 c1 c2 c3 c4 c5 c6 c7 c8
  obtain ⟨c0, c1, c2, c3, c4, c5, c6, c7, c8⟩ := HBX.out w3 HB3.out
  have HT := hide (wtext_any p b 3 r.cl l3 w3.drew HW3.out c3 (Or.inl hb) HFF.out.cl (by omega))
  go_wp2_with fail
  go_region_with (go_at_call 208; refine HT.out.mono ?_; rintro x w4 ⟨rfl, hW4, b4⟩)
  have HW4 : Hid (Wr p w4 (l3 ++ txL r.cl)) := hW4
  have HB4 : Hid (Below p w w4) := HB3.out.trans ((Below.refl p w3).drew.trans b4)
  obtain ⟨l4, hl4⟩ : ∃ l4, l4 = l3 ++ txL r.cl := ⟨_, rfl⟩
  have hz4 : l4.length ≤ 1125899945 := by have := txL_len r.cl; have := HFF.out.cl; rw [hl4, List.length_append]; omega
  rw [← hl4] at HW4
  have HE4 := hide hl4
  clear HT hW4 b4 hl4 c0 c1 c2 c3 c4 c5 c6 c7 c8
  obtain ⟨c0, c1, c2, c3, c4, c5, c6, c7, c8⟩ := HBX.out w4 HB4.out
  have HT := hide (wlist_any p b 7 v r.ss l4 w4.drew HW4.out c7 hb (fun X hX => HSS.out.own X (HB4.out.trans ((Below.refl p w4).drew.trans hX))) HFF.out.len HFF.out.ss (by omega))
  go_wp2_with fail
  go_region_with (go_at_call 206; refine HT.out.mono ?_; rintro x w5 ⟨rfl, hW5, b5⟩)
  have HW5 : Hid (Wr p w5 (l4 ++ lsL r.ss)) := hW5
  have HB5 : Hid (Below p w w5) := HB4.out.trans ((Below.refl p w4).drew.trans b5)
  obtain ⟨l5, hl5⟩ : ∃ l5, l5 = l4 ++ lsL r.ss := ⟨_, rfl⟩
  have hz5 : l5.length ≤ 5629499731 := by have := lsL_len r.ss HFF.out.len HFF.out.ss; rw [hl5, List.length_append]; omega
  rw [← hl5] at HW5
  have HE5 := hide hl5
  clear HT hW5 b5 hl5 c0 c1 c2 c3 c4 c5 c6 c7 c8
  obtain ⟨c0, c1, c2, c3, c4, c5, c6, c7, c8⟩ := HBX.out w5 HB5.out
  have HT := hide (wtext_any p b 2 r.us l5 w5.drew HW5.out c2 (Or.inl hb) HFF.out.us (by omega))
  go_wp2_with fail
  go_region_with (go_at_call 208; refine HT.out.mono ?_; rintro x w6 ⟨rfl, hW6, b6⟩)
  have HW6 : Hid (Wr p w6 (l5 ++ txL r.us)) := hW6
  have HB6 : Hid (Below p w w6) := HB5.out.trans ((Below.refl p w5).drew.trans b6)
  obtain ⟨l6, hl6⟩ : ∃ l6, l6 = l5 ++ txL r.us := ⟨_, rfl⟩
  have hz6 : l6.length ≤ 5910974717 := by have := txL_len r.us; have := HFF.out.us; rw [hl6, List.length_append]; omega
  rw [← hl6] at HW6
  have HE6 := hide hl6
  clear HT hW6 b6 hl6 c0 c1 c2 c3 c4 c5 c6 c7 c8
  obtain ⟨c0, c1, c2, c3, c4, c5, c6, c7, c8⟩ := HBX.out w6 HB6.out
  have HT := hide (wnumber_any p b 8 r.at_.toNat l6 w6.drew HW6.out c8 hat (by omega))
  go_wp2_with fail
  go_region_with (go_at_call 207; refine HT.out.mono ?_; rintro x w7 ⟨rfl, hW7, b7⟩)
  have HW7 : Hid (Wr p w7 (l6 ++ numL r.at_.toNat)) := hW7
  have HB7 : Hid (Below p w w7) := HB6.out.trans ((Below.refl p w6).drew.trans b7)
  obtain ⟨l7, hl7⟩ : ∃ l7, l7 = l6 ++ numL r.at_.toNat := ⟨_, rfl⟩
  have hz7 : l7.length ≤ 5910974727 := by have : (numL r.at_.toNat).length ≤ 10 := (numF_len 9 _).2; rw [hl7, List.length_append]; omega
  rw [← hl7] at HW7
  have HE7 := hide hl7
  clear HT hW7 b7 hl7 c0 c1 c2 c3 c4 c5 c6 c7 c8
  obtain ⟨c0, -⟩ := HBX.out w7 HB7.out
  go_wp2_with fail
  first | go_end0 | refine bodyPost_end (results_none rfl _ _ _) rfl ?_
  refine ⟨rfl, ?_, HB7.out⟩
  have h := HW7.out
  rw [HE7.out, HE6.out, HE5.out, HE4.out, HE3.out, HE2.out, HE1.out, HE0.out] at h
  rw [HREC.out]
  exact h
end Go.Proofs.YtocpikgcbibcoaaGreatDoor.rc

namespace Go.Proofs.YtocpikgcbibcoaaGreatDoor.rc
open Go.ChangeShapes Go.WideShapes Go.ChangeAt Go.RowKit Go.Proofs.YtocpikgcbibcoaaGreatDoor.common Go.Proofs.YtocpikgcbibcoaaGreatDoor.dk

set_option maxRecDepth 100000 in
set_option maxHeartbeats 25600000 in
theorem walkW_6 (b p : Nat) (r : Rec) (v : Value) (w : World) (hk : r.k = 6) (hw : Wr p w []) (hS : Src b p r v w) (hF : r.Fine) :
    Calls Tryz.prog 22 #[.pointer (some ⟨b, 0, none⟩), .iface 53 (.pointer (some ⟨p, 0, none⟩))] w fun e w' => e = .returned (.tuple #[]) ∧ Wr p w' (recL r) ∧ Below p w w' := by
  have n_kind := nil_kind ⟨p, 0, none⟩
  have m_kind := met_kind ⟨p, 0, none⟩
  have n_list := nil_list ⟨p, 0, none⟩
  have m_list := met_list ⟨p, 0, none⟩
  have n_number := nil_number ⟨p, 0, none⟩
  have m_number := met_number ⟨p, 0, none⟩
  have n_text := nil_text ⟨p, 0, none⟩
  have m_text := met_text ⟨p, 0, none⟩
  have hnm : nm (6 : Int) 1 = true := by decide
  have HREC : Hid (recL r = (((((([UInt8.ofNat 6] ++ txL r.id) ++ txL r.cd) ++ txL r.cl) ++ lsL r.ss) ++ txL r.us) ++ numL r.at_.toNat)) := by
    show recL r = _
    unfold recL idL midL endL
    rw [hk, hnm]
    simp
  have HBX : Hid (∀ X, Below p w X → X.cell? ⟨b, 0, none⟩ = some (.int .i64 6) ∧ X.cell? ⟨b, 1, none⟩ = some (.string r.id) ∧ X.cell? ⟨b, 2, none⟩ = some (.string r.us) ∧ X.cell? ⟨b, 3, none⟩ = some (.string r.cl) ∧ X.cell? ⟨b, 4, none⟩ = some (.string r.rd) ∧ X.cell? ⟨b, 5, none⟩ = some (.string r.ch) ∧ X.cell? ⟨b, 6, none⟩ = some (.string r.cd) ∧ X.cell? ⟨b, 7, none⟩ = some v ∧ X.cell? ⟨b, 8, none⟩ = some (.int .i64 ((r.at_.toNat : Nat) : Int))) := fun X hX => by
    have h := hS.box X hX
    have ha : ((r.at_.toNat : Nat) : Int) = r.at_ := Int.toNat_of_nonneg hF.at0
    rw [hk] at h
    rw [ha]
    exact h
  have HN : Hid (∀ X, Below p w X → Calls Tryz.prog 37 #[.int .i64 6, .int .i64 1] X fun e w' => e = .returned (.bool true) ∧ w' = X) := fun X hX => by
    have h := names_any 6 1 X (hS.tab X hX)
    rw [hnm] at h
    exact h
  have HSS := hide hS
  have HFF := hide hF
  have hb := hS.lt
  have hat : r.at_.toNat ≤ 9223372036854775807 := by have := hF.at1; omega
  clear hS hF hk hnm
  obtain ⟨c0, -⟩ := HBX.out w (Below.refl _ _)
  have HK := hide (wkind_any p b 0 6 [] w.drew hw c0 (by decide) (by decide))
  clear hw
  go_enter Tryz.func22, Tryz.ntmps22
  go_wp2_with fail
  go_region_with (go_at_call 205; refine HK.out.mono ?_; rintro x w0 ⟨rfl, hW0, b0⟩)
  have HW0 : Hid (Wr p w0 [UInt8.ofNat 6]) := hW0
  have HB0 : Hid (Below p w w0) := (Below.refl p w).drew.trans b0
  obtain ⟨l0, hl0⟩ : ∃ l0, l0 = [UInt8.ofNat 6] := ⟨_, rfl⟩
  have hz0 : l0.length ≤ 1 := by rw [hl0]; simp
  rw [← hl0] at HW0
  have HE0 := hide hl0
  clear HK c0 hW0 b0 hl0
  obtain ⟨c0, c1, c2, c3, c4, c5, c6, c7, c8⟩ := HBX.out w0 HB0.out
  have HNN := hide (HN.out w0 HB0.out)
  have HT := hide (wtext_any p b 1 r.id l0 w0.drew HW0.out c1 (Or.inl hb) HFF.out.id (by omega))
  go_wp2_with (go_at_call 37; refine HNN.out.mono ?_; rintro x w9 ⟨rfl, h9⟩; obtain rfl := h9.symm)
  go_region_with (go_at_call 208; refine HT.out.mono ?_; rintro x w1 ⟨rfl, hW1, b1⟩)
  have HW1 : Hid (Wr p w1 (l0 ++ txL r.id)) := hW1
  have HB1 : Hid (Below p w w1) := HB0.out.trans ((Below.refl p w0).drew.trans b1)
  obtain ⟨l1, hl1⟩ : ∃ l1, l1 = l0 ++ txL r.id := ⟨_, rfl⟩
  have hz1 : l1.length ≤ 281474987 := by have := txL_len r.id; have := HFF.out.id; rw [hl1, List.length_append]; omega
  rw [← hl1] at HW1
  have HE1 := hide hl1
  clear HT hW1 b1 hl1 c0 c1 c2 c3 c4 c5 c6 c7 c8 HNN
  obtain ⟨c0, c1, c2, c3, c4, c5, c6, c7, c8⟩ := HBX.out w1 HB1.out
  have HT := hide (wtext_any p b 6 r.cd l1 w1.drew HW1.out c6 (Or.inl hb) HFF.out.cd (by omega))
  go_wp2_with fail
  go_region_with (go_at_call 208; refine HT.out.mono ?_; rintro x w2 ⟨rfl, hW2, b2⟩)
  have HW2 : Hid (Wr p w2 (l1 ++ txL r.cd)) := hW2
  have HB2 : Hid (Below p w w2) := HB1.out.trans ((Below.refl p w1).drew.trans b2)
  obtain ⟨l2, hl2⟩ : ∃ l2, l2 = l1 ++ txL r.cd := ⟨_, rfl⟩
  have hz2 : l2.length ≤ 562949973 := by have := txL_len r.cd; have := HFF.out.cd; rw [hl2, List.length_append]; omega
  rw [← hl2] at HW2
  have HE2 := hide hl2
  clear HT hW2 b2 hl2 c0 c1 c2 c3 c4 c5 c6 c7 c8
  obtain ⟨c0, c1, c2, c3, c4, c5, c6, c7, c8⟩ := HBX.out w2 HB2.out
  have HT := hide (wtext_any p b 3 r.cl l2 w2.drew HW2.out c3 (Or.inl hb) HFF.out.cl (by omega))
  go_wp2_with fail
  go_region_with (go_at_call 208; refine HT.out.mono ?_; rintro x w3 ⟨rfl, hW3, b3⟩)
  have HW3 : Hid (Wr p w3 (l2 ++ txL r.cl)) := hW3
  have HB3 : Hid (Below p w w3) := HB2.out.trans ((Below.refl p w2).drew.trans b3)
  obtain ⟨l3, hl3⟩ : ∃ l3, l3 = l2 ++ txL r.cl := ⟨_, rfl⟩
  have hz3 : l3.length ≤ 844424959 := by have := txL_len r.cl; have := HFF.out.cl; rw [hl3, List.length_append]; omega
  rw [← hl3] at HW3
  have HE3 := hide hl3
  clear HT hW3 b3 hl3 c0 c1 c2 c3 c4 c5 c6 c7 c8
  obtain ⟨c0, c1, c2, c3, c4, c5, c6, c7, c8⟩ := HBX.out w3 HB3.out
  have HT := hide (wlist_any p b 7 v r.ss l3 w3.drew HW3.out c7 hb (fun X hX => HSS.out.own X (HB3.out.trans ((Below.refl p w3).drew.trans hX))) HFF.out.len HFF.out.ss (by omega))
  go_wp2_with fail
  go_region_with (go_at_call 206; refine HT.out.mono ?_; rintro x w4 ⟨rfl, hW4, b4⟩)
  have HW4 : Hid (Wr p w4 (l3 ++ lsL r.ss)) := hW4
  have HB4 : Hid (Below p w w4) := HB3.out.trans ((Below.refl p w3).drew.trans b4)
  obtain ⟨l4, hl4⟩ : ∃ l4, l4 = l3 ++ lsL r.ss := ⟨_, rfl⟩
  have hz4 : l4.length ≤ 5348024745 := by have := lsL_len r.ss HFF.out.len HFF.out.ss; rw [hl4, List.length_append]; omega
  rw [← hl4] at HW4
  have HE4 := hide hl4
  clear HT hW4 b4 hl4 c0 c1 c2 c3 c4 c5 c6 c7 c8
  obtain ⟨c0, c1, c2, c3, c4, c5, c6, c7, c8⟩ := HBX.out w4 HB4.out
  have HT := hide (wtext_any p b 2 r.us l4 w4.drew HW4.out c2 (Or.inl hb) HFF.out.us (by omega))
  go_wp2_with fail
  go_region_with (go_at_call 208; refine HT.out.mono ?_; rintro x w5 ⟨rfl, hW5, b5⟩)
  have HW5 : Hid (Wr p w5 (l4 ++ txL r.us)) := hW5
  have HB5 : Hid (Below p w w5) := HB4.out.trans ((Below.refl p w4).drew.trans b5)
  obtain ⟨l5, hl5⟩ : ∃ l5, l5 = l4 ++ txL r.us := ⟨_, rfl⟩
  have hz5 : l5.length ≤ 5629499731 := by have := txL_len r.us; have := HFF.out.us; rw [hl5, List.length_append]; omega
  rw [← hl5] at HW5
  have HE5 := hide hl5
  clear HT hW5 b5 hl5 c0 c1 c2 c3 c4 c5 c6 c7 c8
  obtain ⟨c0, c1, c2, c3, c4, c5, c6, c7, c8⟩ := HBX.out w5 HB5.out
  have HT := hide (wnumber_any p b 8 r.at_.toNat l5 w5.drew HW5.out c8 hat (by omega))
  go_wp2_with fail
  go_region_with (go_at_call 207; refine HT.out.mono ?_; rintro x w6 ⟨rfl, hW6, b6⟩)
  have HW6 : Hid (Wr p w6 (l5 ++ numL r.at_.toNat)) := hW6
  have HB6 : Hid (Below p w w6) := HB5.out.trans ((Below.refl p w5).drew.trans b6)
  obtain ⟨l6, hl6⟩ : ∃ l6, l6 = l5 ++ numL r.at_.toNat := ⟨_, rfl⟩
  have hz6 : l6.length ≤ 5629499741 := by have : (numL r.at_.toNat).length ≤ 10 := (numF_len 9 _).2; rw [hl6, List.length_append]; omega
  rw [← hl6] at HW6
  have HE6 := hide hl6
  clear HT hW6 b6 hl6 c0 c1 c2 c3 c4 c5 c6 c7 c8
  obtain ⟨c0, -⟩ := HBX.out w6 HB6.out
  go_wp2_with fail
  first | go_end0 | refine bodyPost_end (results_none rfl _ _ _) rfl ?_
  refine ⟨rfl, ?_, HB6.out⟩
  have h := HW6.out
  rw [HE6.out, HE5.out, HE4.out, HE3.out, HE2.out, HE1.out, HE0.out] at h
  rw [HREC.out]
  exact h

set_option maxRecDepth 100000 in
set_option maxHeartbeats 25600000 in
theorem walkW_9 (b p : Nat) (r : Rec) (v : Value) (w : World) (hk : r.k = 9) (hw : Wr p w []) (hS : Src b p r v w) (hF : r.Fine) :
    Calls Tryz.prog 22 #[.pointer (some ⟨b, 0, none⟩), .iface 53 (.pointer (some ⟨p, 0, none⟩))] w fun e w' => e = .returned (.tuple #[]) ∧ Wr p w' (recL r) ∧ Below p w w' := by
  have n_kind := nil_kind ⟨p, 0, none⟩
  have m_kind := met_kind ⟨p, 0, none⟩
  have n_list := nil_list ⟨p, 0, none⟩
  have m_list := met_list ⟨p, 0, none⟩
  have n_number := nil_number ⟨p, 0, none⟩
  have m_number := met_number ⟨p, 0, none⟩
  have n_text := nil_text ⟨p, 0, none⟩
  have m_text := met_text ⟨p, 0, none⟩
  have hnm : nm (9 : Int) 1 = true := by decide
  have HREC : Hid (recL r = (((((([UInt8.ofNat 9] ++ txL r.id) ++ txL r.cd) ++ txL r.cl) ++ lsL r.ss) ++ txL r.us) ++ numL r.at_.toNat)) := by
    show recL r = _
    unfold recL idL midL endL
    rw [hk, hnm]
    simp
  have HBX : Hid (∀ X, Below p w X → X.cell? ⟨b, 0, none⟩ = some (.int .i64 9) ∧ X.cell? ⟨b, 1, none⟩ = some (.string r.id) ∧ X.cell? ⟨b, 2, none⟩ = some (.string r.us) ∧ X.cell? ⟨b, 3, none⟩ = some (.string r.cl) ∧ X.cell? ⟨b, 4, none⟩ = some (.string r.rd) ∧ X.cell? ⟨b, 5, none⟩ = some (.string r.ch) ∧ X.cell? ⟨b, 6, none⟩ = some (.string r.cd) ∧ X.cell? ⟨b, 7, none⟩ = some v ∧ X.cell? ⟨b, 8, none⟩ = some (.int .i64 ((r.at_.toNat : Nat) : Int))) := fun X hX => by
    have h := hS.box X hX
    have ha : ((r.at_.toNat : Nat) : Int) = r.at_ := Int.toNat_of_nonneg hF.at0
    rw [hk] at h
    rw [ha]
    exact h
  have HN : Hid (∀ X, Below p w X → Calls Tryz.prog 37 #[.int .i64 9, .int .i64 1] X fun e w' => e = .returned (.bool true) ∧ w' = X) := fun X hX => by
    have h := names_any 9 1 X (hS.tab X hX)
    rw [hnm] at h
    exact h
  have HSS := hide hS
  have HFF := hide hF
  have hb := hS.lt
  have hat : r.at_.toNat ≤ 9223372036854775807 := by have := hF.at1; omega
  clear hS hF hk hnm
  obtain ⟨c0, -⟩ := HBX.out w (Below.refl _ _)
  have HK := hide (wkind_any p b 0 9 [] w.drew hw c0 (by decide) (by decide))
  clear hw
  go_enter Tryz.func22, Tryz.ntmps22
  go_wp2_with fail
  go_region_with (go_at_call 205; refine HK.out.mono ?_; rintro x w0 ⟨rfl, hW0, b0⟩)
  have HW0 : Hid (Wr p w0 [UInt8.ofNat 9]) := hW0
  have HB0 : Hid (Below p w w0) := (Below.refl p w).drew.trans b0
  obtain ⟨l0, hl0⟩ : ∃ l0, l0 = [UInt8.ofNat 9] := ⟨_, rfl⟩
  have hz0 : l0.length ≤ 1 := by rw [hl0]; simp
  rw [← hl0] at HW0
  have HE0 := hide hl0
  clear HK c0 hW0 b0 hl0
  obtain ⟨c0, c1, c2, c3, c4, c5, c6, c7, c8⟩ := HBX.out w0 HB0.out
  have HNN := hide (HN.out w0 HB0.out)
  have HT := hide (wtext_any p b 1 r.id l0 w0.drew HW0.out c1 (Or.inl hb) HFF.out.id (by omega))
  go_wp2_with (go_at_call 37; refine HNN.out.mono ?_; rintro x w9 ⟨rfl, h9⟩; obtain rfl := h9.symm)
  go_region_with (go_at_call 208; refine HT.out.mono ?_; rintro x w1 ⟨rfl, hW1, b1⟩)
  have HW1 : Hid (Wr p w1 (l0 ++ txL r.id)) := hW1
  have HB1 : Hid (Below p w w1) := HB0.out.trans ((Below.refl p w0).drew.trans b1)
  obtain ⟨l1, hl1⟩ : ∃ l1, l1 = l0 ++ txL r.id := ⟨_, rfl⟩
  have hz1 : l1.length ≤ 281474987 := by have := txL_len r.id; have := HFF.out.id; rw [hl1, List.length_append]; omega
  rw [← hl1] at HW1
  have HE1 := hide hl1
  clear HT hW1 b1 hl1 c0 c1 c2 c3 c4 c5 c6 c7 c8 HNN
  obtain ⟨c0, c1, c2, c3, c4, c5, c6, c7, c8⟩ := HBX.out w1 HB1.out
  have HT := hide (wtext_any p b 6 r.cd l1 w1.drew HW1.out c6 (Or.inl hb) HFF.out.cd (by omega))
  go_wp2_with fail
  go_region_with (go_at_call 208; refine HT.out.mono ?_; rintro x w2 ⟨rfl, hW2, b2⟩)
  have HW2 : Hid (Wr p w2 (l1 ++ txL r.cd)) := hW2
  have HB2 : Hid (Below p w w2) := HB1.out.trans ((Below.refl p w1).drew.trans b2)
  obtain ⟨l2, hl2⟩ : ∃ l2, l2 = l1 ++ txL r.cd := ⟨_, rfl⟩
  have hz2 : l2.length ≤ 562949973 := by have := txL_len r.cd; have := HFF.out.cd; rw [hl2, List.length_append]; omega
  rw [← hl2] at HW2
  have HE2 := hide hl2
  clear HT hW2 b2 hl2 c0 c1 c2 c3 c4 c5 c6 c7 c8
  obtain ⟨c0, c1, c2, c3, c4, c5, c6, c7, c8⟩ := HBX.out w2 HB2.out
  have HT := hide (wtext_any p b 3 r.cl l2 w2.drew HW2.out c3 (Or.inl hb) HFF.out.cl (by omega))
  go_wp2_with fail
  go_region_with (go_at_call 208; refine HT.out.mono ?_; rintro x w3 ⟨rfl, hW3, b3⟩)
  have HW3 : Hid (Wr p w3 (l2 ++ txL r.cl)) := hW3
  have HB3 : Hid (Below p w w3) := HB2.out.trans ((Below.refl p w2).drew.trans b3)
  obtain ⟨l3, hl3⟩ : ∃ l3, l3 = l2 ++ txL r.cl := ⟨_, rfl⟩
  have hz3 : l3.length ≤ 844424959 := by have := txL_len r.cl; have := HFF.out.cl; rw [hl3, List.length_append]; omega
  rw [← hl3] at HW3
  have HE3 := hide hl3
  clear HT hW3 b3 hl3 c0 c1 c2 c3 c4 c5 c6 c7 c8
  obtain ⟨c0, c1, c2, c3, c4, c5, c6, c7, c8⟩ := HBX.out w3 HB3.out
  have HT := hide (wlist_any p b 7 v r.ss l3 w3.drew HW3.out c7 hb (fun X hX => HSS.out.own X (HB3.out.trans ((Below.refl p w3).drew.trans hX))) HFF.out.len HFF.out.ss (by omega))
  go_wp2_with fail
  go_region_with (go_at_call 206; refine HT.out.mono ?_; rintro x w4 ⟨rfl, hW4, b4⟩)
  have HW4 : Hid (Wr p w4 (l3 ++ lsL r.ss)) := hW4
  have HB4 : Hid (Below p w w4) := HB3.out.trans ((Below.refl p w3).drew.trans b4)
  obtain ⟨l4, hl4⟩ : ∃ l4, l4 = l3 ++ lsL r.ss := ⟨_, rfl⟩
  have hz4 : l4.length ≤ 5348024745 := by have := lsL_len r.ss HFF.out.len HFF.out.ss; rw [hl4, List.length_append]; omega
  rw [← hl4] at HW4
  have HE4 := hide hl4
  clear HT hW4 b4 hl4 c0 c1 c2 c3 c4 c5 c6 c7 c8
  obtain ⟨c0, c1, c2, c3, c4, c5, c6, c7, c8⟩ := HBX.out w4 HB4.out
  have HT := hide (wtext_any p b 2 r.us l4 w4.drew HW4.out c2 (Or.inl hb) HFF.out.us (by omega))
  go_wp2_with fail
  go_region_with (go_at_call 208; refine HT.out.mono ?_; rintro x w5 ⟨rfl, hW5, b5⟩)
  have HW5 : Hid (Wr p w5 (l4 ++ txL r.us)) := hW5
  have HB5 : Hid (Below p w w5) := HB4.out.trans ((Below.refl p w4).drew.trans b5)
  obtain ⟨l5, hl5⟩ : ∃ l5, l5 = l4 ++ txL r.us := ⟨_, rfl⟩
  have hz5 : l5.length ≤ 5629499731 := by have := txL_len r.us; have := HFF.out.us; rw [hl5, List.length_append]; omega
  rw [← hl5] at HW5
  have HE5 := hide hl5
  clear HT hW5 b5 hl5 c0 c1 c2 c3 c4 c5 c6 c7 c8
  obtain ⟨c0, c1, c2, c3, c4, c5, c6, c7, c8⟩ := HBX.out w5 HB5.out
  have HT := hide (wnumber_any p b 8 r.at_.toNat l5 w5.drew HW5.out c8 hat (by omega))
  go_wp2_with fail
  go_region_with (go_at_call 207; refine HT.out.mono ?_; rintro x w6 ⟨rfl, hW6, b6⟩)
  have HW6 : Hid (Wr p w6 (l5 ++ numL r.at_.toNat)) := hW6
  have HB6 : Hid (Below p w w6) := HB5.out.trans ((Below.refl p w5).drew.trans b6)
  obtain ⟨l6, hl6⟩ : ∃ l6, l6 = l5 ++ numL r.at_.toNat := ⟨_, rfl⟩
  have hz6 : l6.length ≤ 5629499741 := by have : (numL r.at_.toNat).length ≤ 10 := (numF_len 9 _).2; rw [hl6, List.length_append]; omega
  rw [← hl6] at HW6
  have HE6 := hide hl6
  clear HT hW6 b6 hl6 c0 c1 c2 c3 c4 c5 c6 c7 c8
  obtain ⟨c0, -⟩ := HBX.out w6 HB6.out
  go_wp2_with fail
  first | go_end0 | refine bodyPost_end (results_none rfl _ _ _) rfl ?_
  refine ⟨rfl, ?_, HB6.out⟩
  have h := HW6.out
  rw [HE6.out, HE5.out, HE4.out, HE3.out, HE2.out, HE1.out, HE0.out] at h
  rw [HREC.out]
  exact h
end Go.Proofs.YtocpikgcbibcoaaGreatDoor.rc
