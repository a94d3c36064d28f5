import Derived.Test.YtocpikgcbibcoaaGreatDoorMRcWk
namespace Go.Proofs.YtocpikgcbibcoaaGreatDoor.rc
open Go.ChangeShapes Go.WideShapes Go.ChangeAt Go.RowKit Go.Proofs.YtocpikgcbibcoaaGreatDoor.common Go.Proofs.YtocpikgcbibcoaaGreatDoor.dk

set_option maxRecDepth 100000 in
set_option maxHeartbeats 25600000 in
theorem walkW_2 (b p : Nat) (r : Rec) (v : Value) (w : World) (hk : r.k = 2) (hw : Wr p w []) (hS : Src b p r v w) (hF : r.Fine) :
    Calls Tryz.prog 22 #[.pointer (some ⟨b, 0, none⟩), .iface 53 (.pointer (some ⟨p, 0, none⟩))] w fun e w' => e = .returned (.tuple #[]) ∧ Wr p w' (recL r) ∧ Below p w w' := by
  have n_kind := nil_kind ⟨p, 0, none⟩
  have m_kind := met_kind ⟨p, 0, none⟩
  have n_text := nil_text ⟨p, 0, none⟩
  have m_text := met_text ⟨p, 0, none⟩
  have hnm : nm (2 : Int) 1 = true := by decide
  have HREC : Hid (recL r = ([UInt8.ofNat 2] ++ txL r.id)) := by
    show recL r = _
    unfold recL idL midL endL
    rw [hk, hnm]
    simp
  have HBX : Hid (∀ X, Below p w X → X.cell? ⟨b, 0, none⟩ = some (.int .i64 2) ∧ X.cell? ⟨b, 1, none⟩ = some (.string r.id) ∧ X.cell? ⟨b, 2, none⟩ = some (.string r.us) ∧ X.cell? ⟨b, 3, none⟩ = some (.string r.cl) ∧ X.cell? ⟨b, 4, none⟩ = some (.string r.rd) ∧ X.cell? ⟨b, 5, none⟩ = some (.string r.ch) ∧ X.cell? ⟨b, 6, none⟩ = some (.string r.cd) ∧ X.cell? ⟨b, 7, none⟩ = some v ∧ X.cell? ⟨b, 8, none⟩ = some (.int .i64 ((r.at_.toNat : Nat) : Int))) := fun X hX => by
    have h := hS.box X hX
    have ha : ((r.at_.toNat : Nat) : Int) = r.at_ := Int.toNat_of_nonneg hF.at0
    rw [hk] at h
    rw [ha]
    exact h
  have HN : Hid (∀ X, Below p w X → Calls Tryz.prog 37 #[.int .i64 2, .int .i64 1] X fun e w' => e = .returned (.bool true) ∧ w' = X) := fun X hX => by
    have h := names_any 2 1 X (hS.tab X hX)
    rw [hnm] at h
    exact h
  have HSS := hide hS
  have HFF := hide hF
  have hb := hS.lt
  have hat : r.at_.toNat ≤ 9223372036854775807 := by have := hF.at1; omega
  clear hS hF hk hnm
  obtain ⟨c0, -⟩ := HBX.out w (Below.refl _ _)
  have HK := hide (wkind_any p b 0 2 [] w.drew hw c0 (by decide) (by decide))
  clear hw
  go_enter Tryz.func22, Tryz.ntmps22
  go_wp2_with fail
  go_region_with (go_at_call 205; refine HK.out.mono ?_; rintro x w0 ⟨rfl, hW0, b0⟩)
  have HW0 : Hid (Wr p w0 [UInt8.ofNat 2]) := hW0
  have HB0 : Hid (Below p w w0) := (Below.refl p w).drew.trans b0
  obtain ⟨l0, hl0⟩ : ∃ l0, l0 = [UInt8.ofNat 2] := ⟨_, rfl⟩
  have hz0 : l0.length ≤ 1 := by rw [hl0]; simp
  rw [← hl0] at HW0
  have HE0 := hide hl0
  clear HK c0 hW0 b0 hl0
  obtain ⟨c0, c1, c2, c3, c4, c5, c6, c7, c8⟩ := HBX.out w0 HB0.out
  have HNN := hide (HN.out w0 HB0.out)
  have HT := hide (wtext_any p b 1 r.id l0 w0.drew HW0.out c1 (Or.inl hb) HFF.out.id (by omega))
  go_wp2_with (go_at_call 37; refine HNN.out.mono ?_; rintro x w9 ⟨rfl, h9⟩; obtain rfl := h9.symm)
  go_region_with (go_at_call 208; refine HT.out.mono ?_; rintro x w1 ⟨rfl, hW1, b1⟩)
  have HW1 : Hid (Wr p w1 (l0 ++ txL r.id)) := hW1
  have HB1 : Hid (Below p w w1) := HB0.out.trans ((Below.refl p w0).drew.trans b1)
  obtain ⟨l1, hl1⟩ : ∃ l1, l1 = l0 ++ txL r.id := ⟨_, rfl⟩
  have hz1 : l1.length ≤ 281474987 := by have := txL_len r.id; have := HFF.out.id; rw [hl1, List.length_append]; omega
  rw [← hl1] at HW1
  have HE1 := hide hl1
  clear HT hW1 b1 hl1 c0 c1 c2 c3 c4 c5 c6 c7 c8 HNN
  obtain ⟨c0, -⟩ := HBX.out w1 HB1.out
  go_wp2_with fail
  first | go_end0 | refine bodyPost_end (results_none rfl _ _ _) rfl ?_
  refine ⟨rfl, ?_, HB1.out⟩
  have h := HW1.out
  rw [HE1.out, HE0.out] at h
  rw [HREC.out]
  exact h

set_option maxRecDepth 100000 in
set_option maxHeartbeats 25600000 in
theorem walkW_5 (b p : Nat) (r : Rec) (v : Value) (w : World) (hk : r.k = 5) (hw : Wr p w []) (hS : Src b p r v w) (hF : r.Fine) :
    Calls Tryz.prog 22 #[.pointer (some ⟨b, 0, none⟩), .iface 53 (.pointer (some ⟨p, 0, none⟩))] w fun e w' => e = .returned (.tuple #[]) ∧ Wr p w' (recL r) ∧ Below p w w' := by
  have n_kind := nil_kind ⟨p, 0, none⟩
  have m_kind := met_kind ⟨p, 0, none⟩
  have n_text := nil_text ⟨p, 0, none⟩
  have m_text := met_text ⟨p, 0, none⟩
  have hnm : nm (5 : Int) 1 = true := by decide
  have HREC : Hid (recL r = ([UInt8.ofNat 5] ++ txL r.id)) := by
    show recL r = _
    unfold recL idL midL endL
    rw [hk, hnm]
    simp
  have HBX : Hid (∀ X, Below p w X → X.cell? ⟨b, 0, none⟩ = some (.int .i64 5) ∧ X.cell? ⟨b, 1, none⟩ = some (.string r.id) ∧ X.cell? ⟨b, 2, none⟩ = some (.string r.us) ∧ X.cell? ⟨b, 3, none⟩ = some (.string r.cl) ∧ X.cell? ⟨b, 4, none⟩ = some (.string r.rd) ∧ X.cell? ⟨b, 5, none⟩ = some (.string r.ch) ∧ X.cell? ⟨b, 6, none⟩ = some (.string r.cd) ∧ X.cell? ⟨b, 7, none⟩ = some v ∧ X.cell? ⟨b, 8, none⟩ = some (.int .i64 ((r.at_.toNat : Nat) : Int))) := fun X hX => by
    have h := hS.box X hX
    have ha : ((r.at_.toNat : Nat) : Int) = r.at_ := Int.toNat_of_nonneg hF.at0
    rw [hk] at h
    rw [ha]
    exact h
  have HN : Hid (∀ X, Below p w X → Calls Tryz.prog 37 #[.int .i64 5, .int .i64 1] X fun e w' => e = .returned (.bool true) ∧ w' = X) := fun X hX => by
    have h := names_any 5 1 X (hS.tab X hX)
    rw [hnm] at h
    exact h
  have HSS := hide hS
  have HFF := hide hF
  have hb := hS.lt
  have hat : r.at_.toNat ≤ 9223372036854775807 := by have := hF.at1; omega
  clear hS hF hk hnm
  obtain ⟨c0, -⟩ := HBX.out w (Below.refl _ _)
  have HK := hide (wkind_any p b 0 5 [] w.drew hw c0 (by decide) (by decide))
  clear hw
  go_enter Tryz.func22, Tryz.ntmps22
  go_wp2_with fail
  go_region_with (go_at_call 205; refine HK.out.mono ?_; rintro x w0 ⟨rfl, hW0, b0⟩)
  have HW0 : Hid (Wr p w0 [UInt8.ofNat 5]) := hW0
  have HB0 : Hid (Below p w w0) := (Below.refl p w).drew.trans b0
  obtain ⟨l0, hl0⟩ : ∃ l0, l0 = [UInt8.ofNat 5] := ⟨_, rfl⟩
  have hz0 : l0.length ≤ 1 := by rw [hl0]; simp
  rw [← hl0] at HW0
  have HE0 := hide hl0
  clear HK c0 hW0 b0 hl0
  obtain ⟨c0, c1, c2, c3, c4, c5, c6, c7, c8⟩ := HBX.out w0 HB0.out
  have HNN := hide (HN.out w0 HB0.out)
  have HT := hide (wtext_any p b 1 r.id l0 w0.drew HW0.out c1 (Or.inl hb) HFF.out.id (by omega))
  go_wp2_with (go_at_call 37; refine HNN.out.mono ?_; rintro x w9 ⟨rfl, h9⟩; obtain rfl := h9.symm)
  go_region_with (go_at_call 208; refine HT.out.mono ?_; rintro x w1 ⟨rfl, hW1, b1⟩)
  have HW1 : Hid (Wr p w1 (l0 ++ txL r.id)) := hW1
  have HB1 : Hid (Below p w w1) := HB0.out.trans ((Below.refl p w0).drew.trans b1)
  obtain ⟨l1, hl1⟩ : ∃ l1, l1 = l0 ++ txL r.id := ⟨_, rfl⟩
  have hz1 : l1.length ≤ 281474987 := by have := txL_len r.id; have := HFF.out.id; rw [hl1, List.length_append]; omega
  rw [← hl1] at HW1
  have HE1 := hide hl1
  clear HT hW1 b1 hl1 c0 c1 c2 c3 c4 c5 c6 c7 c8 HNN
  obtain ⟨c0, -⟩ := HBX.out w1 HB1.out
  go_wp2_with fail
  first | go_end0 | refine bodyPost_end (results_none rfl _ _ _) rfl ?_
  refine ⟨rfl, ?_, HB1.out⟩
  have h := HW1.out
  rw [HE1.out, HE0.out] at h
  rw [HREC.out]
  exact h

set_option maxRecDepth 100000 in
set_option maxHeartbeats 25600000 in
theorem walkW_7 (b p : Nat) (r : Rec) (v : Value) (w : World) (hk : r.k = 7) (hw : Wr p w []) (hS : Src b p r v w) (hF : r.Fine) :
    Calls Tryz.prog 22 #[.pointer (some ⟨b, 0, none⟩), .iface 53 (.pointer (some ⟨p, 0, none⟩))] w fun e w' => e = .returned (.tuple #[]) ∧ Wr p w' (recL r) ∧ Below p w w' := by
  have n_kind := nil_kind ⟨p, 0, none⟩
  have m_kind := met_kind ⟨p, 0, none⟩
  have n_text := nil_text ⟨p, 0, none⟩
  have m_text := met_text ⟨p, 0, none⟩
  have hnm : nm (7 : Int) 1 = true := by decide
  have HREC : Hid (recL r = ([UInt8.ofNat 7] ++ txL r.id)) := by
    show recL r = _
    unfold recL idL midL endL
    rw [hk, hnm]
    simp
  have HBX : Hid (∀ X, Below p w X → X.cell? ⟨b, 0, none⟩ = some (.int .i64 7) ∧ X.cell? ⟨b, 1, none⟩ = some (.string r.id) ∧ X.cell? ⟨b, 2, none⟩ = some (.string r.us) ∧ X.cell? ⟨b, 3, none⟩ = some (.string r.cl) ∧ X.cell? ⟨b, 4, none⟩ = some (.string r.rd) ∧ X.cell? ⟨b, 5, none⟩ = some (.string r.ch) ∧ X.cell? ⟨b, 6, none⟩ = some (.string r.cd) ∧ X.cell? ⟨b, 7, none⟩ = some v ∧ X.cell? ⟨b, 8, none⟩ = some (.int .i64 ((r.at_.toNat : Nat) : Int))) := fun X hX => by
    have h := hS.box X hX
    have ha : ((r.at_.toNat : Nat) : Int) = r.at_ := Int.toNat_of_nonneg hF.at0
    rw [hk] at h
    rw [ha]
    exact h
  have HN : Hid (∀ X, Below p w X → Calls Tryz.prog 37 #[.int .i64 7, .int .i64 1] X fun e w' => e = .returned (.bool true) ∧ w' = X) := fun X hX => by
    have h := names_any 7 1 X (hS.tab X hX)
    rw [hnm] at h
    exact h
  have HSS := hide hS
  have HFF := hide hF
  have hb := hS.lt
  have hat : r.at_.toNat ≤ 9223372036854775807 := by have := hF.at1; omega
  clear hS hF hk hnm
  obtain ⟨c0, -⟩ := HBX.out w (Below.refl _ _)
  have HK := hide (wkind_any p b 0 7 [] w.drew hw c0 (by decide) (by decide))
  clear hw
  go_enter Tryz.func22, Tryz.ntmps22
  go_wp2_with fail
  go_region_with (go_at_call 205; refine HK.out.mono ?_; rintro x w0 ⟨rfl, hW0, b0⟩)
  have HW0 : Hid (Wr p w0 [UInt8.ofNat 7]) := hW0
  have HB0 : Hid (Below p w w0) := (Below.refl p w).drew.trans b0
  obtain ⟨l0, hl0⟩ : ∃ l0, l0 = [UInt8.ofNat 7] := ⟨_, rfl⟩
  have hz0 : l0.length ≤ 1 := by rw [hl0]; simp
  rw [← hl0] at HW0
  have HE0 := hide hl0
  clear HK c0 hW0 b0 hl0
  obtain ⟨c0, c1, c2, c3, c4, c5, c6, c7, c8⟩ := HBX.out w0 HB0.out
  have HNN := hide (HN.out w0 HB0.out)
  have HT := hide (wtext_any p b 1 r.id l0 w0.drew HW0.out c1 (Or.inl hb) HFF.out.id (by omega))
  go_wp2_with (go_at_call 37; refine HNN.out.mono ?_; rintro x w9 ⟨rfl, h9⟩; obtain rfl := h9.symm)
  go_region_with (go_at_call 208; refine HT.out.mono ?_; rintro x w1 ⟨rfl, hW1, b1⟩)
  have HW1 : Hid (Wr p w1 (l0 ++ txL r.id)) := hW1
  have HB1 : Hid (Below p w w1) := HB0.out.trans ((Below.refl p w0).drew.trans b1)
  obtain ⟨l1, hl1⟩ : ∃ l1, l1 = l0 ++ txL r.id := ⟨_, rfl⟩
  have hz1 : l1.length ≤ 281474987 := by have := txL_len r.id; have := HFF.out.id; rw [hl1, List.length_append]; omega
  rw [← hl1] at HW1
  have HE1 := hide hl1
  clear HT hW1 b1 hl1 c0 c1 c2 c3 c4 c5 c6 c7 c8 HNN
  obtain ⟨c0, -⟩ := HBX.out w1 HB1.out
  go_wp2_with fail
  first | go_end0 | refine bodyPost_end (results_none rfl _ _ _) rfl ?_
  refine ⟨rfl, ?_, HB1.out⟩
  have h := HW1.out
  rw [HE1.out, HE0.out] at h
  rw [HREC.out]
  exact h

set_option maxRecDepth 100000 in
set_option maxHeartbeats 25600000 in
theorem walkW_8 (b p : Nat) (r : Rec) (v : Value) (w : World) (hk : r.k = 8) (hw : Wr p w []) (hS : Src b p r v w) (hF : r.Fine) :
    Calls Tryz.prog 22 #[.pointer (some ⟨b, 0, none⟩), .iface 53 (.pointer (some ⟨p, 0, none⟩))] w fun e w' => e = .returned (.tuple #[]) ∧ Wr p w' (recL r) ∧ Below p w w' := by
  have n_kind := nil_kind ⟨p, 0, none⟩
  have m_kind := met_kind ⟨p, 0, none⟩
  have n_text := nil_text ⟨p, 0, none⟩
  have m_text := met_text ⟨p, 0, none⟩
  have hnm : nm (8 : Int) 1 = true := by decide
  have HREC : Hid (recL r = ([UInt8.ofNat 8] ++ txL r.id)) := by
    show recL r = _
    unfold recL idL midL endL
    rw [hk, hnm]
    simp
  have HBX : Hid (∀ X, Below p w X → X.cell? ⟨b, 0, none⟩ = some (.int .i64 8) ∧ X.cell? ⟨b, 1, none⟩ = some (.string r.id) ∧ X.cell? ⟨b, 2, none⟩ = some (.string r.us) ∧ X.cell? ⟨b, 3, none⟩ = some (.string r.cl) ∧ X.cell? ⟨b, 4, none⟩ = some (.string r.rd) ∧ X.cell? ⟨b, 5, none⟩ = some (.string r.ch) ∧ X.cell? ⟨b, 6, none⟩ = some (.string r.cd) ∧ X.cell? ⟨b, 7, none⟩ = some v ∧ X.cell? ⟨b, 8, none⟩ = some (.int .i64 ((r.at_.toNat : Nat) : Int))) := fun X hX => by
    have h := hS.box X hX
    have ha : ((r.at_.toNat : Nat) : Int) = r.at_ := Int.toNat_of_nonneg hF.at0
    rw [hk] at h
    rw [ha]
    exact h
  have HN : Hid (∀ X, Below p w X → Calls Tryz.prog 37 #[.int .i64 8, .int .i64 1] X fun e w' => e = .returned (.bool true) ∧ w' = X) := fun X hX => by
    have h := names_any 8 1 X (hS.tab X hX)
    rw [hnm] at h
    exact h
  have HSS := hide hS
  have HFF := hide hF
  have hb := hS.lt
  have hat : r.at_.toNat ≤ 9223372036854775807 := by have := hF.at1; omega
  clear hS hF hk hnm
  obtain ⟨c0, -⟩ := HBX.out w (Below.refl _ _)
  have HK := hide (wkind_any p b 0 8 [] w.drew hw c0 (by decide) (by decide))
  clear hw
  go_enter Tryz.func22, Tryz.ntmps22
  go_wp2_with fail
  go_region_with (go_at_call 205; refine HK.out.mono ?_; rintro x w0 ⟨rfl, hW0, b0⟩)
  have HW0 : Hid (Wr p w0 [UInt8.ofNat 8]) := hW0
  have HB0 : Hid (Below p w w0) := (Below.refl p w).drew.trans b0
  obtain ⟨l0, hl0⟩ : ∃ l0, l0 = [UInt8.ofNat 8] := ⟨_, rfl⟩
  have hz0 : l0.length ≤ 1 := by rw [hl0]; simp
  rw [← hl0] at HW0
  have HE0 := hide hl0
  clear HK c0 hW0 b0 hl0
  obtain ⟨c0, c1, c2, c3, c4, c5, c6, c7, c8⟩ := HBX.out w0 HB0.out
  have HNN := hide (HN.out w0 HB0.out)
  have HT := hide (wtext_any p b 1 r.id l0 w0.drew HW0.out c1 (Or.inl hb) HFF.out.id (by omega))
  go_wp2_with (go_at_call 37; refine HNN.out.mono ?_; rintro x w9 ⟨rfl, h9⟩; obtain rfl := h9.symm)
  go_region_with (go_at_call 208; refine HT.out.mono ?_; rintro x w1 ⟨rfl, hW1, b1⟩)
  have HW1 : Hid (Wr p w1 (l0 ++ txL r.id)) := hW1
  have HB1 : Hid (Below p w w1) := HB0.out.trans ((Below.refl p w0).drew.trans b1)
  obtain ⟨l1, hl1⟩ : ∃ l1, l1 = l0 ++ txL r.id := ⟨_, rfl⟩
  have hz1 : l1.length ≤ 281474987 := by have := txL_len r.id; have := HFF.out.id; rw [hl1, List.length_append]; omega
  rw [← hl1] at HW1
  have HE1 := hide hl1
  clear HT hW1 b1 hl1 c0 c1 c2 c3 c4 c5 c6 c7 c8 HNN
  obtain ⟨c0, -⟩ := HBX.out w1 HB1.out
  go_wp2_with fail
  first | go_end0 | refine bodyPost_end (results_none rfl _ _ _) rfl ?_
  refine ⟨rfl, ?_, HB1.out⟩
  have h := HW1.out
  rw [HE1.out, HE0.out] at h
  rw [HREC.out]
  exact h

set_option maxRecDepth 100000 in
set_option maxHeartbeats 25600000 in
theorem walkW_10 (b p : Nat) (r : Rec) (v : Value) (w : World) (hk : r.k = 10) (hw : Wr p w []) (hS : Src b p r v w) (hF : r.Fine) :
    Calls Tryz.prog 22 #[.pointer (some ⟨b, 0, none⟩), .iface 53 (.pointer (some ⟨p, 0, none⟩))] w fun e w' => e = .returned (.tuple #[]) ∧ Wr p w' (recL r) ∧ Below p w w' := by
  have n_kind := nil_kind ⟨p, 0, none⟩
  have m_kind := met_kind ⟨p, 0, none⟩
  have n_text := nil_text ⟨p, 0, none⟩
  have m_text := met_text ⟨p, 0, none⟩
  have hnm : nm (10 : Int) 1 = true := by decide
  have HREC : Hid (recL r = ([UInt8.ofNat 10] ++ txL r.id)) := by
    show recL r = _
    unfold recL idL midL endL
    rw [hk, hnm]
    simp
  have HBX : Hid (∀ X, Below p w X → X.cell? ⟨b, 0, none⟩ = some (.int .i64 10) ∧ X.cell? ⟨b, 1, none⟩ = some (.string r.id) ∧ X.cell? ⟨b, 2, none⟩ = some (.string r.us) ∧ X.cell? ⟨b, 3, none⟩ = some (.string r.cl) ∧ X.cell? ⟨b, 4, none⟩ = some (.string r.rd) ∧ X.cell? ⟨b, 5, none⟩ = some (.string r.ch) ∧ X.cell? ⟨b, 6, none⟩ = some (.string r.cd) ∧ X.cell? ⟨b, 7, none⟩ = some v ∧ X.cell? ⟨b, 8, none⟩ = some (.int .i64 ((r.at_.toNat : Nat) : Int))) := fun X hX => by
    have h := hS.box X hX
    have ha : ((r.at_.toNat : Nat) : Int) = r.at_ := Int.toNat_of_nonneg hF.at0
    rw [hk] at h
    rw [ha]
    exact h
  have HN : Hid (∀ X, Below p w X → Calls Tryz.prog 37 #[.int .i64 10, .int .i64 1] X fun e w' => e = .returned (.bool true) ∧ w' = X) := fun X hX => by
    have h := names_any 10 1 X (hS.tab X hX)
    rw [hnm] at h
    exact h
  have HSS := hide hS
  have HFF := hide hF
  have hb := hS.lt
  have hat : r.at_.toNat ≤ 9223372036854775807 := by have := hF.at1; omega
  clear hS hF hk hnm
  obtain ⟨c0, -⟩ := HBX.out w (Below.refl _ _)
  have HK := hide (wkind_any p b 0 10 [] w.drew hw c0 (by decide) (by decide))
  clear hw
  go_enter Tryz.func22, Tryz.ntmps22
  go_wp2_with fail
  go_region_with (go_at_call 205; refine HK.out.mono ?_; rintro x w0 ⟨rfl, hW0, b0⟩)
  have HW0 : Hid (Wr p w0 [UInt8.ofNat 10]) := hW0
  have HB0 : Hid (Below p w w0) := (Below.refl p w).drew.trans b0
  obtain ⟨l0, hl0⟩ : ∃ l0, l0 = [UInt8.ofNat 10] := ⟨_, rfl⟩
  have hz0 : l0.length ≤ 1 := by rw [hl0]; simp
  rw [← hl0] at HW0
  have HE0 := hide hl0
  clear HK c0 hW0 b0 hl0
  obtain ⟨c0, c1, c2, c3, c4, c5, c6, c7, c8⟩ := HBX.out w0 HB0.out
  have HNN := hide (HN.out w0 HB0.out)
  have HT := hide (wtext_any p b 1 r.id l0 w0.drew HW0.out c1 (Or.inl hb) HFF.out.id (by omega))
  go_wp2_with (go_at_call 37; refine HNN.out.mono ?_; rintro x w9 ⟨rfl, h9⟩; obtain rfl := h9.symm)
  go_region_with (go_at_call 208; refine HT.out.mono ?_; rintro x w1 ⟨rfl, hW1, b1⟩)
  have HW1 : Hid (Wr p w1 (l0 ++ txL r.id)) := hW1
  have HB1 : Hid (Below p w w1) := HB0.out.trans ((Below.refl p w0).drew.trans b1)
  obtain ⟨l1, hl1⟩ : ∃ l1, l1 = l0 ++ txL r.id := ⟨_, rfl⟩
  have hz1 : l1.length ≤ 281474987 := by have := txL_len r.id; have := HFF.out.id; rw [hl1, List.length_append]; omega
  rw [← hl1] at HW1
  have HE1 := hide hl1
  clear HT hW1 b1 hl1 c0 c1 c2 c3 c4 c5 c6 c7 c8 HNN
  obtain ⟨c0, -⟩ := HBX.out w1 HB1.out
  go_wp2_with fail
  first | go_end0 | refine bodyPost_end (results_none rfl _ _ _) rfl ?_
  refine ⟨rfl, ?_, HB1.out⟩
  have h := HW1.out
  rw [HE1.out, HE0.out] at h
  rw [HREC.out]
  exact h
end Go.Proofs.YtocpikgcbibcoaaGreatDoor.rc

namespace Go.Proofs.YtocpikgcbibcoaaGreatDoor.rc
open Go.ChangeShapes Go.WideShapes Go.ChangeAt Go.RowKit Go.Proofs.YtocpikgcbibcoaaGreatDoor.common Go.Proofs.YtocpikgcbibcoaaGreatDoor.dk

set_option maxRecDepth 100000 in
set_option maxHeartbeats 25600000 in
theorem walkW_1 (b p : Nat) (r : Rec) (v : Value) (w : World) (hk : r.k = 1) (hw : Wr p w []) (hS : Src b p r v w) (hF : r.Fine) :
    Calls Tryz.prog 22 #[.pointer (some ⟨b, 0, none⟩), .iface 53 (.pointer (some ⟨p, 0, none⟩))] w fun e w' => e = .returned (.tuple #[]) ∧ Wr p w' (recL r) ∧ Below p w w' := by
  have n_kind := nil_kind ⟨p, 0, none⟩
  have m_kind := met_kind ⟨p, 0, none⟩
  have n_number := nil_number ⟨p, 0, none⟩
  have m_number := met_number ⟨p, 0, none⟩
  have n_text := nil_text ⟨p, 0, none⟩
  have m_text := met_text ⟨p, 0, none⟩
  have hnm : nm (1 : Int) 1 = true := by decide
  have HREC : Hid (recL r = ((([UInt8.ofNat 1] ++ txL r.id) ++ txL r.us) ++ numL r.at_.toNat)) := by
    show recL r = _
    unfold recL idL midL endL
    rw [hk, hnm]
    simp
  have HBX : Hid (∀ X, Below p w X → X.cell? ⟨b, 0, none⟩ = some (.int .i64 1) ∧ X.cell? ⟨b, 1, none⟩ = some (.string r.id) ∧ X.cell? ⟨b, 2, none⟩ = some (.string r.us) ∧ X.cell? ⟨b, 3, none⟩ = some (.string r.cl) ∧ X.cell? ⟨b, 4, none⟩ = some (.string r.rd) ∧ X.cell? ⟨b, 5, none⟩ = some (.string r.ch) ∧ X.cell? ⟨b, 6, none⟩ = some (.string r.cd) ∧ X.cell? ⟨b, 7, none⟩ = some v ∧ X.cell? ⟨b, 8, none⟩ = some (.int .i64 ((r.at_.toNat : Nat) : Int))) := fun X hX => by
    have h := hS.box X hX
    have ha : ((r.at_.toNat : Nat) : Int) = r.at_ := Int.toNat_of_nonneg hF.at0
    rw [hk] at h
    rw [ha]
    exact h
  have HN : Hid (∀ X, Below p w X → Calls Tryz.prog 37 #[.int .i64 1, .int .i64 1] X fun e w' => e = .returned (.bool true) ∧ w' = X) := fun X hX => by
    have h := names_any 1 1 X (hS.tab X hX)
    rw [hnm] at h
    exact h
  have HSS := hide hS
  have HFF := hide hF
  have hb := hS.lt
  have hat : r.at_.toNat ≤ 9223372036854775807 := by have := hF.at1; omega
  clear hS hF hk hnm
  obtain ⟨c0, -⟩ := HBX.out w (Below.refl _ _)
  have HK := hide (wkind_any p b 0 1 [] w.drew hw c0 (by decide) (by decide))
  clear hw
  go_enter Tryz.func22, Tryz.ntmps22
  go_wp2_with fail
  go_region_with (go_at_call 205; refine HK.out.mono ?_; rintro x w0 ⟨rfl, hW0, b0⟩)
  have HW0 : Hid (Wr p w0 [UInt8.ofNat 1]) := hW0
  have HB0 : Hid (Below p w w0) := (Below.refl p w).drew.trans b0
  obtain ⟨l0, hl0⟩ : ∃ l0, l0 = [UInt8.ofNat 1] := ⟨_, rfl⟩
  have hz0 : l0.length ≤ 1 := by rw [hl0]; simp
  rw [← hl0] at HW0
  have HE0 := hide hl0
  clear HK c0 hW0 b0 hl0
  obtain ⟨c0, c1, c2, c3, c4, c5, c6, c7, c8⟩ := HBX.out w0 HB0.out
  have HNN := hide (HN.out w0 HB0.out)
  have HT := hide (wtext_any p b 1 r.id l0 w0.drew HW0.out c1 (Or.inl hb) HFF.out.id (by omega))
  go_wp2_with (go_at_call 37; refine HNN.out.mono ?_; rintro x w9 ⟨rfl, h9⟩; obtain rfl := h9.symm)
  go_region_with (go_at_call 208; refine HT.out.mono ?_; rintro x w1 ⟨rfl, hW1, b1⟩)
  have HW1 : Hid (Wr p w1 (l0 ++ txL r.id)) := hW1
  have HB1 : Hid (Below p w w1) := HB0.out.trans ((Below.refl p w0).drew.trans b1)
  obtain ⟨l1, hl1⟩ : ∃ l1, l1 = l0 ++ txL r.id := ⟨_, rfl⟩
  have hz1 : l1.length ≤ 281474987 := by have := txL_len r.id; have := HFF.out.id; rw [hl1, List.length_append]; omega
  rw [← hl1] at HW1
  have HE1 := hide hl1
  clear HT hW1 b1 hl1 c0 c1 c2 c3 c4 c5 c6 c7 c8 HNN
  obtain ⟨c0, c1, c2, c3, c4, c5, c6, c7, c8⟩ := HBX.out w1 HB1.out
  have HT := hide (wtext_any p b 2 r.us l1 w1.drew HW1.out c2 (Or.inl hb) HFF.out.us (by omega))
  go_wp2_with fail
  go_region_with (go_at_call 208; refine HT.out.mono ?_; rintro x w2 ⟨rfl, hW2, b2⟩)
  have HW2 : Hid (Wr p w2 (l1 ++ txL r.us)) := hW2
  have HB2 : Hid (Below p w w2) := HB1.out.trans ((Below.refl p w1).drew.trans b2)
  obtain ⟨l2, hl2⟩ : ∃ l2, l2 = l1 ++ txL r.us := ⟨_, rfl⟩
  have hz2 : l2.length ≤ 562949973 := by have := txL_len r.us; have := HFF.out.us; rw [hl2, List.length_append]; omega
  rw [← hl2] at HW2
  have HE2 := hide hl2
  clear HT hW2 b2 hl2 c0 c1 c2 c3 c4 c5 c6 c7 c8
  obtain ⟨c0, c1, c2, c3, c4, c5, c6, c7, c8⟩ := HBX.out w2 HB2.out
  have HT := hide (wnumber_any p b 8 r.at_.toNat l2 w2.drew HW2.out c8 hat (by omega))
  go_wp2_with fail
  go_region_with (go_at_call 207; refine HT.out.mono ?_; rintro x w3 ⟨rfl, hW3, b3⟩)
  have HW3 : Hid (Wr p w3 (l2 ++ numL r.at_.toNat)) := hW3
  have HB3 : Hid (Below p w w3) := HB2.out.trans ((Below.refl p w2).drew.trans b3)
  obtain ⟨l3, hl3⟩ : ∃ l3, l3 = l2 ++ numL r.at_.toNat := ⟨_, rfl⟩
  have hz3 : l3.length ≤ 562949983 := by have : (numL r.at_.toNat).length ≤ 10 := (numF_len 9 _).2; rw [hl3, List.length_append]; omega
  rw [← hl3] at HW3
  have HE3 := hide hl3
  clear HT hW3 b3 hl3 c0 c1 c2 c3 c4 c5 c6 c7 c8
  obtain ⟨c0, -⟩ := HBX.out w3 HB3.out
  go_wp2_with fail
  first | go_end0 | refine bodyPost_end (results_none rfl _ _ _) rfl ?_
  refine ⟨rfl, ?_, HB3.out⟩
  have h := HW3.out
  rw [HE3.out, HE2.out, HE1.out, HE0.out] at h
  rw [HREC.out]
  exact h

set_option maxRecDepth 100000 in
set_option maxHeartbeats 25600000 in
theorem walkW_3 (b p : Nat) (r : Rec) (v : Value) (w : World) (hk : r.k = 3) (hw : Wr p w []) (hS : Src b p r v w) (hF : r.Fine) :
    Calls Tryz.prog 22 #[.pointer (some ⟨b, 0, none⟩), .iface 53 (.pointer (some ⟨p, 0, none⟩))] w fun e w' => e = .returned (.tuple #[]) ∧ Wr p w' (recL r) ∧ Below p w w' := by
  have n_kind := nil_kind ⟨p, 0, none⟩
  have m_kind := met_kind ⟨p, 0, none⟩
  have n_list := nil_list ⟨p, 0, none⟩
  have m_list := met_list ⟨p, 0, none⟩
  have n_number := nil_number ⟨p, 0, none⟩
  have m_number := met_number ⟨p, 0, none⟩
  have n_text := nil_text ⟨p, 0, none⟩
  have m_text := met_text ⟨p, 0, none⟩
  have hnm : nm (3 : Int) 1 = false := by decide
  have HREC : Hid (recL r = (((([UInt8.ofNat 3] ++ txL r.cl) ++ lsL r.ss) ++ txL r.us) ++ numL r.at_.toNat)) := by
    show recL r = _
    unfold recL idL midL endL
    rw [hk, hnm]
    simp
  have HBX : Hid (∀ X, Below p w X → X.cell? ⟨b, 0, none⟩ = some (.int .i64 3) ∧ X.cell? ⟨b, 1, none⟩ = some (.string r.id) ∧ X.cell? ⟨b, 2, none⟩ = some (.string r.us) ∧ X.cell? ⟨b, 3, none⟩ = some (.string r.cl) ∧ X.cell? ⟨b, 4, none⟩ = some (.string r.rd) ∧ X.cell? ⟨b, 5, none⟩ = some (.string r.ch) ∧ X.cell? ⟨b, 6, none⟩ = some (.string r.cd) ∧ X.cell? ⟨b, 7, none⟩ = some v ∧ X.cell? ⟨b, 8, none⟩ = some (.int .i64 ((r.at_.toNat : Nat) : Int))) := fun X hX => by
    have h := hS.box X hX
    have ha : ((r.at_.toNat : Nat) : Int) = r.at_ := Int.toNat_of_nonneg hF.at0
    rw [hk] at h
    rw [ha]
    exact h
  have HN : Hid (∀ X, Below p w X → Calls Tryz.prog 37 #[.int .i64 3, .int .i64 1] X fun e w' => e = .returned (.bool false) ∧ w' = X) := fun X hX => by
    have h := names_any 3 1 X (hS.tab X hX)
    rw [hnm] at h
    exact h
  have HSS := hide hS
  have HFF := hide hF
  have hb := hS.lt
  have hat : r.at_.toNat ≤ 9223372036854775807 := by have := hF.at1; omega
  clear hS hF hk hnm
  obtain ⟨c0, -⟩ := HBX.out w (Below.refl _ _)
  have HK := hide (wkind_any p b 0 3 [] w.drew hw c0 (by decide) (by decide))
  clear hw
  go_enter Tryz.func22, Tryz.ntmps22
  go_wp2_with fail
  go_region_with (go_at_call 205; refine HK.out.mono ?_; rintro x w0 ⟨rfl, hW0, b0⟩)
  have HW0 : Hid (Wr p w0 [UInt8.ofNat 3]) := hW0
  have HB0 : Hid (Below p w w0) := (Below.refl p w).drew.trans b0
  obtain ⟨l0, hl0⟩ : ∃ l0, l0 = [UInt8.ofNat 3] := ⟨_, rfl⟩
  have hz0 : l0.length ≤ 1 := by rw [hl0]; simp
  rw [← hl0] at HW0
  have HE0 := hide hl0
  clear HK c0 hW0 b0 hl0
  obtain ⟨c0, c1, c2, c3, c4, c5, c6, c7, c8⟩ := HBX.out w0 HB0.out
  have HNN := hide (HN.out w0 HB0.out)
  have HT := hide (wtext_any p b 3 r.cl l0 w0.drew HW0.out c3 (Or.inl hb) HFF.out.cl (by omega))
  go_wp2_with (go_at_call 37; refine HNN.out.mono ?_; rintro x w9 ⟨rfl, h9⟩; obtain rfl := h9.symm)
  go_region_with (go_at_call 208; refine HT.out.mono ?_; rintro x w1 ⟨rfl, hW1, b1⟩)
  have HW1 : Hid (Wr p w1 (l0 ++ txL r.cl)) := hW1
  have HB1 : Hid (Below p w w1) := HB0.out.trans ((Below.refl p w0).drew.trans b1)
  obtain ⟨l1, hl1⟩ : ∃ l1, l1 = l0 ++ txL r.cl := ⟨_, rfl⟩
  have hz1 : l1.length ≤ 281474987 := by have := txL_len r.cl; have := HFF.out.cl; rw [hl1, List.length_append]; omega
  rw [← hl1] at HW1
  have HE1 := hide hl1
  clear HT hW1 b1 hl1 c0 c1 c2 c3 c4 c5 c6 c7 c8 HNN
  obtain ⟨c0, c1, c2, c3, c4, c5, c6, c7, c8⟩ := HBX.out w1 HB1.out
  have HT := hide (wlist_any p b 7 v r.ss l1 w1.drew HW1.out c7 hb (fun X hX => HSS.out.own X (HB1.out.trans ((Below.refl p w1).drew.trans hX))) HFF.out.len HFF.out.ss (by omega))
  go_wp2_with fail
  go_region_with (go_at_call 206; refine HT.out.mono ?_; rintro x w2 ⟨rfl, hW2, b2⟩)
  have HW2 : Hid (Wr p w2 (l1 ++ lsL r.ss)) := hW2
  have HB2 : Hid (Below p w w2) := HB1.out.trans ((Below.refl p w1).drew.trans b2)
  obtain ⟨l2, hl2⟩ : ∃ l2, l2 = l1 ++ lsL r.ss := ⟨_, rfl⟩
  have hz2 : l2.length ≤ 4785074773 := by have := lsL_len r.ss HFF.out.len HFF.out.ss; rw [hl2, List.length_append]; omega
  rw [← hl2] at HW2
  have HE2 := hide hl2
  clear HT hW2 b2 hl2 c0 c1 c2 c3 c4 c5 c6 c7 c8
  obtain ⟨c0, c1, c2, c3, c4, c5, c6, c7, c8⟩ := HBX.out w2 HB2.out
  have HT := hide (wtext_any p b 2 r.us l2 w2.drew HW2.out c2 (Or.inl hb) HFF.out.us (by omega))
  go_wp2_with fail
  go_region_with (go_at_call 208; refine HT.out.mono ?_; rintro x w3 ⟨rfl, hW3, b3⟩)
  have HW3 : Hid (Wr p w3 (l2 ++ txL r.us)) := hW3
  have HB3 : Hid (Below p w w3) := HB2.out.trans ((Below.refl p w2).drew.trans b3)
  obtain ⟨l3, hl3⟩ : ∃ l3, l3 = l2 ++ txL r.us := ⟨_, rfl⟩
  have hz3 : l3.length ≤ 5066549759 := by have := txL_len r.us; have := HFF.out.us; rw [hl3, List.length_append]; omega
  rw [← hl3] at HW3
  have HE3 := hide hl3
  clear HT hW3 b3 hl3 c0 c1 c2 c3 c4 c5 c6 c7 c8
  obtain ⟨c0, c1, c2, c3, c4, c5, c6, c7, c8⟩ := HBX.out w3 HB3.out
  have HT := hide (wnumber_any p b 8 r.at_.toNat l3 w3.drew HW3.out c8 hat (by omega))
  go_wp2_with fail
  go_region_with (go_at_call 207; refine HT.out.mono ?_; rintro x w4 ⟨rfl, hW4, b4⟩)
  have HW4 : Hid (Wr p w4 (l3 ++ numL r.at_.toNat)) := hW4
  have HB4 : Hid (Below p w w4) := HB3.out.trans ((Below.refl p w3).drew.trans b4)
  obtain ⟨l4, hl4⟩ : ∃ l4, l4 = l3 ++ numL r.at_.toNat := ⟨_, rfl⟩
  have hz4 : l4.length ≤ 5066549769 := by have : (numL r.at_.toNat).length ≤ 10 := (numF_len 9 _).2; rw [hl4, List.length_append]; omega
  rw [← hl4] at HW4
  have HE4 := hide hl4
  clear HT hW4 b4 hl4 c0 c1 c2 c3 c4 c5 c6 c7 c8
  obtain ⟨c0, -⟩ := HBX.out w4 HB4.out
  go_wp2_with fail
  first | go_end0 | refine bodyPost_end (results_none rfl _ _ _) rfl ?_
  refine ⟨rfl, ?_, HB4.out⟩
  have h := HW4.out
  rw [HE4.out, HE3.out, HE2.out, HE1.out, HE0.out] at h
  rw [HREC.out]
  exact h

set_option maxRecDepth 100000 in
set_option maxHeartbeats 25600000 in
theorem walkW_11 (b p : Nat) (r : Rec) (v : Value) (w : World) (hk : r.k = 11) (hw : Wr p w []) (hS : Src b p r v w) (hF : r.Fine) :
    Calls Tryz.prog 22 #[.pointer (some ⟨b, 0, none⟩), .iface 53 (.pointer (some ⟨p, 0, none⟩))] w fun e w' => e = .returned (.tuple #[]) ∧ Wr p w' (recL r) ∧ Below p w w' := by
  have n_kind := nil_kind ⟨p, 0, none⟩
  have m_kind := met_kind ⟨p, 0, none⟩
  have n_text := nil_text ⟨p, 0, none⟩
  have m_text := met_text ⟨p, 0, none⟩
  have hnm : nm (11 : Int) 1 = false := by decide
  have HREC : Hid (recL r = (([UInt8.ofNat 11] ++ txL r.cl) ++ txL r.us)) := by
    show recL r = _
    unfold recL idL midL endL
    rw [hk, hnm]
    simp
  have HBX : Hid (∀ X, Below p w X → X.cell? ⟨b, 0, none⟩ = some (.int .i64 11) ∧ X.cell? ⟨b, 1, none⟩ = some (.string r.id) ∧ X.cell? ⟨b, 2, none⟩ = some (.string r.us) ∧ X.cell? ⟨b, 3, none⟩ = some (.string r.cl) ∧ X.cell? ⟨b, 4, none⟩ = some (.string r.rd) ∧ X.cell? ⟨b, 5, none⟩ = some (.string r.ch) ∧ X.cell? ⟨b, 6, none⟩ = some (.string r.cd) ∧ X.cell? ⟨b, 7, none⟩ = some v ∧ X.cell? ⟨b, 8, none⟩ = some (.int .i64 ((r.at_.toNat : Nat) : Int))) := fun X hX => by
    have h := hS.box X hX
    have ha : ((r.at_.toNat : Nat) : Int) = r.at_ := Int.toNat_of_nonneg hF.at0
    rw [hk] at h
    rw [ha]
    exact h
  have HN : Hid (∀ X, Below p w X → Calls Tryz.prog 37 #[.int .i64 11, .int .i64 1] X fun e w' => e = .returned (.bool false) ∧ w' = X) := fun X hX => by
    have h := names_any 11 1 X (hS.tab X hX)
    rw [hnm] at h
    exact h
  have HSS := hide hS
  have HFF := hide hF
  have hb := hS.lt
  have hat : r.at_.toNat ≤ 9223372036854775807 := by have := hF.at1; omega
  clear hS hF hk hnm
  obtain ⟨c0, -⟩ := HBX.out w (Below.refl _ _)
  have HK := hide (wkind_any p b 0 11 [] w.drew hw c0 (by decide) (by decide))
  clear hw
  go_enter Tryz.func22, Tryz.ntmps22
  go_wp2_with fail
  go_region_with (go_at_call 205; refine HK.out.mono ?_; rintro x w0 ⟨rfl, hW0, b0⟩)
  have HW0 : Hid (Wr p w0 [UInt8.ofNat 11]) := hW0
  have HB0 : Hid (Below p w w0) := (Below.refl p w).drew.trans b0
  obtain ⟨l0, hl0⟩ : ∃ l0, l0 = [UInt8.ofNat 11] := ⟨_, rfl⟩
  have hz0 : l0.length ≤ 1 := by rw [hl0]; simp
  rw [← hl0] at HW0
  have HE0 := hide hl0
  clear HK c0 hW0 b0 hl0
  obtain ⟨c0, c1, c2, c3, c4, c5, c6, c7, c8⟩ := HBX.out w0 HB0.out
  have HNN := hide (HN.out w0 HB0.out)
  have HT := hide (wtext_any p b 3 r.cl l0 w0.drew HW0.out c3 (Or.inl hb) HFF.out.cl (by omega))
  go_wp2_with (go_at_call 37; refine HNN.out.mono ?_; rintro x w9 ⟨rfl, h9⟩; obtain rfl := h9.symm)
  go_region_with (go_at_call 208; refine HT.out.mono ?_; rintro x w1 ⟨rfl, hW1, b1⟩)
  have HW1 : Hid (Wr p w1 (l0 ++ txL r.cl)) := hW1
  have HB1 : Hid (Below p w w1) := HB0.out.trans ((Below.refl p w0).drew.trans b1)
  obtain ⟨l1, hl1⟩ : ∃ l1, l1 = l0 ++ txL r.cl := ⟨_, rfl⟩
  have hz1 : l1.length ≤ 281474987 := by have := txL_len r.cl; have := HFF.out.cl; rw [hl1, List.length_append]; omega
  rw [← hl1] at HW1
  have HE1 := hide hl1
  clear HT hW1 b1 hl1 c0 c1 c2 c3 c4 c5 c6 c7 c8 HNN
  obtain ⟨c0, c1, c2, c3, c4, c5, c6, c7, c8⟩ := HBX.out w1 HB1.out
  have HT := hide (wtext_any p b 2 r.us l1 w1.drew HW1.out c2 (Or.inl hb) HFF.out.us (by omega))
  go_wp2_with fail
  go_region_with (go_at_call 208; refine HT.out.mono ?_; rintro x w2 ⟨rfl, hW2, b2⟩)
  have HW2 : Hid (Wr p w2 (l1 ++ txL r.us)) := hW2
  have HB2 : Hid (Below p w w2) := HB1.out.trans ((Below.refl p w1).drew.trans b2)
  obtain ⟨l2, hl2⟩ : ∃ l2, l2 = l1 ++ txL r.us := ⟨_, rfl⟩
  have hz2 : l2.length ≤ 562949973 := by have := txL_len r.us; have := HFF.out.us; rw [hl2, List.length_append]; omega
  rw [← hl2] at HW2
  have HE2 := hide hl2
  clear HT hW2 b2 hl2 c0 c1 c2 c3 c4 c5 c6 c7 c8
  obtain ⟨c0, -⟩ := HBX.out w2 HB2.out
  go_wp2_with fail
  first | go_end0 | refine bodyPost_end (results_none rfl _ _ _) rfl ?_
  refine ⟨rfl, ?_, HB2.out⟩
  have h := HW2.out
  rw [HE2.out, HE1.out, HE0.out] at h
  rw [HREC.out]
  exact h
end Go.Proofs.YtocpikgcbibcoaaGreatDoor.rc
