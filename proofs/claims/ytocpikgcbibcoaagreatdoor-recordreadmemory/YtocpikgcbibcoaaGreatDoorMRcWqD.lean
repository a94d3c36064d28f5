import Derived.Test.YtocpikgcbibcoaaGreatDoorMRcWqA
namespace Go.Proofs.YtocpikgcbibcoaaGreatDoor.rc
open Go.ChangeShapes Go.WideShapes Go.ChangeAt Go.RowKit Go.Proofs.YtocpikgcbibcoaaGreatDoor.common Go.Proofs.YtocpikgcbibcoaaGreatDoor.dk

set_option maxRecDepth 100000 in
set_option maxHeartbeats 25600000 in
theorem walkR_1 (K p q : Nat) (b : UInt8) (r0 : List UInt8) (w : World) (hb : b.toNat = 1) (hr : Rs K p w (some (b :: r0))) (hq : w.heap[q]? = some (.cells zrec 26 (0, 0))) (hT : KTab w) (hG : 7 < K) (hpq : p ≠ q) (hKp : K ≤ p) (hKq : K ≤ q) :
    Calls Tryz.prog 22 #[.pointer (some ⟨q, 0, none⟩), .iface 60 (.pointer (some ⟨p, 0, none⟩))] w (WalkOut K p q (b :: r0) w) := by
  have n_kind := rnil_kind ⟨p, 0, none⟩
  have m_kind := rmet_kind ⟨p, 0, none⟩
  have n_number := rnil_number ⟨p, 0, none⟩
  have m_number := rmet_number ⟨p, 0, none⟩
  have n_text := rnil_text ⟨p, 0, none⟩
  have m_text := rmet_text ⟨p, 0, none⟩
  have HPL : Hid (p < w.heap.size ∧ q < w.heap.size) := ⟨hr.lt, (Array.getElem?_eq_some_iff.1 hq).1⟩
  have HTT : Hid (∀ X, Fr [p, q] w X → KTab X) := fun X hX => ktab_fr hT hX (by omega) (by omega)
  have HK := hide (rkind_cons K p q zrec 26 0 b r0 w.drew hr.drew hq rfl hpq hKp hKq)
  have hbi : ((b.toNat : Nat) : Int) = 1 := by rw [hb]; rfl
  rw [hbi] at HK
  have HHB := hide hb
  clear hb hbi
  have hnm : nm (1 : Int) 1 = true := by decide
  have HN : Hid (∀ X, Fr [p, q] w X → Calls Tryz.prog 37 #[.int .i64 1, .int .i64 1] X fun e w' => e = .returned (.bool true) ∧ w' = X) := fun X hX => by
    have h := names_any 1 1 X (HTT.out X hX)
    rw [hnm] at h
    exact h
  clear hr hq hT hnm
  unfold WalkOut
  go_enter Tryz.func22, Tryz.ntmps22
  go_wp2_with fail
  go_region_with (go_at_call 209; refine HK.out.mono ?_; rintro x w0 ⟨rfl, hF0, hR0, hq0⟩)
  have HF0 : Hid (Fr [p, q] w w0) := frN (Fr.refl _ _) hF0
  have HR0 : Hid (Rs K p w0 (some r0)) := hR0
  have HQ0 : Hid (w0.heap[q]? = some (.cells (rcs ⟨1, ⟨#[]⟩, ⟨#[]⟩, ⟨#[]⟩, ⟨#[]⟩, ⟨#[]⟩, ⟨#[]⟩, [], 0⟩ (.slice none 0 0)) 26 (0, 0))) := hq0
  clear HK hF0 hR0 hq0
  have c0 : w0.cell? ⟨q, 0, none⟩ = some (.int .i64 1) := cell_of HQ0.out 0
  have HNN := hide (HN.out w0 HF0.out)
  have HT := hide (rtext_any K p q 1 (rcs ⟨1, ⟨#[]⟩, ⟨#[]⟩, ⟨#[]⟩, ⟨#[]⟩, ⟨#[]⟩, ⟨#[]⟩, [], 0⟩ (.slice none 0 0)) 26 ⟨#[]⟩ (some r0) w0.drew HR0.out.drew HQ0.out rfl hpq hKp hKq)
  go_wp2_with (go_at_call 37; refine HNN.out.mono ?_; rintro x w9 ⟨rfl, h9⟩; obtain rfl := h9.symm)
  go_region_with (go_at_call 211; refine HT.out.mono ?_; rintro x w1 ⟨rfl, y_id, s1, hst, hy, hR, hq, hF⟩)
  have HF1 : Hid (Fr [p, q] w w1) := frN HF0.out hF
  have HR1 := hide hR
  have HQ1 : Hid (w1.heap[q]? = some (.cells (rcs ⟨1, y_id, ⟨#[]⟩, ⟨#[]⟩, ⟨#[]⟩, ⟨#[]⟩, ⟨#[]⟩, [], 0⟩ (.slice none 0 0)) 26 (0, 0))) := hq
  have HS1 := hide hst
  have HY_id := hide hy
  clear HT hst hy hR hq hF c0 HNN
  have c0 : w1.cell? ⟨q, 0, none⟩ = some (.int .i64 1) := cell_of HQ1.out 0
  have HT := hide (rtext_any K p q 2 (rcs ⟨1, y_id, ⟨#[]⟩, ⟨#[]⟩, ⟨#[]⟩, ⟨#[]⟩, ⟨#[]⟩, [], 0⟩ (.slice none 0 0)) 26 ⟨#[]⟩ s1 w1.drew HR1.out.drew HQ1.out rfl hpq hKp hKq)
  go_wp2_with fail
  go_region_with (go_at_call 211; refine HT.out.mono ?_; rintro x w2 ⟨rfl, y_us, s2, hst, hy, hR, hq, hF⟩)
  have HF2 : Hid (Fr [p, q] w w2) := frN HF1.out hF
  have HR2 := hide hR
  have HQ2 : Hid (w2.heap[q]? = some (.cells (rcs ⟨1, y_id, y_us, ⟨#[]⟩, ⟨#[]⟩, ⟨#[]⟩, ⟨#[]⟩, [], 0⟩ (.slice none 0 0)) 26 (0, 0))) := hq
  have HS2 := hide hst
  have HY_us := hide hy
  clear HT hst hy hR hq hF c0
  have c0 : w2.cell? ⟨q, 0, none⟩ = some (.int .i64 1) := cell_of HQ2.out 0
  have HT := hide (number_any K p q 8 (rcs ⟨1, y_id, y_us, ⟨#[]⟩, ⟨#[]⟩, ⟨#[]⟩, ⟨#[]⟩, [], 0⟩ (.slice none 0 0)) 26 0 s2 w2.drew HR2.out.drew HQ2.out rfl hpq hKp hKq)
  go_wp2_with fail
  go_region_with (go_at_call 23; refine HT.out.mono ?_; rintro x w3 ⟨rfl, y_at, s3, hst, -, hR, hq, hF⟩)
  have HF3 : Hid (Fr [p, q] w w3) := frN HF2.out hF
  have HR3 := hide hR
  have HQ3 : Hid (w3.heap[q]? = some (.cells (rcs ⟨1, y_id, y_us, ⟨#[]⟩, ⟨#[]⟩, ⟨#[]⟩, ⟨#[]⟩, [], ((y_at : Nat) : Int)⟩ (.slice none 0 0)) 26 (0, 0))) := hq
  have HS3 := hide hst
  clear HT hst hR hq hF c0
  have c0 : w3.cell? ⟨q, 0, none⟩ = some (.int .i64 1) := cell_of HQ3.out 0
  go_wp2_with fail
  first | go_end0 | refine bodyPost_end (results_none rfl _ _ _) rfl ?_
  exact ⟨rfl, ⟨1, y_id, y_us, ⟨#[]⟩, ⟨#[]⟩, ⟨#[]⟩, ⟨#[]⟩, [], ((y_at : Nat) : Int)⟩, _, s3, HQ3.out, World.ownsRow_nil _ _ _ _, HR3.out, HF3.out, ⟨⟨HY_id.out, HY_us.out, e_low, e_low, e_low, e_low, fun s hs => by cases hs⟩, Nat.zero_le _⟩, fin_1 HHB.out HS1.out HS2.out HS3.out⟩

set_option maxRecDepth 100000 in
set_option maxHeartbeats 25600000 in
theorem walkR_3 (K p q : Nat) (b : UInt8) (r0 : List UInt8) (w : World) (hb : b.toNat = 3) (hr : Rs K p w (some (b :: r0))) (hq : w.heap[q]? = some (.cells zrec 26 (0, 0))) (hT : KTab w) (hG : 7 < K) (hpq : p ≠ q) (hKp : K ≤ p) (hKq : K ≤ q) :
    Calls Tryz.prog 22 #[.pointer (some ⟨q, 0, none⟩), .iface 60 (.pointer (some ⟨p, 0, none⟩))] w (WalkOut K p q (b :: r0) w) := by
  have n_kind := rnil_kind ⟨p, 0, none⟩
  have m_kind := rmet_kind ⟨p, 0, none⟩
  have n_list := rnil_list ⟨p, 0, none⟩
  have m_list := rmet_list ⟨p, 0, none⟩
  have n_number := rnil_number ⟨p, 0, none⟩
  have m_number := rmet_number ⟨p, 0, none⟩
  have n_text := rnil_text ⟨p, 0, none⟩
  have m_text := rmet_text ⟨p, 0, none⟩
  have HPL : Hid (p < w.heap.size ∧ q < w.heap.size) := ⟨hr.lt, (Array.getElem?_eq_some_iff.1 hq).1⟩
  have HTT : Hid (∀ X, Fr [p, q] w X → KTab X) := fun X hX => ktab_fr hT hX (by omega) (by omega)
  have HK := hide (rkind_cons K p q zrec 26 0 b r0 w.drew hr.drew hq rfl hpq hKp hKq)
  have hbi : ((b.toNat : Nat) : Int) = 3 := by rw [hb]; rfl
  rw [hbi] at HK
  have HHB := hide hb
  clear hb hbi
  have hnm : nm (3 : Int) 1 = false := by decide
  have HN : Hid (∀ X, Fr [p, q] w X → Calls Tryz.prog 37 #[.int .i64 3, .int .i64 1] X fun e w' => e = .returned (.bool false) ∧ w' = X) := fun X hX => by
    have h := names_any 3 1 X (HTT.out X hX)
    rw [hnm] at h
    exact h
  clear hr hq hT hnm
  unfold WalkOut
  go_enter Tryz.func22, Tryz.ntmps22
  go_wp2_with fail
  go_region_with (go_at_call 209; refine HK.out.mono ?_; rintro x w0 ⟨rfl, hF0, hR0, hq0⟩)
  have HF0 : Hid (Fr [p, q] w w0) := frN (Fr.refl _ _) hF0
  have HR0 : Hid (Rs K p w0 (some r0)) := hR0
  have HQ0 : Hid (w0.heap[q]? = some (.cells (rcs ⟨3, ⟨#[]⟩, ⟨#[]⟩, ⟨#[]⟩, ⟨#[]⟩, ⟨#[]⟩, ⟨#[]⟩, [], 0⟩ (.slice none 0 0)) 26 (0, 0))) := hq0
  clear HK hF0 hR0 hq0
  have c0 : w0.cell? ⟨q, 0, none⟩ = some (.int .i64 3) := cell_of HQ0.out 0
  have HNN := hide (HN.out w0 HF0.out)
  have HT := hide (rtext_any K p q 3 (rcs ⟨3, ⟨#[]⟩, ⟨#[]⟩, ⟨#[]⟩, ⟨#[]⟩, ⟨#[]⟩, ⟨#[]⟩, [], 0⟩ (.slice none 0 0)) 26 ⟨#[]⟩ (some r0) w0.drew HR0.out.drew HQ0.out rfl hpq hKp hKq)
  go_wp2_with (go_at_call 37; refine HNN.out.mono ?_; rintro x w9 ⟨rfl, h9⟩; obtain rfl := h9.symm)
  go_region_with (go_at_call 211; refine HT.out.mono ?_; rintro x w1 ⟨rfl, y_cl, s1, hst, hy, hR, hq, hF⟩)
  have HF1 : Hid (Fr [p, q] w w1) := frN HF0.out hF
  have HR1 := hide hR
  have HQ1 : Hid (w1.heap[q]? = some (.cells (rcs ⟨3, ⟨#[]⟩, ⟨#[]⟩, y_cl, ⟨#[]⟩, ⟨#[]⟩, ⟨#[]⟩, [], 0⟩ (.slice none 0 0)) 26 (0, 0))) := hq
  have HS1 := hide hst
  have HY_cl := hide hy
  clear HT hst hy hR hq hF c0 HNN
  have c0 : w1.cell? ⟨q, 0, none⟩ = some (.int .i64 3) := cell_of HQ1.out 0
  have HT := hide (rlist_any K p q 7 (rcs ⟨3, ⟨#[]⟩, ⟨#[]⟩, y_cl, ⟨#[]⟩, ⟨#[]⟩, ⟨#[]⟩, [], 0⟩ (.slice none 0 0)) 26 s1 w1.drew HR1.out.drew HQ1.out rfl hpq hKp hKq)
  go_wp2_with fail
  go_region_with (go_at_call 210; refine HT.out.mono ?_; rintro x w2 ⟨rfl, y_ss, vv, s2, hst, hy, hR, hq, hO, hF⟩)
  obtain ⟨ol, cl, rfl⟩ := own_slice hO
  have HF2 : Hid (Fr [p, q] w w2) := frN HF1.out hF
  have HO2 : Hid (w2.ownsRow w.heap.size 9 1 (.slice ol y_ss.length cl) y_ss.length (y_ss.map Value.string)) := own_least hO HF1.out.size
  have HR2 := hide hR
  have HQ2 : Hid (w2.heap[q]? = some (.cells (rcs ⟨3, ⟨#[]⟩, ⟨#[]⟩, y_cl, ⟨#[]⟩, ⟨#[]⟩, ⟨#[]⟩, y_ss, 0⟩ (.slice ol y_ss.length cl)) 26 (0, 0))) := hq
  have HS2 := hide hst
  have HY_ss := hide hy
  clear HT hst hy hR hq hF c0 hO
  have c0 : w2.cell? ⟨q, 0, none⟩ = some (.int .i64 3) := cell_of HQ2.out 0
  have HT := hide (rtext_any K p q 2 (rcs ⟨3, ⟨#[]⟩, ⟨#[]⟩, y_cl, ⟨#[]⟩, ⟨#[]⟩, ⟨#[]⟩, y_ss, 0⟩ (.slice ol y_ss.length cl)) 26 ⟨#[]⟩ s2 w2.drew HR2.out.drew HQ2.out rfl hpq hKp hKq)
  go_wp2_with fail
  go_region_with (go_at_call 211; refine HT.out.mono ?_; rintro x w3 ⟨rfl, y_us, s3, hst, hy, hR, hq, hF⟩)
  have HF3 : Hid (Fr [p, q] w w3) := frN HF2.out hF
  have HO3 := hide (own_pq HO2.out ((frD _ _).trans hF (fun _ hi => Or.inl hi)) HPL.out.1 HPL.out.2)
  have HR3 := hide hR
  have HQ3 : Hid (w3.heap[q]? = some (.cells (rcs ⟨3, ⟨#[]⟩, y_us, y_cl, ⟨#[]⟩, ⟨#[]⟩, ⟨#[]⟩, y_ss, 0⟩ (.slice ol y_ss.length cl)) 26 (0, 0))) := hq
  have HS3 := hide hst
  have HY_us := hide hy
  clear HT hst hy hR hq hF c0
  have c0 : w3.cell? ⟨q, 0, none⟩ = some (.int .i64 3) := cell_of HQ3.out 0
  have HT := hide (number_any K p q 8 (rcs ⟨3, ⟨#[]⟩, y_us, y_cl, ⟨#[]⟩, ⟨#[]⟩, ⟨#[]⟩, y_ss, 0⟩ (.slice ol y_ss.length cl)) 26 0 s3 w3.drew HR3.out.drew HQ3.out rfl hpq hKp hKq)
  go_wp2_with fail
  go_region_with (go_at_call 23; refine HT.out.mono ?_; rintro x w4 ⟨rfl, y_at, s4, hst, -, hR, hq, hF⟩)
  have HF4 : Hid (Fr [p, q] w w4) := frN HF3.out hF
  have HO4 := hide (own_pq HO3.out ((frD _ _).trans hF (fun _ hi => Or.inl hi)) HPL.out.1 HPL.out.2)
  have HR4 := hide hR
  have HQ4 : Hid (w4.heap[q]? = some (.cells (rcs ⟨3, ⟨#[]⟩, y_us, y_cl, ⟨#[]⟩, ⟨#[]⟩, ⟨#[]⟩, y_ss, ((y_at : Nat) : Int)⟩ (.slice ol y_ss.length cl)) 26 (0, 0))) := hq
  have HS4 := hide hst
  clear HT hst hR hq hF c0
  have c0 : w4.cell? ⟨q, 0, none⟩ = some (.int .i64 3) := cell_of HQ4.out 0
  go_wp2_with fail
  first | go_end0 | refine bodyPost_end (results_none rfl _ _ _) rfl ?_
  exact ⟨rfl, ⟨3, ⟨#[]⟩, y_us, y_cl, ⟨#[]⟩, ⟨#[]⟩, ⟨#[]⟩, y_ss, ((y_at : Nat) : Int)⟩, _, s4, HQ4.out, HO4.out, HR4.out, HF4.out, ⟨⟨e_low, HY_us.out, HY_cl.out, e_low, e_low, e_low, HY_ss.out.2⟩, HY_ss.out.1⟩, fin_3 HHB.out HS1.out HS2.out HS3.out HS4.out⟩

set_option maxRecDepth 100000 in
set_option maxHeartbeats 25600000 in
theorem walkR_11 (K p q : Nat) (b : UInt8) (r0 : List UInt8) (w : World) (hb : b.toNat = 11) (hr : Rs K p w (some (b :: r0))) (hq : w.heap[q]? = some (.cells zrec 26 (0, 0))) (hT : KTab w) (hG : 7 < K) (hpq : p ≠ q) (hKp : K ≤ p) (hKq : K ≤ q) :
    Calls Tryz.prog 22 #[.pointer (some ⟨q, 0, none⟩), .iface 60 (.pointer (some ⟨p, 0, none⟩))] w (WalkOut K p q (b :: r0) w) := by
  have n_kind := rnil_kind ⟨p, 0, none⟩
  have m_kind := rmet_kind ⟨p, 0, none⟩
  have n_text := rnil_text ⟨p, 0, none⟩
  have m_text := rmet_text ⟨p, 0, none⟩
  have HPL : Hid (p < w.heap.size ∧ q < w.heap.size) := ⟨hr.lt, (Array.getElem?_eq_some_iff.1 hq).1⟩
  have HTT : Hid (∀ X, Fr [p, q] w X → KTab X) := fun X hX => ktab_fr hT hX (by omega) (by omega)
  have HK := hide (rkind_cons K p q zrec 26 0 b r0 w.drew hr.drew hq rfl hpq hKp hKq)
  have hbi : ((b.toNat : Nat) : Int) = 11 := by rw [hb]; rfl
  rw [hbi] at HK
  have HHB := hide hb
  clear hb hbi
  have hnm : nm (11 : Int) 1 = false := by decide
  have HN : Hid (∀ X, Fr [p, q] w X → Calls Tryz.prog 37 #[.int .i64 11, .int .i64 1] X fun e w' => e = .returned (.bool false) ∧ w' = X) := fun X hX => by
    have h := names_any 11 1 X (HTT.out X hX)
    rw [hnm] at h
    exact h
  clear hr hq hT hnm
  unfold WalkOut
  go_enter Tryz.func22, Tryz.ntmps22
  go_wp2_with fail
  go_region_with (go_at_call 209; refine HK.out.mono ?_; rintro x w0 ⟨rfl, hF0, hR0, hq0⟩)
  have HF0 : Hid (Fr [p, q] w w0) := frN (Fr.refl _ _) hF0
  have HR0 : Hid (Rs K p w0 (some r0)) := hR0
  have HQ0 : Hid (w0.heap[q]? = some (.cells (rcs ⟨11, ⟨#[]⟩, ⟨#[]⟩, ⟨#[]⟩, ⟨#[]⟩, ⟨#[]⟩, ⟨#[]⟩, [], 0⟩ (.slice none 0 0)) 26 (0, 0))) := hq0
  clear HK hF0 hR0 hq0
  have c0 : w0.cell? ⟨q, 0, none⟩ = some (.int .i64 11) := cell_of HQ0.out 0
  have HNN := hide (HN.out w0 HF0.out)
  have HT := hide (rtext_any K p q 3 (rcs ⟨11, ⟨#[]⟩, ⟨#[]⟩, ⟨#[]⟩, ⟨#[]⟩, ⟨#[]⟩, ⟨#[]⟩, [], 0⟩ (.slice none 0 0)) 26 ⟨#[]⟩ (some r0) w0.drew HR0.out.drew HQ0.out rfl hpq hKp hKq)
  go_wp2_with (go_at_call 37; refine HNN.out.mono ?_; rintro x w9 ⟨rfl, h9⟩; obtain rfl := h9.symm)
  go_region_with (go_at_call 211; refine HT.out.mono ?_; rintro x w1 ⟨rfl, y_cl, s1, hst, hy, hR, hq, hF⟩)
  have HF1 : Hid (Fr [p, q] w w1) := frN HF0.out hF
  have HR1 := hide hR
  have HQ1 : Hid (w1.heap[q]? = some (.cells (rcs ⟨11, ⟨#[]⟩, ⟨#[]⟩, y_cl, ⟨#[]⟩, ⟨#[]⟩, ⟨#[]⟩, [], 0⟩ (.slice none 0 0)) 26 (0, 0))) := hq
  have HS1 := hide hst
  have HY_cl := hide hy
  clear HT hst hy hR hq hF c0 HNN
  have c0 : w1.cell? ⟨q, 0, none⟩ = some (.int .i64 11) := cell_of HQ1.out 0
  have HT := hide (rtext_any K p q 2 (rcs ⟨11, ⟨#[]⟩, ⟨#[]⟩, y_cl, ⟨#[]⟩, ⟨#[]⟩, ⟨#[]⟩, [], 0⟩ (.slice none 0 0)) 26 ⟨#[]⟩ s1 w1.drew HR1.out.drew HQ1.out rfl hpq hKp hKq)
  go_wp2_with fail
  go_region_with (go_at_call 211; refine HT.out.mono ?_; rintro x w2 ⟨rfl, y_us, s2, hst, hy, hR, hq, hF⟩)
  have HF2 : Hid (Fr [p, q] w w2) := frN HF1.out hF
  have HR2 := hide hR
  have HQ2 : Hid (w2.heap[q]? = some (.cells (rcs ⟨11, ⟨#[]⟩, y_us, y_cl, ⟨#[]⟩, ⟨#[]⟩, ⟨#[]⟩, [], 0⟩ (.slice none 0 0)) 26 (0, 0))) := hq
  have HS2 := hide hst
  have HY_us := hide hy
  clear HT hst hy hR hq hF c0
  have c0 : w2.cell? ⟨q, 0, none⟩ = some (.int .i64 11) := cell_of HQ2.out 0
  go_wp2_with fail
  first | go_end0 | refine bodyPost_end (results_none rfl _ _ _) rfl ?_
  exact ⟨rfl, ⟨11, ⟨#[]⟩, y_us, y_cl, ⟨#[]⟩, ⟨#[]⟩, ⟨#[]⟩, [], 0⟩, _, s2, HQ2.out, World.ownsRow_nil _ _ _ _, HR2.out, HF2.out, ⟨⟨e_low, HY_us.out, HY_cl.out, e_low, e_low, e_low, fun s hs => by cases hs⟩, Nat.zero_le _⟩, fin_11 HHB.out HS1.out HS2.out⟩

set_option maxRecDepth 100000 in
set_option maxHeartbeats 25600000 in
theorem walkR_else (K p q : Nat) (b : UInt8) (r0 : List UInt8) (w : World) (hb : ¬ (0 < b.toNat ∧ b.toNat < 12)) (hr : Rs K p w (some (b :: r0))) (hq : w.heap[q]? = some (.cells zrec 26 (0, 0))) (hT : KTab w) (hG : 7 < K) (hpq : p ≠ q) (hKp : K ≤ p) (hKq : K ≤ q) :
    Calls Tryz.prog 22 #[.pointer (some ⟨q, 0, none⟩), .iface 60 (.pointer (some ⟨p, 0, none⟩))] w (WalkOut K p q (b :: r0) w) := by
  have n_kind := rnil_kind ⟨p, 0, none⟩
  have m_kind := rmet_kind ⟨p, 0, none⟩
  have HPL : Hid (p < w.heap.size ∧ q < w.heap.size) := ⟨hr.lt, (Array.getElem?_eq_some_iff.1 hq).1⟩
  have HTT : Hid (∀ X, Fr [p, q] w X → KTab X) := fun X hX => ktab_fr hT hX (by omega) (by omega)
  have HK := hide (rkind_cons K p q zrec 26 0 b r0 w.drew hr.drew hq rfl hpq hKp hKq)
  obtain ⟨M, hM⟩ : ∃ M, M = b.toNat := ⟨_, rfl⟩
  rw [← hM] at HK hb
  have HM := hide hM
  obtain ⟨N, hN⟩ : ∃ N : Int, N = ((M : Nat) : Int) := ⟨_, rfl⟩
  rw [← hN] at HK
  have hnm : nm N 1 = false := by
    unfold nm isK
    by_cases h0 : 0 < M
    · rw [decide_eq_false (show ¬ N < 12 by omega)]; simp
    · rw [decide_eq_false (show ¬ 0 < N by omega)]; simp
  have hiK : isK N = false := by
    unfold isK
    by_cases h0 : 0 < M
    · rw [decide_eq_false (show ¬ N < 12 by omega)]; simp
    · rw [decide_eq_false (show ¬ 0 < N by omega)]; simp
  have q4 : ¬ N = 4 := by omega
  have q4b : (N == 4) = false := beq_false_of_ne q4
  have q6 : ¬ N = 6 := by omega
  have q6b : (N == 6) = false := beq_false_of_ne q6
  have q9 : ¬ N = 9 := by omega
  have q9b : (N == 9) = false := beq_false_of_ne q9
  have q3 : ¬ N = 3 := by omega
  have q3b : (N == 3) = false := beq_false_of_ne q3
  have q1 : ¬ N = 1 := by omega
  have q1b : (N == 1) = false := beq_false_of_ne q1
  have q11 : ¬ N = 11 := by omega
  have q11b : (N == 11) = false := beq_false_of_ne q11
  have HNM := hide hN
  have HHB := hide hb
  clear hN hM hb
  have HN : Hid (∀ X, Fr [p, q] w X → Calls Tryz.prog 37 #[.int .i64 N, .int .i64 1] X fun e w' => e = .returned (.bool false) ∧ w' = X) := fun X hX => by
    have h := names_any N 1 X (HTT.out X hX)
    rw [hnm] at h
    exact h
  clear hr hq hT hnm
  unfold WalkOut
  go_enter Tryz.func22, Tryz.ntmps22
  go_wp2_with fail
  go_region_with (go_at_call 209; refine HK.out.mono ?_; rintro x w0 ⟨rfl, hF0, hR0, hq0⟩)
  have HF0 : Hid (Fr [p, q] w w0) := frN (Fr.refl _ _) hF0
  have HR0 : Hid (Rs K p w0 (some r0)) := hR0
  have HQ0 : Hid (w0.heap[q]? = some (.cells (rcs ⟨N, ⟨#[]⟩, ⟨#[]⟩, ⟨#[]⟩, ⟨#[]⟩, ⟨#[]⟩, ⟨#[]⟩, [], 0⟩ (.slice none 0 0)) 26 (0, 0))) := hq0
  clear HK hF0 hR0 hq0
  have c0 : w0.cell? ⟨q, 0, none⟩ = some (.int .i64 N) := cell_of HQ0.out 0
  have HNN := hide (HN.out w0 HF0.out)
  go_wp2_with (go_at_call 37; refine HNN.out.mono ?_; rintro x w9 ⟨rfl, h9⟩; obtain rfl := h9.symm)
  first | go_end0 | refine bodyPost_end (results_none rfl _ _ _) rfl ?_
  exact ⟨rfl, ⟨N, ⟨#[]⟩, ⟨#[]⟩, ⟨#[]⟩, ⟨#[]⟩, ⟨#[]⟩, ⟨#[]⟩, [], 0⟩, _, (some r0), HQ0.out, World.ownsRow_nil _ _ _ _, HR0.out, HF0.out, ⟨⟨e_low, e_low, e_low, e_low, e_low, e_low, fun s hs => by cases hs⟩, Nat.zero_le _⟩, ⟨fun h => (by rw [hiK] at h; cases h), fun y hm _ e => (by have h := kind_of hm e; rw [← HM.out] at h; exact absurd (show 0 < M ∧ M < 12 by omega) HHB.out)⟩⟩
end Go.Proofs.YtocpikgcbibcoaaGreatDoor.rc

namespace Go.Proofs.YtocpikgcbibcoaaGreatDoor.rc
open Go.ChangeShapes Go.WideShapes Go.ChangeAt Go.RowKit Go.Proofs.YtocpikgcbibcoaaGreatDoor.common Go.Proofs.YtocpikgcbibcoaaGreatDoor.dk

set_option maxRecDepth 100000 in
set_option maxHeartbeats 25600000 in
theorem walkR_4 (K p q : Nat) (b : UInt8) (r0 : List UInt8) (w : World) (hb : b.toNat = 4) (hr : Rs K p w (some (b :: r0))) (hq : w.heap[q]? = some (.cells zrec 26 (0, 0))) (hT : KTab w) (hG : 7 < K) (hpq : p ≠ q) (hKp : K ≤ p) (hKq : K ≤ q) :
    Calls Tryz.prog 22 #[.pointer (some ⟨q, 0, none⟩), .iface 60 (.pointer (some ⟨p, 0, none⟩))] w (WalkOut K p q (b :: r0) w) := by
  have n_kind := rnil_kind ⟨p, 0, none⟩
  have m_kind := rmet_kind ⟨p, 0, none⟩
  have n_list := rnil_list ⟨p, 0, none⟩
  have m_list := rmet_list ⟨p, 0, none⟩
  have n_number := rnil_number ⟨p, 0, none⟩
  have m_number := rmet_number ⟨p, 0, none⟩
  have n_text := rnil_text ⟨p, 0, none⟩
  have m_text := rmet_text ⟨p, 0, none⟩
  have HPL : Hid (p < w.heap.size ∧ q < w.heap.size) := ⟨hr.lt, (Array.getElem?_eq_some_iff.1 hq).1⟩
  have HTT : Hid (∀ X, Fr [p, q] w X → KTab X) := fun X hX => ktab_fr hT hX (by omega) (by omega)
  have HK := hide (rkind_cons K p q zrec 26 0 b r0 w.drew hr.drew hq rfl hpq hKp hKq)
  have hbi : ((b.toNat : Nat) : Int) = 4 := by rw [hb]; rfl
  rw [hbi] at HK
  have HHB := hide hb
  clear hb hbi
  have hnm : nm (4 : Int) 1 = true := by decide
  have HN : Hid (∀ X, Fr [p, q] w X → Calls Tryz.prog 37 #[.int .i64 4, .int .i64 1] X fun e w' => e = .returned (.bool true) ∧ w' = X) := fun X hX => by
    have h := names_any 4 1 X (HTT.out X hX)
    rw [hnm] at h
    exact h
  clear hr hq hT hnm
  unfold WalkOut
  go_enter Tryz.func22, Tryz.ntmps22
  go_wp2_with fail
  go_region_with (go_at_call 209; refine HK.out.mono ?_; rintro x w0 ⟨rfl, hF0, hR0, hq0⟩)
  have HF0 : Hid (Fr [p, q] w w0) := frN (Fr.refl _ _) hF0
  have HR0 : Hid (Rs K p w0 (some r0)) := hR0
  have HQ0 : Hid (w0.heap[q]? = some (.cells (rcs ⟨4, ⟨#[]⟩, ⟨#[]⟩, ⟨#[]⟩, ⟨#[]⟩, ⟨#[]⟩, ⟨#[]⟩, [], 0⟩ (.slice none 0 0)) 26 (0, 0))) := hq0
  clear HK hF0 hR0 hq0
  have c0 : w0.cell? ⟨q, 0, none⟩ = some (.int .i64 4) := cell_of HQ0.out 0
  have HNN := hide (HN.out w0 HF0.out)
  have HT := hide (rtext_any K p q 1 (rcs ⟨4, ⟨#[]⟩, ⟨#[]⟩, ⟨#[]⟩, ⟨#[]⟩, ⟨#[]⟩, ⟨#[]⟩, [], 0⟩ (.slice none 0 0)) 26 ⟨#[]⟩ (some r0) w0.drew HR0.out.drew HQ0.out rfl hpq hKp hKq)
  go_wp2_with (go_at_call 37; refine HNN.out.mono ?_; rintro x w9 ⟨rfl, h9⟩; obtain rfl := h9.symm)
  go_region_with (go_at_call 211; refine HT.out.mono ?_; rintro x w1 ⟨rfl, y_id, s1, hst, hy, hR, hq, hF⟩)
  have HF1 : Hid (Fr [p, q] w w1) := frN HF0.out hF
  have HR1 := hide hR
  have HQ1 : Hid (w1.heap[q]? = some (.cells (rcs ⟨4, y_id, ⟨#[]⟩, ⟨#[]⟩, ⟨#[]⟩, ⟨#[]⟩, ⟨#[]⟩, [], 0⟩ (.slice none 0 0)) 26 (0, 0))) := hq
  have HS1 := hide hst
  have HY_id := hide hy
  clear HT hst hy hR hq hF c0 HNN
  have c0 : w1.cell? ⟨q, 0, none⟩ = some (.int .i64 4) := cell_of HQ1.out 0
  have HT := hide (rtext_any K p q 4 (rcs ⟨4, y_id, ⟨#[]⟩, ⟨#[]⟩, ⟨#[]⟩, ⟨#[]⟩, ⟨#[]⟩, [], 0⟩ (.slice none 0 0)) 26 ⟨#[]⟩ s1 w1.drew HR1.out.drew HQ1.out rfl hpq hKp hKq)
  go_wp2_with fail
  go_region_with (go_at_call 211; refine HT.out.mono ?_; rintro x w2 ⟨rfl, y_rd, s2, hst, hy, hR, hq, hF⟩)
  have HF2 : Hid (Fr [p, q] w w2) := frN HF1.out hF
  have HR2 := hide hR
  have HQ2 : Hid (w2.heap[q]? = some (.cells (rcs ⟨4, y_id, ⟨#[]⟩, ⟨#[]⟩, y_rd, ⟨#[]⟩, ⟨#[]⟩, [], 0⟩ (.slice none 0 0)) 26 (0, 0))) := hq
  have HS2 := hide hst
  have HY_rd := hide hy
  clear HT hst hy hR hq hF c0
  have c0 : w2.cell? ⟨q, 0, none⟩ = some (.int .i64 4) := cell_of HQ2.out 0
  have HT := hide (rtext_any K p q 5 (rcs ⟨4, y_id, ⟨#[]⟩, ⟨#[]⟩, y_rd, ⟨#[]⟩, ⟨#[]⟩, [], 0⟩ (.slice none 0 0)) 26 ⟨#[]⟩ s2 w2.drew HR2.out.drew HQ2.out rfl hpq hKp hKq)
  go_wp2_with fail
  go_region_with (go_at_call 211; refine HT.out.mono ?_; rintro x w3 ⟨rfl, y_ch, s3, hst, hy, hR, hq, hF⟩)
  have HF3 : Hid (Fr [p, q] w w3) := frN HF2.out hF
  have HR3 := hide hR
  have HQ3 : Hid (w3.heap[q]? = some (.cells (rcs ⟨4, y_id, ⟨#[]⟩, ⟨#[]⟩, y_rd, y_ch, ⟨#[]⟩, [], 0⟩ (.slice none 0 0)) 26 (0, 0))) := hq
  have HS3 := hide hst
  have HY_ch := hide hy
  clear HT hst hy hR hq hF c0
  have c0 : w3.cell? ⟨q, 0, none⟩ = some (.int .i64 4) := cell_of HQ3.out 0
  have HT := hide (rtext_any K p q 3 (rcs ⟨4, y_id, ⟨#[]⟩, ⟨#[]⟩, y_rd, y_ch, ⟨#[]⟩, [], 0⟩ (.slice none 0 0)) 26 ⟨#[]⟩ s3 w3.drew HR3.out.drew HQ3.out rfl hpq hKp hKq)
  go_wp2_with fail
  go_region_with (go_at_call 211; refine HT.out.mono ?_; rintro x w4 ⟨rfl, y_cl, s4, hst, hy, hR, hq, hF⟩)
  have HF4 : Hid (Fr [p, q] w w4) := frN HF3.out hF
  have HR4 := hide hR
  have HQ4 : Hid (w4.heap[q]? = some (.cells (rcs ⟨4, y_id, ⟨#[]⟩, y_cl, y_rd, y_ch, ⟨#[]⟩, [], 0⟩ (.slice none 0 0)) 26 (0, 0))) := hq
  have HS4 := hide hst
  have HY_cl := hide hy
  clear HT hst hy hR hq hF c0
  have c0 : w4.cell? ⟨q, 0, none⟩ = some (.int .i64 4) := cell_of HQ4.out 0
  have HT := hide (rlist_any K p q 7 (rcs ⟨4, y_id, ⟨#[]⟩, y_cl, y_rd, y_ch, ⟨#[]⟩, [], 0⟩ (.slice none 0 0)) 26 s4 w4.drew HR4.out.drew HQ4.out rfl hpq hKp hKq)
  go_wp2_with fail
  go_region_with (go_at_call 210; refine HT.out.mono ?_; rintro x w5 ⟨rfl, y_ss, vv, s5, hst, hy, hR, hq, hO, hF⟩)
  obtain ⟨ol, cl, rfl⟩ := own_slice hO
  have HF5 : Hid (Fr [p, q] w w5) := frN HF4.out hF
  have HO5 : Hid (w5.ownsRow w.heap.size 9 1 (.slice ol y_ss.length cl) y_ss.length (y_ss.map Value.string)) := own_least hO HF4.out.size
  have HR5 := hide hR
  have HQ5 : Hid (w5.heap[q]? = some (.cells (rcs ⟨4, y_id, ⟨#[]⟩, y_cl, y_rd, y_ch, ⟨#[]⟩, y_ss, 0⟩ (.slice ol y_ss.length cl)) 26 (0, 0))) := hq
  have HS5 := hide hst
  have HY_ss := hide hy
  clear HT hst hy hR hq hF c0 hO
  have c0 : w5.cell? ⟨q, 0, none⟩ = some (.int .i64 4) := cell_of HQ5.out 0
  have HT := hide (rtext_any K p q 2 (rcs ⟨4, y_id, ⟨#[]⟩, y_cl, y_rd, y_ch, ⟨#[]⟩, y_ss, 0⟩ (.slice ol y_ss.length cl)) 26 ⟨#[]⟩ s5 w5.drew HR5.out.drew HQ5.out rfl hpq hKp hKq)
  go_wp2_with fail
  go_region_with (go_at_call 211; refine HT.out.mono ?_; rintro x w6 ⟨rfl, y_us, s6, hst, hy, hR, hq, hF⟩)
  have HF6 : Hid (Fr [p, q] w w6) := frN HF5.out hF
  have HO6 := hide (own_pq HO5.out ((frD _ _).trans hF (fun _ hi => Or.inl hi)) HPL.out.1 HPL.out.2)
  have HR6 := hide hR
  have HQ6 : Hid (w6.heap[q]? = some (.cells (rcs ⟨4, y_id, y_us, y_cl, y_rd, y_ch, ⟨#[]⟩, y_ss, 0⟩ (.slice ol y_ss.length cl)) 26 (0, 0))) := hq
  have HS6 := hide hst
  have HY_us := hide hy
  clear HT hst hy hR hq hF c0
  have c0 : w6.cell? ⟨q, 0, none⟩ = some (.int .i64 4) := cell_of HQ6.out 0
  have HT := hide (number_any K p q 8 (rcs ⟨4, y_id, y_us, y_cl, y_rd, y_ch, ⟨#[]⟩, y_ss, 0⟩ (.slice ol y_ss.length cl)) 26 0 s6 w6.drew HR6.out.drew HQ6.out rfl hpq hKp hKq)
  go_wp2_with fail
  go_region_with (go_at_call 23; refine HT.out.mono ?_; rintro x w7 ⟨rfl, y_at, s7, hst, -, hR, hq, hF⟩)
  have HF7 : Hid (Fr [p, q] w w7) := frN HF6.out hF
  have HO7 := hide (own_pq HO6.out ((frD _ _).trans hF (fun _ hi => Or.inl hi)) HPL.out.1 HPL.out.2)
  have HR7 := hide hR
  have HQ7 : Hid (w7.heap[q]? = some (.cells (rcs ⟨4, y_id, y_us, y_cl, y_rd, y_ch, ⟨#[]⟩, y_ss, ((y_at : Nat) : Int)⟩ (.slice ol y_ss.length cl)) 26 (0, 0))) := hq
  have HS7 := hide hst
  clear HT hst hR hq hF c0
  have c0 : w7.cell? ⟨q, 0, none⟩ = some (.int .i64 4) := cell_of HQ7.out 0
  go_wp2_with fail
  first | go_end0 | refine bodyPost_end (results_none rfl _ _ _) rfl ?_
  exact ⟨rfl, ⟨4, y_id, y_us, y_cl, y_rd, y_ch, ⟨#[]⟩, y_ss, ((y_at : Nat) : Int)⟩, _, s7, HQ7.out, HO7.out, HR7.out, HF7.out, ⟨⟨HY_id.out, HY_us.out, HY_cl.out, HY_rd.out, HY_ch.out, e_low, HY_ss.out.2⟩, HY_ss.out.1⟩, fin_4 HHB.out HS1.out HS2.out HS3.out HS4.out HS5.out HS6.out HS7.out⟩
end Go.Proofs.YtocpikgcbibcoaaGreatDoor.rc

namespace Go.Proofs.YtocpikgcbibcoaaGreatDoor.rc
open Go.ChangeShapes Go.WideShapes Go.ChangeAt Go.RowKit Go.Proofs.YtocpikgcbibcoaaGreatDoor.common Go.Proofs.YtocpikgcbibcoaaGreatDoor.dk

set_option maxRecDepth 100000 in
set_option maxHeartbeats 25600000 in
theorem walkR_6 (K p q : Nat) (b : UInt8) (r0 : List UInt8) (w : World) (hb : b.toNat = 6) (hr : Rs K p w (some (b :: r0))) (hq : w.heap[q]? = some (.cells zrec 26 (0, 0))) (hT : KTab w) (hG : 7 < K) (hpq : p ≠ q) (hKp : K ≤ p) (hKq : K ≤ q) :
    Calls Tryz.prog 22 #[.pointer (some ⟨q, 0, none⟩), .iface 60 (.pointer (some ⟨p, 0, none⟩))] w (WalkOut K p q (b :: r0) w) := by
  have n_kind := rnil_kind ⟨p, 0, none⟩
  have m_kind := rmet_kind ⟨p, 0, none⟩
  have n_list := rnil_list ⟨p, 0, none⟩
  have m_list := rmet_list ⟨p, 0, none⟩
  have n_number := rnil_number ⟨p, 0, none⟩
  have m_number := rmet_number ⟨p, 0, none⟩
  have n_text := rnil_text ⟨p, 0, none⟩
  have m_text := rmet_text ⟨p, 0, none⟩
  have HPL : Hid (p < w.heap.size ∧ q < w.heap.size) := ⟨hr.lt, (Array.getElem?_eq_some_iff.1 hq).1⟩
  have HTT : Hid (∀ X, Fr [p, q] w X → KTab X) := fun X hX => ktab_fr hT hX (by omega) (by omega)
  have HK := hide (rkind_cons K p q zrec 26 0 b r0 w.drew hr.drew hq rfl hpq hKp hKq)
  have hbi : ((b.toNat : Nat) : Int) = 6 := by rw [hb]; rfl
  rw [hbi] at HK
  have HHB := hide hb
  clear hb hbi
  have hnm : nm (6 : Int) 1 = true := by decide
  have HN : Hid (∀ X, Fr [p, q] w X → Calls Tryz.prog 37 #[.int .i64 6, .int .i64 1] X fun e w' => e = .returned (.bool true) ∧ w' = X) := fun X hX => by
    have h := names_any 6 1 X (HTT.out X hX)
    rw [hnm] at h
    exact h
  clear hr hq hT hnm
  unfold WalkOut
  go_enter Tryz.func22, Tryz.ntmps22
  go_wp2_with fail
  go_region_with (go_at_call 209; refine HK.out.mono ?_; rintro x w0 ⟨rfl, hF0, hR0, hq0⟩)
  have HF0 : Hid (Fr [p, q] w w0) := frN (Fr.refl _ _) hF0
  have HR0 : Hid (Rs K p w0 (some r0)) := hR0
  have HQ0 : Hid (w0.heap[q]? = some (.cells (rcs ⟨6, ⟨#[]⟩, ⟨#[]⟩, ⟨#[]⟩, ⟨#[]⟩, ⟨#[]⟩, ⟨#[]⟩, [], 0⟩ (.slice none 0 0)) 26 (0, 0))) := hq0
  clear HK hF0 hR0 hq0
  have c0 : w0.cell? ⟨q, 0, none⟩ = some (.int .i64 6) := cell_of HQ0.out 0
  have HNN := hide (HN.out w0 HF0.out)
  have HT := hide (rtext_any K p q 1 (rcs ⟨6, ⟨#[]⟩, ⟨#[]⟩, ⟨#[]⟩, ⟨#[]⟩, ⟨#[]⟩, ⟨#[]⟩, [], 0⟩ (.slice none 0 0)) 26 ⟨#[]⟩ (some r0) w0.drew HR0.out.drew HQ0.out rfl hpq hKp hKq)
  go_wp2_with (go_at_call 37; refine HNN.out.mono ?_; rintro x w9 ⟨rfl, h9⟩; obtain rfl := h9.symm)
  go_region_with (go_at_call 211; refine HT.out.mono ?_; rintro x w1 ⟨rfl, y_id, s1, hst, hy, hR, hq, hF⟩)
  have HF1 : Hid (Fr [p, q] w w1) := frN HF0.out hF
  have HR1 := hide hR
  have HQ1 : Hid (w1.heap[q]? = some (.cells (rcs ⟨6, y_id, ⟨#[]⟩, ⟨#[]⟩, ⟨#[]⟩, ⟨#[]⟩, ⟨#[]⟩, [], 0⟩ (.slice none 0 0)) 26 (0, 0))) := hq
  have HS1 := hide hst
  have HY_id := hide hy
  clear HT hst hy hR hq hF c0 HNN
  have c0 : w1.cell? ⟨q, 0, none⟩ = some (.int .i64 6) := cell_of HQ1.out 0
  have HT := hide (rtext_any K p q 6 (rcs ⟨6, y_id, ⟨#[]⟩, ⟨#[]⟩, ⟨#[]⟩, ⟨#[]⟩, ⟨#[]⟩, [], 0⟩ (.slice none 0 0)) 26 ⟨#[]⟩ s1 w1.drew HR1.out.drew HQ1.out rfl hpq hKp hKq)
  go_wp2_with fail
  go_region_with (go_at_call 211; refine HT.out.mono ?_; rintro x w2 ⟨rfl, y_cd, s2, hst, hy, hR, hq, hF⟩)
  have HF2 : Hid (Fr [p, q] w w2) := frN HF1.out hF
  have HR2 := hide hR
  have HQ2 : Hid (w2.heap[q]? = some (.cells (rcs ⟨6, y_id, ⟨#[]⟩, ⟨#[]⟩, ⟨#[]⟩, ⟨#[]⟩, y_cd, [], 0⟩ (.slice none 0 0)) 26 (0, 0))) := hq
  have HS2 := hide hst
  have HY_cd := hide hy
  clear HT hst hy hR hq hF c0
  have c0 : w2.cell? ⟨q, 0, none⟩ = some (.int .i64 6) := cell_of HQ2.out 0
  have HT := hide (rtext_any K p q 3 (rcs ⟨6, y_id, ⟨#[]⟩, ⟨#[]⟩, ⟨#[]⟩, ⟨#[]⟩, y_cd, [], 0⟩ (.slice none 0 0)) 26 ⟨#[]⟩ s2 w2.drew HR2.out.drew HQ2.out rfl hpq hKp hKq)
  go_wp2_with fail
  go_region_with (go_at_call 211; refine HT.out.mono ?_; rintro x w3 ⟨rfl, y_cl, s3, hst, hy, hR, hq, hF⟩)
  have HF3 : Hid (Fr [p, q] w w3) := frN HF2.out hF
  have HR3 := hide hR
  have HQ3 : Hid (w3.heap[q]? = some (.cells (rcs ⟨6, y_id, ⟨#[]⟩, y_cl, ⟨#[]⟩, ⟨#[]⟩, y_cd, [], 0⟩ (.slice none 0 0)) 26 (0, 0))) := hq
  have HS3 := hide hst
  have HY_cl := hide hy
  clear HT hst hy hR hq hF c0
  have c0 : w3.cell? ⟨q, 0, none⟩ = some (.int .i64 6) := cell_of HQ3.out 0
  have HT := hide (rlist_any K p q 7 (rcs ⟨6, y_id, ⟨#[]⟩, y_cl, ⟨#[]⟩, ⟨#[]⟩, y_cd, [], 0⟩ (.slice none 0 0)) 26 s3 w3.drew HR3.out.drew HQ3.out rfl hpq hKp hKq)
  go_wp2_with fail
  go_region_with (go_at_call 210; refine HT.out.mono ?_; rintro x w4 ⟨rfl, y_ss, vv, s4, hst, hy, hR, hq, hO, hF⟩)
  obtain ⟨ol, cl, rfl⟩ := own_slice hO
  have HF4 : Hid (Fr [p, q] w w4) := frN HF3.out hF
  have HO4 : Hid (w4.ownsRow w.heap.size 9 1 (.slice ol y_ss.length cl) y_ss.length (y_ss.map Value.string)) := own_least hO HF3.out.size
  have HR4 := hide hR
  have HQ4 : Hid (w4.heap[q]? = some (.cells (rcs ⟨6, y_id, ⟨#[]⟩, y_cl, ⟨#[]⟩, ⟨#[]⟩, y_cd, y_ss, 0⟩ (.slice ol y_ss.length cl)) 26 (0, 0))) := hq
  have HS4 := hide hst
  have HY_ss := hide hy
  clear HT hst hy hR hq hF c0 hO
  have c0 : w4.cell? ⟨q, 0, none⟩ = some (.int .i64 6) := cell_of HQ4.out 0
  have HT := hide (rtext_any K p q 2 (rcs ⟨6, y_id, ⟨#[]⟩, y_cl, ⟨#[]⟩, ⟨#[]⟩, y_cd, y_ss, 0⟩ (.slice ol y_ss.length cl)) 26 ⟨#[]⟩ s4 w4.drew HR4.out.drew HQ4.out rfl hpq hKp hKq)
  go_wp2_with fail
  go_region_with (go_at_call 211; refine HT.out.mono ?_; rintro x w5 ⟨rfl, y_us, s5, hst, hy, hR, hq, hF⟩)
  have HF5 : Hid (Fr [p, q] w w5) := frN HF4.out hF
  have HO5 := hide (own_pq HO4.out ((frD _ _).trans hF (fun _ hi => Or.inl hi)) HPL.out.1 HPL.out.2)
  have HR5 := hide hR
  have HQ5 : Hid (w5.heap[q]? = some (.cells (rcs ⟨6, y_id, y_us, y_cl, ⟨#[]⟩, ⟨#[]⟩, y_cd, y_ss, 0⟩ (.slice ol y_ss.length cl)) 26 (0, 0))) := hq
  have HS5 := hide hst
  have HY_us := hide hy
  clear HT hst hy hR hq hF c0
  have c0 : w5.cell? ⟨q, 0, none⟩ = some (.int .i64 6) := cell_of HQ5.out 0
  have HT := hide (number_any K p q 8 (rcs ⟨6, y_id, y_us, y_cl, ⟨#[]⟩, ⟨#[]⟩, y_cd, y_ss, 0⟩ (.slice ol y_ss.length cl)) 26 0 s5 w5.drew HR5.out.drew HQ5.out rfl hpq hKp hKq)
  go_wp2_with fail
  go_region_with (go_at_call 23; refine HT.out.mono ?_; rintro x w6 ⟨rfl, y_at, s6, hst, -, hR, hq, hF⟩)
  have HF6 : Hid (Fr [p, q] w w6) := frN HF5.out hF
  have HO6 := hide (own_pq HO5.out ((frD _ _).trans hF (fun _ hi => Or.inl hi)) HPL.out.1 HPL.out.2)
  have HR6 := hide hR
  have HQ6 : Hid (w6.heap[q]? = some (.cells (rcs ⟨6, y_id, y_us, y_cl, ⟨#[]⟩, ⟨#[]⟩, y_cd, y_ss, ((y_at : Nat) : Int)⟩ (.slice ol y_ss.length cl)) 26 (0, 0))) := hq
  have HS6 := hide hst
  clear HT hst hR hq hF c0
  have c0 : w6.cell? ⟨q, 0, none⟩ = some (.int .i64 6) := cell_of HQ6.out 0
  go_wp2_with fail
  first | go_end0 | refine bodyPost_end (results_none rfl _ _ _) rfl ?_
  exact ⟨rfl, ⟨6, y_id, y_us, y_cl, ⟨#[]⟩, ⟨#[]⟩, y_cd, y_ss, ((y_at : Nat) : Int)⟩, _, s6, HQ6.out, HO6.out, HR6.out, HF6.out, ⟨⟨HY_id.out, HY_us.out, HY_cl.out, e_low, e_low, HY_cd.out, HY_ss.out.2⟩, HY_ss.out.1⟩, fin_6 HHB.out HS1.out HS2.out HS3.out HS4.out HS5.out HS6.out⟩

set_option maxRecDepth 100000 in
set_option maxHeartbeats 25600000 in
theorem walkR_9 (K p q : Nat) (b : UInt8) (r0 : List UInt8) (w : World) (hb : b.toNat = 9) (hr : Rs K p w (some (b :: r0))) (hq : w.heap[q]? = some (.cells zrec 26 (0, 0))) (hT : KTab w) (hG : 7 < K) (hpq : p ≠ q) (hKp : K ≤ p) (hKq : K ≤ q) :
    Calls Tryz.prog 22 #[.pointer (some ⟨q, 0, none⟩), .iface 60 (.pointer (some ⟨p, 0, none⟩))] w (WalkOut K p q (b :: r0) w) := by
  have n_kind := rnil_kind ⟨p, 0, none⟩
  have m_kind := rmet_kind ⟨p, 0, none⟩
  have n_list := rnil_list ⟨p, 0, none⟩
  have m_list := rmet_list ⟨p, 0, none⟩
  have n_number := rnil_number ⟨p, 0, none⟩
  have m_number := rmet_number ⟨p, 0, none⟩
  have n_text := rnil_text ⟨p, 0, none⟩
  have m_text := rmet_text ⟨p, 0, none⟩
  have HPL : Hid (p < w.heap.size ∧ q < w.heap.size) := ⟨hr.lt, (Array.getElem?_eq_some_iff.1 hq).1⟩
  have HTT : Hid (∀ X, Fr [p, q] w X → KTab X) := fun X hX => ktab_fr hT hX (by omega) (by omega)
  have HK := hide (rkind_cons K p q zrec 26 0 b r0 w.drew hr.drew hq rfl hpq hKp hKq)
  have hbi : ((b.toNat : Nat) : Int) = 9 := by rw [hb]; rfl
  rw [hbi] at HK
  have HHB := hide hb
  clear hb hbi
  have hnm : nm (9 : Int) 1 = true := by decide
  have HN : Hid (∀ X, Fr [p, q] w X → Calls Tryz.prog 37 #[.int .i64 9, .int .i64 1] X fun e w' => e = .returned (.bool true) ∧ w' = X) := fun X hX => by
    have h := names_any 9 1 X (HTT.out X hX)
    rw [hnm] at h
    exact h
  clear hr hq hT hnm
  unfold WalkOut
  go_enter Tryz.func22, Tryz.ntmps22
  go_wp2_with fail
  go_region_with (go_at_call 209; refine HK.out.mono ?_; rintro x w0 ⟨rfl, hF0, hR0, hq0⟩)
  have HF0 : Hid (Fr [p, q] w w0) := frN (Fr.refl _ _) hF0
  have HR0 : Hid (Rs K p w0 (some r0)) := hR0
  have HQ0 : Hid (w0.heap[q]? = some (.cells (rcs ⟨9, ⟨#[]⟩, ⟨#[]⟩, ⟨#[]⟩, ⟨#[]⟩, ⟨#[]⟩, ⟨#[]⟩, [], 0⟩ (.slice none 0 0)) 26 (0, 0))) := hq0
  clear HK hF0 hR0 hq0
  have c0 : w0.cell? ⟨q, 0, none⟩ = some (.int .i64 9) := cell_of HQ0.out 0
  have HNN := hide (HN.out w0 HF0.out)
  have HT := hide (rtext_any K p q 1 (rcs ⟨9, ⟨#[]⟩, ⟨#[]⟩, ⟨#[]⟩, ⟨#[]⟩, ⟨#[]⟩, ⟨#[]⟩, [], 0⟩ (.slice none 0 0)) 26 ⟨#[]⟩ (some r0) w0.drew HR0.out.drew HQ0.out rfl hpq hKp hKq)
  go_wp2_with (go_at_call 37; refine HNN.out.mono ?_; rintro x w9 ⟨rfl, h9⟩; obtain rfl := h9.symm)
  go_region_with (go_at_call 211; refine HT.out.mono ?_; rintro x w1 ⟨rfl, y_id, s1, hst, hy, hR, hq, hF⟩)
  have HF1 : Hid (Fr [p, q] w w1) := frN HF0.out hF
  have HR1 := hide hR
  have HQ1 : Hid (w1.heap[q]? = some (.cells (rcs ⟨9, y_id, ⟨#[]⟩, ⟨#[]⟩, ⟨#[]⟩, ⟨#[]⟩, ⟨#[]⟩, [], 0⟩ (.slice none 0 0)) 26 (0, 0))) := hq
  have HS1 := hide hst
  have HY_id := hide hy
  clear HT hst hy hR hq hF c0 HNN
  have c0 : w1.cell? ⟨q, 0, none⟩ = some (.int .i64 9) := cell_of HQ1.out 0
  have HT := hide (rtext_any K p q 6 (rcs ⟨9, y_id, ⟨#[]⟩, ⟨#[]⟩, ⟨#[]⟩, ⟨#[]⟩, ⟨#[]⟩, [], 0⟩ (.slice none 0 0)) 26 ⟨#[]⟩ s1 w1.drew HR1.out.drew HQ1.out rfl hpq hKp hKq)
  go_wp2_with fail
  go_region_with (go_at_call 211; refine HT.out.mono ?_; rintro x w2 ⟨rfl, y_cd, s2, hst, hy, hR, hq, hF⟩)
  have HF2 : Hid (Fr [p, q] w w2) := frN HF1.out hF
  have HR2 := hide hR
  have HQ2 : Hid (w2.heap[q]? = some (.cells (rcs ⟨9, y_id, ⟨#[]⟩, ⟨#[]⟩, ⟨#[]⟩, ⟨#[]⟩, y_cd, [], 0⟩ (.slice none 0 0)) 26 (0, 0))) := hq
  have HS2 := hide hst
  have HY_cd := hide hy
  clear HT hst hy hR hq hF c0
  have c0 : w2.cell? ⟨q, 0, none⟩ = some (.int .i64 9) := cell_of HQ2.out 0
  have HT := hide (rtext_any K p q 3 (rcs ⟨9, y_id, ⟨#[]⟩, ⟨#[]⟩, ⟨#[]⟩, ⟨#[]⟩, y_cd, [], 0⟩ (.slice none 0 0)) 26 ⟨#[]⟩ s2 w2.drew HR2.out.drew HQ2.out rfl hpq hKp hKq)
  go_wp2_with fail
  go_region_with (go_at_call 211; refine HT.out.mono ?_; rintro x w3 ⟨rfl, y_cl, s3, hst, hy, hR, hq, hF⟩)
  have HF3 : Hid (Fr [p, q] w w3) := frN HF2.out hF
  have HR3 := hide hR
  have HQ3 : Hid (w3.heap[q]? = some (.cells (rcs ⟨9, y_id, ⟨#[]⟩, y_cl, ⟨#[]⟩, ⟨#[]⟩, y_cd, [], 0⟩ (.slice none 0 0)) 26 (0, 0))) := hq
  have HS3 := hide hst
  have HY_cl := hide hy
  clear HT hst hy hR hq hF c0
  have c0 : w3.cell? ⟨q, 0, none⟩ = some (.int .i64 9) := cell_of HQ3.out 0
  have HT := hide (rlist_any K p q 7 (rcs ⟨9, y_id, ⟨#[]⟩, y_cl, ⟨#[]⟩, ⟨#[]⟩, y_cd, [], 0⟩ (.slice none 0 0)) 26 s3 w3.drew HR3.out.drew HQ3.out rfl hpq hKp hKq)
  go_wp2_with fail
  go_region_with (go_at_call 210; refine HT.out.mono ?_; rintro x w4 ⟨rfl, y_ss, vv, s4, hst, hy, hR, hq, hO, hF⟩)
  obtain ⟨ol, cl, rfl⟩ := own_slice hO
  have HF4 : Hid (Fr [p, q] w w4) := frN HF3.out hF
  have HO4 : Hid (w4.ownsRow w.heap.size 9 1 (.slice ol y_ss.length cl) y_ss.length (y_ss.map Value.string)) := own_least hO HF3.out.size
  have HR4 := hide hR
  have HQ4 : Hid (w4.heap[q]? = some (.cells (rcs ⟨9, y_id, ⟨#[]⟩, y_cl, ⟨#[]⟩, ⟨#[]⟩, y_cd, y_ss, 0⟩ (.slice ol y_ss.length cl)) 26 (0, 0))) := hq
  have HS4 := hide hst
  have HY_ss := hide hy
  clear HT hst hy hR hq hF c0 hO
  have c0 : w4.cell? ⟨q, 0, none⟩ = some (.int .i64 9) := cell_of HQ4.out 0
  have HT := hide (rtext_any K p q 2 (rcs ⟨9, y_id, ⟨#[]⟩, y_cl, ⟨#[]⟩, ⟨#[]⟩, y_cd, y_ss, 0⟩ (.slice ol y_ss.length cl)) 26 ⟨#[]⟩ s4 w4.drew HR4.out.drew HQ4.out rfl hpq hKp hKq)
  go_wp2_with fail
  go_region_with (go_at_call 211; refine HT.out.mono ?_; rintro x w5 ⟨rfl, y_us, s5, hst, hy, hR, hq, hF⟩)
  have HF5 : Hid (Fr [p, q] w w5) := frN HF4.out hF
  have HO5 := hide (own_pq HO4.out ((frD _ _).trans hF (fun _ hi => Or.inl hi)) HPL.out.1 HPL.out.2)
  have HR5 := hide hR
  have HQ5 : Hid (w5.heap[q]? = some (.cells (rcs ⟨9, y_id, y_us, y_cl, ⟨#[]⟩, ⟨#[]⟩, y_cd, y_ss, 0⟩ (.slice ol y_ss.length cl)) 26 (0, 0))) := hq
  have HS5 := hide hst
  have HY_us := hide hy
  clear HT hst hy hR hq hF c0
  have c0 : w5.cell? ⟨q, 0, none⟩ = some (.int .i64 9) := cell_of HQ5.out 0
  have HT := hide (number_any K p q 8 (rcs ⟨9, y_id, y_us, y_cl, ⟨#[]⟩, ⟨#[]⟩, y_cd, y_ss, 0⟩ (.slice ol y_ss.length cl)) 26 0 s5 w5.drew HR5.out.drew HQ5.out rfl hpq hKp hKq)
  go_wp2_with fail
  go_region_with (go_at_call 23; refine HT.out.mono ?_; rintro x w6 ⟨rfl, y_at, s6, hst, -, hR, hq, hF⟩)
  have HF6 : Hid (Fr [p, q] w w6) := frN HF5.out hF
  have HO6 := hide (own_pq HO5.out ((frD _ _).trans hF (fun _ hi => Or.inl hi)) HPL.out.1 HPL.out.2)
  have HR6 := hide hR
  have HQ6 : Hid (w6.heap[q]? = some (.cells (rcs ⟨9, y_id, y_us, y_cl, ⟨#[]⟩, ⟨#[]⟩, y_cd, y_ss, ((y_at : Nat) : Int)⟩ (.slice ol y_ss.length cl)) 26 (0, 0))) := hq
  have HS6 := hide hst
  clear HT hst hR hq hF c0
  have c0 : w6.cell? ⟨q, 0, none⟩ = some (.int .i64 9) := cell_of HQ6.out 0
  go_wp2_with fail
  first | go_end0 | refine bodyPost_end (results_none rfl _ _ _) rfl ?_
  exact ⟨rfl, ⟨9, y_id, y_us, y_cl, ⟨#[]⟩, ⟨#[]⟩, y_cd, y_ss, ((y_at : Nat) : Int)⟩, _, s6, HQ6.out, HO6.out, HR6.out, HF6.out, ⟨⟨HY_id.out, HY_us.out, HY_cl.out, e_low, e_low, HY_cd.out, HY_ss.out.2⟩, HY_ss.out.1⟩, fin_9 HHB.out HS1.out HS2.out HS3.out HS4.out HS5.out HS6.out⟩
end Go.Proofs.YtocpikgcbibcoaaGreatDoor.rc
