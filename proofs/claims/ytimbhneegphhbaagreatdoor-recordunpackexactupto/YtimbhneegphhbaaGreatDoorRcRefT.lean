import Derived.Test.YtimbhneegphhbaaGreatDoorRcWqA
import Derived.Test.YtimbhneegphhbaaGreatDoorRcNum
import Derived.Test.YtimbhneegphhbaaGreatDoorRcRdM
import Derived.Test.YtimbhneegphhbaaGreatDoorRcLent
import Derived.Deep.DeepAppendWide
import Derived.Deep.AppendLies
import Derived.Deep.RegionLawGrows
import Derived.Test.YtimbhneegphhbaaGreatDoorRedLaid
import Derived.Deep.DeepCutAuto
namespace Go.Proofs.YtimbhneegphhbaaGreatDoor.rc
open Go.ChangeShapes Go.WideShapes Go.ChangeAt Go.RowKit Go.Proofs.YtimbhneegphhbaaGreatDoor.common Go.Proofs.YtimbhneegphhbaaGreatDoor.dk

set_option maxRecDepth 100000 in
set_option maxHeartbeats 25600000 in
theorem walkR_4 (K p q : Nat) (b : UInt8) (r0 : List UInt8) (w : World) (hb : b.toNat = 4) (hr : Rs K p w (some (b :: r0))) (hq : w.heap[q]? = some (.cells zrec 26 (0, 0))) (hT : KTab w) (hG : 21 < K) (hpq : p ≠ q) (hKp : K ≤ p) (hKq : K ≤ q) :
    Calls Tryz.prog 25 #[.pointer (some ⟨q, 0, none⟩), .iface 58 (.pointer (some ⟨p, 0, none⟩))] w (WalkOut K p q (b :: r0) w) := by
  have n_kind := rnil_kind ⟨p, 0, none⟩
  have m_kind := rmet_kind ⟨p, 0, none⟩
  have n_list := rnil_list ⟨p, 0, none⟩
  have m_list := rmet_list ⟨p, 0, none⟩
  have n_number := rnil_number ⟨p, 0, none⟩
  have m_number := rmet_number ⟨p, 0, none⟩
  have n_text := rnil_text ⟨p, 0, none⟩
  have m_text := rmet_text ⟨p, 0, none⟩
  have HPL : Hid (p < w.heap.size ∧ q < w.heap.size) := ⟨hr.lt, (Array.getElem?_eq_some_iff.1 hq).1⟩
  have HTT : Hid (∀ X, Fr [p, q] w X → KTab X) := fun X hX => ktab_fr hT hX (by omega) (by omega)
  have HK := hide (rkind_cons K p q zrec 26 0 b r0 w.drew hr.drew hq rfl hpq hKp hKq)
  have hbi : ((b.toNat : Nat) : Int) = 4 := by rw [hb]; rfl
  rw [hbi] at HK
  have HHB := hide hb
  clear hb hbi
  have hnm : nm (4 : Int) 1 = true := by decide
  have HN : Hid (∀ X, Fr [p, q] w X → Calls Tryz.prog 37 #[.int .i64 4, .int .i64 1] X fun e w' => e = .returned (.bool true) ∧ w' = X) := fun X hX => by
    have h := names_any 4 1 X (HTT.out X hX)
    rw [hnm] at h
    exact h
  clear hr hq hT hnm
  unfold WalkOut
  go_enter Tryz.func25, Tryz.ntmps25
  go_wp2_with fail
  go_region_with (go_at_call 222; refine HK.out.mono ?_; rintro x w0 ⟨rfl, hF0, hR0, hq0⟩)
  have HF0 : Hid (Fr [p, q] w w0) := frN (Fr.refl _ _) hF0
  have HR0 : Hid (Rs K p w0 (some r0)) := hR0
  have HQ0 : Hid (w0.heap[q]? = some (.cells (rcs ⟨4, ⟨#[]⟩, ⟨#[]⟩, ⟨#[]⟩, ⟨#[]⟩, ⟨#[]⟩, ⟨#[]⟩, [], 0⟩ (.slice none 0 0)) 26 (0, 0))) := hq0
  clear HK hF0 hR0 hq0
  have c0 : w0.cell? ⟨q, 0, none⟩ = some (.int .i64 4) := cell_of HQ0.out 0
  have HNN := hide (HN.out w0 HF0.out)
  have HT := hide (rtext_any K p q 1 (rcs ⟨4, ⟨#[]⟩, ⟨#[]⟩, ⟨#[]⟩, ⟨#[]⟩, ⟨#[]⟩, ⟨#[]⟩, [], 0⟩ (.slice none 0 0)) 26 ⟨#[]⟩ (some r0) w0.drew HR0.out.drew HQ0.out rfl hpq hKp hKq)
  go_wp2_with (go_at_call 37; refine HNN.out.mono ?_; rintro x w9 ⟨rfl, h9⟩; obtain rfl := h9.symm)
  go_region_with (go_at_call 224; refine HT.out.mono ?_; rintro x w1 ⟨rfl, y_id, s1, hst, hy, hR, hq, hF⟩)
  have HF1 : Hid (Fr [p, q] w w1) := frN HF0.out hF
  have HR1 := hide hR
  have HQ1 : Hid (w1.heap[q]? = some (.cells (rcs ⟨4, y_id, ⟨#[]⟩, ⟨#[]⟩, ⟨#[]⟩, ⟨#[]⟩, ⟨#[]⟩, [], 0⟩ (.slice none 0 0)) 26 (0, 0))) := hq
  have HS1 := hide hst
  have HY_id := hide hy
  clear HT hst hy hR hq hF c0 HNN
  have c0 : w1.cell? ⟨q, 0, none⟩ = some (.int .i64 4) := cell_of HQ1.out 0
  have HT := hide (rtext_any K p q 4 (rcs ⟨4, y_id, ⟨#[]⟩, ⟨#[]⟩, ⟨#[]⟩, ⟨#[]⟩, ⟨#[]⟩, [], 0⟩ (.slice none 0 0)) 26 ⟨#[]⟩ s1 w1.drew HR1.out.drew HQ1.out rfl hpq hKp hKq)
  go_wp2_with fail
  go_region_with (go_at_call 224; refine HT.out.mono ?_; rintro x w2 ⟨rfl, y_rd, s2, hst, hy, hR, hq, hF⟩)
  have HF2 : Hid (Fr [p, q] w w2) := frN HF1.out hF
  have HR2 := hide hR
  have HQ2 : Hid (w2.heap[q]? = some (.cells (rcs ⟨4, y_id, ⟨#[]⟩, ⟨#[]⟩, y_rd, ⟨#[]⟩, ⟨#[]⟩, [], 0⟩ (.slice none 0 0)) 26 (0, 0))) := hq
  have HS2 := hide hst
  have HY_rd := hide hy
  clear HT hst hy hR hq hF c0
  have c0 : w2.cell? ⟨q, 0, none⟩ = some (.int .i64 4) := cell_of HQ2.out 0
  have HT := hide (rtext_any K p q 5 (rcs ⟨4, y_id, ⟨#[]⟩, ⟨#[]⟩, y_rd, ⟨#[]⟩, ⟨#[]⟩, [], 0⟩ (.slice none 0 0)) 26 ⟨#[]⟩ s2 w2.drew HR2.out.drew HQ2.out rfl hpq hKp hKq)
  go_wp2_with fail
  go_region_with (go_at_call 224; refine HT.out.mono ?_; rintro x w3 ⟨rfl, y_ch, s3, hst, hy, hR, hq, hF⟩)
  have HF3 : Hid (Fr [p, q] w w3) := frN HF2.out hF
  have HR3 := hide hR
  have HQ3 : Hid (w3.heap[q]? = some (.cells (rcs ⟨4, y_id, ⟨#[]⟩, ⟨#[]⟩, y_rd, y_ch, ⟨#[]⟩, [], 0⟩ (.slice none 0 0)) 26 (0, 0))) := hq
  have HS3 := hide hst
  have HY_ch := hide hy
  clear HT hst hy hR hq hF c0
  have c0 : w3.cell? ⟨q, 0, none⟩ = some (.int .i64 4) := cell_of HQ3.out 0
  have HT := hide (rtext_any K p q 3 (rcs ⟨4, y_id, ⟨#[]⟩, ⟨#[]⟩, y_rd, y_ch, ⟨#[]⟩, [], 0⟩ (.slice none 0 0)) 26 ⟨#[]⟩ s3 w3.drew HR3.out.drew HQ3.out rfl hpq hKp hKq)
  go_wp2_with fail
  go_region_with (go_at_call 224; refine HT.out.mono ?_; rintro x w4 ⟨rfl, y_cl, s4, hst, hy, hR, hq, hF⟩)
  have HF4 : Hid (Fr [p, q] w w4) := frN HF3.out hF
  have HR4 := hide hR
  have HQ4 : Hid (w4.heap[q]? = some (.cells (rcs ⟨4, y_id, ⟨#[]⟩, y_cl, y_rd, y_ch, ⟨#[]⟩, [], 0⟩ (.slice none 0 0)) 26 (0, 0))) := hq
  have HS4 := hide hst
  have HY_cl := hide hy
  clear HT hst hy hR hq hF c0
  have c0 : w4.cell? ⟨q, 0, none⟩ = some (.int .i64 4) := cell_of HQ4.out 0
  have HT := hide (rlist_any K p q 7 (rcs ⟨4, y_id, ⟨#[]⟩, y_cl, y_rd, y_ch, ⟨#[]⟩, [], 0⟩ (.slice none 0 0)) 26 s4 w4.drew HR4.out.drew HQ4.out rfl hpq hKp hKq)
  go_wp2_with fail
  go_region_with (go_at_call 223; refine HT.out.mono ?_; rintro x w5 ⟨rfl, y_ss, vv, s5, hst, hy, hR, hq, hO, hF⟩)
  obtain ⟨ol, cl, rfl⟩ := own_slice hO
  have HF5 : Hid (Fr [p, q] w w5) := frN HF4.out hF
  have HO5 : Hid (w5.ownsRow w.heap.size 9 1 (.slice ol y_ss.length cl) y_ss.length (y_ss.map Value.string)) := own_least hO HF4.out.size
  have HR5 := hide hR
  have HQ5 : Hid (w5.heap[q]? = some (.cells (rcs ⟨4, y_id, ⟨#[]⟩, y_cl, y_rd, y_ch, ⟨#[]⟩, y_ss, 0⟩ (.slice ol y_ss.length cl)) 26 (0, 0))) := hq
  have HS5 := hide hst
  have HY_ss := hide hy
  clear HT hst hy hR hq hF c0 hO
  have c0 : w5.cell? ⟨q, 0, none⟩ = some (.int .i64 4) := cell_of HQ5.out 0
  have HT := hide (rtext_any K p q 2 (rcs ⟨4, y_id, ⟨#[]⟩, y_cl, y_rd, y_ch, ⟨#[]⟩, y_ss, 0⟩ (.slice ol y_ss.length cl)) 26 ⟨#[]⟩ s5 w5.drew HR5.out.drew HQ5.out rfl hpq hKp hKq)
  go_wp2_with fail
  go_region_with (go_at_call 224; refine HT.out.mono ?_; rintro x w6 ⟨rfl, y_us, s6, hst, hy, hR, hq, hF⟩)
  have HF6 : Hid (Fr [p, q] w w6) := frN HF5.out hF
  have HO6 := hide (own_pq HO5.out ((frD _ _).trans hF (fun _ hi => Or.inl hi)) HPL.out.1 HPL.out.2)
  have HR6 := hide hR
  have HQ6 : Hid (w6.heap[q]? = some (.cells (rcs ⟨4, y_id, y_us, y_cl, y_rd, y_ch, ⟨#[]⟩, y_ss, 0⟩ (.slice ol y_ss.length cl)) 26 (0, 0))) := hq
  have HS6 := hide hst
  have HY_us := hide hy
  clear HT hst hy hR hq hF c0
  have c0 : w6.cell? ⟨q, 0, none⟩ = some (.int .i64 4) := cell_of HQ6.out 0
  have HT := hide (number_any K p q 8 (rcs ⟨4, y_id, y_us, y_cl, y_rd, y_ch, ⟨#[]⟩, y_ss, 0⟩ (.slice ol y_ss.length cl)) 26 0 s6 w6.drew HR6.out.drew HQ6.out rfl hpq hKp hKq)
  go_wp2_with fail
  go_region_with (go_at_call 30; refine HT.out.mono ?_; rintro x w7 ⟨rfl, y_at, s7, hst, -, hR, hq, hF⟩)
  have HF7 : Hid (Fr [p, q] w w7) := frN HF6.out hF
  have HO7 := hide (own_pq HO6.out ((frD _ _).trans hF (fun _ hi => Or.inl hi)) HPL.out.1 HPL.out.2)
  have HR7 := hide hR
  have HQ7 : Hid (w7.heap[q]? = some (.cells (rcs ⟨4, y_id, y_us, y_cl, y_rd, y_ch, ⟨#[]⟩, y_ss, ((y_at : Nat) : Int)⟩ (.slice ol y_ss.length cl)) 26 (0, 0))) := hq
  have HS7 := hide hst
  clear HT hst hR hq hF c0
  have c0 : w7.cell? ⟨q, 0, none⟩ = some (.int .i64 4) := cell_of HQ7.out 0
  go_wp2_with fail
  first | go_end0 | refine bodyPost_end (results_none rfl _ _ _) rfl ?_
  exact ⟨rfl, ⟨4, y_id, y_us, y_cl, y_rd, y_ch, ⟨#[]⟩, y_ss, ((y_at : Nat) : Int)⟩, _, s7, HQ7.out, HO7.out, HR7.out, HF7.out, ⟨⟨HY_id.out, HY_us.out, HY_cl.out, HY_rd.out, HY_ch.out, e_low, HY_ss.out.2⟩, HY_ss.out.1⟩, fin_4 HHB.out HS1.out HS2.out HS3.out HS4.out HS5.out HS6.out HS7.out⟩
end Go.Proofs.YtimbhneegphhbaaGreatDoor.rc

namespace Go.Proofs.YtimbhneegphhbaaGreatDoor.rc
open Go.ChangeShapes Go.WideShapes Go.ChangeAt Go.RowKit Go.Proofs.YtimbhneegphhbaaGreatDoor.common Go.Proofs.YtimbhneegphhbaaGreatDoor.dk

set_option maxRecDepth 100000 in
set_option maxHeartbeats 25600000 in
theorem walkR_6 (K p q : Nat) (b : UInt8) (r0 : List UInt8) (w : World) (hb : b.toNat = 6) (hr : Rs K p w (some (b :: r0))) (hq : w.heap[q]? = some (.cells zrec 26 (0, 0))) (hT : KTab w) (hG : 21 < K) (hpq : p ≠ q) (hKp : K ≤ p) (hKq : K ≤ q) :
    Calls Tryz.prog 25 #[.pointer (some ⟨q, 0, none⟩), .iface 58 (.pointer (some ⟨p, 0, none⟩))] w (WalkOut K p q (b :: r0) w) := by
  have n_kind := rnil_kind ⟨p, 0, none⟩
  have m_kind := rmet_kind ⟨p, 0, none⟩
  have n_list := rnil_list ⟨p, 0, none⟩
  have m_list := rmet_list ⟨p, 0, none⟩
  have n_number := rnil_number ⟨p, 0, none⟩
  have m_number := rmet_number ⟨p, 0, none⟩
  have n_text := rnil_text ⟨p, 0, none⟩
  have m_text := rmet_text ⟨p, 0, none⟩
  have HPL : Hid (p < w.heap.size ∧ q < w.heap.size) := ⟨hr.lt, (Array.getElem?_eq_some_iff.1 hq).1⟩
  have HTT : Hid (∀ X, Fr [p, q] w X → KTab X) := fun X hX => ktab_fr hT hX (by omega) (by omega)
  have HK := hide (rkind_cons K p q zrec 26 0 b r0 w.drew hr.drew hq rfl hpq hKp hKq)
  have hbi : ((b.toNat : Nat) : Int) = 6 := by rw [hb]; rfl
  rw [hbi] at HK
  have HHB := hide hb
  clear hb hbi
  have hnm : nm (6 : Int) 1 = true := by decide
  have HN : Hid (∀ X, Fr [p, q] w X → Calls Tryz.prog 37 #[.int .i64 6, .int .i64 1] X fun e w' => e = .returned (.bool true) ∧ w' = X) := fun X hX => by
    have h := names_any 6 1 X (HTT.out X hX)
    rw [hnm] at h
    exact h
  clear hr hq hT hnm
  unfold WalkOut
  go_enter Tryz.func25, Tryz.ntmps25
  go_wp2_with fail
  go_region_with (go_at_call 222; refine HK.out.mono ?_; rintro x w0 ⟨rfl, hF0, hR0, hq0⟩)
  have HF0 : Hid (Fr [p, q] w w0) := frN (Fr.refl _ _) hF0
  have HR0 : Hid (Rs K p w0 (some r0)) := hR0
  have HQ0 : Hid (w0.heap[q]? = some (.cells (rcs ⟨6, ⟨#[]⟩, ⟨#[]⟩, ⟨#[]⟩, ⟨#[]⟩, ⟨#[]⟩, ⟨#[]⟩, [], 0⟩ (.slice none 0 0)) 26 (0, 0))) := hq0
  clear HK hF0 hR0 hq0
  have c0 : w0.cell? ⟨q, 0, none⟩ = some (.int .i64 6) := cell_of HQ0.out 0
  have HNN := hide (HN.out w0 HF0.out)
  have HT := hide (rtext_any K p q 1 (rcs ⟨6, ⟨#[]⟩, ⟨#[]⟩, ⟨#[]⟩, ⟨#[]⟩, ⟨#[]⟩, ⟨#[]⟩, [], 0⟩ (.slice none 0 0)) 26 ⟨#[]⟩ (some r0) w0.drew HR0.out.drew HQ0.out rfl hpq hKp hKq)
  go_wp2_with (go_at_call 37; refine HNN.out.mono ?_; rintro x w9 ⟨rfl, h9⟩; obtain rfl := h9.symm)
  go_region_with (go_at_call 224; refine HT.out.mono ?_; rintro x w1 ⟨rfl, y_id, s1, hst, hy, hR, hq, hF⟩)
  have HF1 : Hid (Fr [p, q] w w1) := frN HF0.out hF
  have HR1 := hide hR
  have HQ1 : Hid (w1.heap[q]? = some (.cells (rcs ⟨6, y_id, ⟨#[]⟩, ⟨#[]⟩, ⟨#[]⟩, ⟨#[]⟩, ⟨#[]⟩, [], 0⟩ (.slice none 0 0)) 26 (0, 0))) := hq
  have HS1 := hide hst
  have HY_id := hide hy
  clear HT hst hy hR hq hF c0 HNN
  have c0 : w1.cell? ⟨q, 0, none⟩ = some (.int .i64 6) := cell_of HQ1.out 0
  have HT := hide (rtext_any K p q 6 (rcs ⟨6, y_id, ⟨#[]⟩, ⟨#[]⟩, ⟨#[]⟩, ⟨#[]⟩, ⟨#[]⟩, [], 0⟩ (.slice none 0 0)) 26 ⟨#[]⟩ s1 w1.drew HR1.out.drew HQ1.out rfl hpq hKp hKq)
  go_wp2_with fail
  go_region_with (go_at_call 224; refine HT.out.mono ?_; rintro x w2 ⟨rfl, y_cd, s2, hst, hy, hR, hq, hF⟩)
  have HF2 : Hid (Fr [p, q] w w2) := frN HF1.out hF
  have HR2 := hide hR
  have HQ2 : Hid (w2.heap[q]? = some (.cells (rcs ⟨6, y_id, ⟨#[]⟩, ⟨#[]⟩, ⟨#[]⟩, ⟨#[]⟩, y_cd, [], 0⟩ (.slice none 0 0)) 26 (0, 0))) := hq
  have HS2 := hide hst
  have HY_cd := hide hy
  clear HT hst hy hR hq hF c0
  have c0 : w2.cell? ⟨q, 0, none⟩ = some (.int .i64 6) := cell_of HQ2.out 0
  have HT := hide (rtext_any K p q 3 (rcs ⟨6, y_id, ⟨#[]⟩, ⟨#[]⟩, ⟨#[]⟩, ⟨#[]⟩, y_cd, [], 0⟩ (.slice none 0 0)) 26 ⟨#[]⟩ s2 w2.drew HR2.out.drew HQ2.out rfl hpq hKp hKq)
  go_wp2_with fail
  go_region_with (go_at_call 224; refine HT.out.mono ?_; rintro x w3 ⟨rfl, y_cl, s3, hst, hy, hR, hq, hF⟩)
  have HF3 : Hid (Fr [p, q] w w3) := frN HF2.out hF
  have HR3 := hide hR
  have HQ3 : Hid (w3.heap[q]? = some (.cells (rcs ⟨6, y_id, ⟨#[]⟩, y_cl, ⟨#[]⟩, ⟨#[]⟩, y_cd, [], 0⟩ (.slice none 0 0)) 26 (0, 0))) := hq
  have HS3 := hide hst
  have HY_cl := hide hy
  clear HT hst hy hR hq hF c0
  have c0 : w3.cell? ⟨q, 0, none⟩ = some (.int .i64 6) := cell_of HQ3.out 0
  have HT := hide (rlist_any K p q 7 (rcs ⟨6, y_id, ⟨#[]⟩, y_cl, ⟨#[]⟩, ⟨#[]⟩, y_cd, [], 0⟩ (.slice none 0 0)) 26 s3 w3.drew HR3.out.drew HQ3.out rfl hpq hKp hKq)
  go_wp2_with fail
  go_region_with (go_at_call 223; refine HT.out.mono ?_; rintro x w4 ⟨rfl, y_ss, vv, s4, hst, hy, hR, hq, hO, hF⟩)
  obtain ⟨ol, cl, rfl⟩ := own_slice hO
  have HF4 : Hid (Fr [p, q] w w4) := frN HF3.out hF
  have HO4 : Hid (w4.ownsRow w.heap.size 9 1 (.slice ol y_ss.length cl) y_ss.length (y_ss.map Value.string)) := own_least hO HF3.out.size
  have HR4 := hide hR
  have HQ4 : Hid (w4.heap[q]? = some (.cells (rcs ⟨6, y_id, ⟨#[]⟩, y_cl, ⟨#[]⟩, ⟨#[]⟩, y_cd, y_ss, 0⟩ (.slice ol y_ss.length cl)) 26 (0, 0))) := hq
  have HS4 := hide hst
  have HY_ss := hide hy
  clear HT hst hy hR hq hF c0 hO
  have c0 : w4.cell? ⟨q, 0, none⟩ = some (.int .i64 6) := cell_of HQ4.out 0
  have HT := hide (rtext_any K p q 2 (rcs ⟨6, y_id, ⟨#[]⟩, y_cl, ⟨#[]⟩, ⟨#[]⟩, y_cd, y_ss, 0⟩ (.slice ol y_ss.length cl)) 26 ⟨#[]⟩ s4 w4.drew HR4.out.drew HQ4.out rfl hpq hKp hKq)
  go_wp2_with fail
  go_region_with (go_at_call 224; refine HT.out.mono ?_; rintro x w5 ⟨rfl, y_us, s5, hst, hy, hR, hq, hF⟩)
  have HF5 : Hid (Fr [p, q] w w5) := frN HF4.out hF
  have HO5 := hide (own_pq HO4.out ((frD _ _).trans hF (fun _ hi => Or.inl hi)) HPL.out.1 HPL.out.2)
  have HR5 := hide hR
  have HQ5 : Hid (w5.heap[q]? = some (.cells (rcs ⟨6, y_id, y_us, y_cl, ⟨#[]⟩, ⟨#[]⟩, y_cd, y_ss, 0⟩ (.slice ol y_ss.length cl)) 26 (0, 0))) := hq
  have HS5 := hide hst
  have HY_us := hide hy
  clear HT hst hy hR hq hF c0
  have c0 : w5.cell? ⟨q, 0, none⟩ = some (.int .i64 6) := cell_of HQ5.out 0
  have HT := hide (number_any K p q 8 (rcs ⟨6, y_id, y_us, y_cl, ⟨#[]⟩, ⟨#[]⟩, y_cd, y_ss, 0⟩ (.slice ol y_ss.length cl)) 26 0 s5 w5.drew HR5.out.drew HQ5.out rfl hpq hKp hKq)
  go_wp2_with fail
  go_region_with (go_at_call 30; refine HT.out.mono ?_; rintro x w6 ⟨rfl, y_at, s6, hst, -, hR, hq, hF⟩)
  have HF6 : Hid (Fr [p, q] w w6) := frN HF5.out hF
  have HO6 := hide (own_pq HO5.out ((frD _ _).trans hF (fun _ hi => Or.inl hi)) HPL.out.1 HPL.out.2)
  have HR6 := hide hR
  have HQ6 : Hid (w6.heap[q]? = some (.cells (rcs ⟨6, y_id, y_us, y_cl, ⟨#[]⟩, ⟨#[]⟩, y_cd, y_ss, ((y_at : Nat) : Int)⟩ (.slice ol y_ss.length cl)) 26 (0, 0))) := hq
  have HS6 := hide hst
  clear HT hst hR hq hF c0
  have c0 : w6.cell? ⟨q, 0, none⟩ = some (.int .i64 6) := cell_of HQ6.out 0
  go_wp2_with fail
  first | go_end0 | refine bodyPost_end (results_none rfl _ _ _) rfl ?_
  exact ⟨rfl, ⟨6, y_id, y_us, y_cl, ⟨#[]⟩, ⟨#[]⟩, y_cd, y_ss, ((y_at : Nat) : Int)⟩, _, s6, HQ6.out, HO6.out, HR6.out, HF6.out, ⟨⟨HY_id.out, HY_us.out, HY_cl.out, e_low, e_low, HY_cd.out, HY_ss.out.2⟩, HY_ss.out.1⟩, fin_6 HHB.out HS1.out HS2.out HS3.out HS4.out HS5.out HS6.out⟩

set_option maxRecDepth 100000 in
set_option maxHeartbeats 25600000 in
theorem walkR_9 (K p q : Nat) (b : UInt8) (r0 : List UInt8) (w : World) (hb : b.toNat = 9) (hr : Rs K p w (some (b :: r0))) (hq : w.heap[q]? = some (.cells zrec 26 (0, 0))) (hT : KTab w) (hG : 21 < K) (hpq : p ≠ q) (hKp : K ≤ p) (hKq : K ≤ q) :
    Calls Tryz.prog 25 #[.pointer (some ⟨q, 0, none⟩), .iface 58 (.pointer (some ⟨p, 0, none⟩))] w (WalkOut K p q (b :: r0) w) := by
  have n_kind := rnil_kind ⟨p, 0, none⟩
  have m_kind := rmet_kind ⟨p, 0, none⟩
  have n_list := rnil_list ⟨p, 0, none⟩
  have m_list := rmet_list ⟨p, 0, none⟩
  have n_number := rnil_number ⟨p, 0, none⟩
  have m_number := rmet_number ⟨p, 0, none⟩
  have n_text := rnil_text ⟨p, 0, none⟩
  have m_text := rmet_text ⟨p, 0, none⟩
  have HPL : Hid (p < w.heap.size ∧ q < w.heap.size) := ⟨hr.lt, (Array.getElem?_eq_some_iff.1 hq).1⟩
  have HTT : Hid (∀ X, Fr [p, q] w X → KTab X) := fun X hX => ktab_fr hT hX (by omega) (by omega)
  have HK := hide (rkind_cons K p q zrec 26 0 b r0 w.drew hr.drew hq rfl hpq hKp hKq)
  have hbi : ((b.toNat : Nat) : Int) = 9 := by rw [hb]; rfl
  rw [hbi] at HK
  have HHB := hide hb
  clear hb hbi
  have hnm : nm (9 : Int) 1 = true := by decide
  have HN : Hid (∀ X, Fr [p, q] w X → Calls Tryz.prog 37 #[.int .i64 9, .int .i64 1] X fun e w' => e = .returned (.bool true) ∧ w' = X) := fun X hX => by
    have h := names_any 9 1 X (HTT.out X hX)
    rw [hnm] at h
    exact h
  clear hr hq hT hnm
  unfold WalkOut
  go_enter Tryz.func25, Tryz.ntmps25
  go_wp2_with fail
  go_region_with (go_at_call 222; refine HK.out.mono ?_; rintro x w0 ⟨rfl, hF0, hR0, hq0⟩)
  have HF0 : Hid (Fr [p, q] w w0) := frN (Fr.refl _ _) hF0
  have HR0 : Hid (Rs K p w0 (some r0)) := hR0
  have HQ0 : Hid (w0.heap[q]? = some (.cells (rcs ⟨9, ⟨#[]⟩, ⟨#[]⟩, ⟨#[]⟩, ⟨#[]⟩, ⟨#[]⟩, ⟨#[]⟩, [], 0⟩ (.slice none 0 0)) 26 (0, 0))) := hq0
  clear HK hF0 hR0 hq0
  have c0 : w0.cell? ⟨q, 0, none⟩ = some (.int .i64 9) := cell_of HQ0.out 0
  have HNN := hide (HN.out w0 HF0.out)
  have HT := hide (rtext_any K p q 1 (rcs ⟨9, ⟨#[]⟩, ⟨#[]⟩, ⟨#[]⟩, ⟨#[]⟩, ⟨#[]⟩, ⟨#[]⟩, [], 0⟩ (.slice none 0 0)) 26 ⟨#[]⟩ (some r0) w0.drew HR0.out.drew HQ0.out rfl hpq hKp hKq)
  go_wp2_with (go_at_call 37; refine HNN.out.mono ?_; rintro x w9 ⟨rfl, h9⟩; obtain rfl := h9.symm)
  go_region_with (go_at_call 224; refine HT.out.mono ?_; rintro x w1 ⟨rfl, y_id, s1, hst, hy, hR, hq, hF⟩)
  have HF1 : Hid (Fr [p, q] w w1) := frN HF0.out hF
  have HR1 := hide hR
  have HQ1 : Hid (w1.heap[q]? = some (.cells (rcs ⟨9, y_id, ⟨#[]⟩, ⟨#[]⟩, ⟨#[]⟩, ⟨#[]⟩, ⟨#[]⟩, [], 0⟩ (.slice none 0 0)) 26 (0, 0))) := hq
  have HS1 := hide hst
  have HY_id := hide hy
  clear HT hst hy hR hq hF c0 HNN
  have c0 : w1.cell? ⟨q, 0, none⟩ = some (.int .i64 9) := cell_of HQ1.out 0
  have HT := hide (rtext_any K p q 6 (rcs ⟨9, y_id, ⟨#[]⟩, ⟨#[]⟩, ⟨#[]⟩, ⟨#[]⟩, ⟨#[]⟩, [], 0⟩ (.slice none 0 0)) 26 ⟨#[]⟩ s1 w1.drew HR1.out.drew HQ1.out rfl hpq hKp hKq)
  go_wp2_with fail
  go_region_with (go_at_call 224; refine HT.out.mono ?_; rintro x w2 ⟨rfl, y_cd, s2, hst, hy, hR, hq, hF⟩)
  have HF2 : Hid (Fr [p, q] w w2) := frN HF1.out hF
  have HR2 := hide hR
  have HQ2 : Hid (w2.heap[q]? = some (.cells (rcs ⟨9, y_id, ⟨#[]⟩, ⟨#[]⟩, ⟨#[]⟩, ⟨#[]⟩, y_cd, [], 0⟩ (.slice none 0 0)) 26 (0, 0))) := hq
  have HS2 := hide hst
  have HY_cd := hide hy
  clear HT hst hy hR hq hF c0
  have c0 : w2.cell? ⟨q, 0, none⟩ = some (.int .i64 9) := cell_of HQ2.out 0
  have HT := hide (rtext_any K p q 3 (rcs ⟨9, y_id, ⟨#[]⟩, ⟨#[]⟩, ⟨#[]⟩, ⟨#[]⟩, y_cd, [], 0⟩ (.slice none 0 0)) 26 ⟨#[]⟩ s2 w2.drew HR2.out.drew HQ2.out rfl hpq hKp hKq)
  go_wp2_with fail
  go_region_with (go_at_call 224; refine HT.out.mono ?_; rintro x w3 ⟨rfl, y_cl, s3, hst, hy, hR, hq, hF⟩)
  have HF3 : Hid (Fr [p, q] w w3) := frN HF2.out hF
  have HR3 := hide hR
  have HQ3 : Hid (w3.heap[q]? = some (.cells (rcs ⟨9, y_id, ⟨#[]⟩, y_cl, ⟨#[]⟩, ⟨#[]⟩, y_cd, [], 0⟩ (.slice none 0 0)) 26 (0, 0))) := hq
  have HS3 := hide hst
  have HY_cl := hide hy
  clear HT hst hy hR hq hF c0
  have c0 : w3.cell? ⟨q, 0, none⟩ = some (.int .i64 9) := cell_of HQ3.out 0
  have HT := hide (rlist_any K p q 7 (rcs ⟨9, y_id, ⟨#[]⟩, y_cl, ⟨#[]⟩, ⟨#[]⟩, y_cd, [], 0⟩ (.slice none 0 0)) 26 s3 w3.drew HR3.out.drew HQ3.out rfl hpq hKp hKq)
  go_wp2_with fail
  go_region_with (go_at_call 223; refine HT.out.mono ?_; rintro x w4 ⟨rfl, y_ss, vv, s4, hst, hy, hR, hq, hO, hF⟩)
  obtain ⟨ol, cl, rfl⟩ := own_slice hO
  have HF4 : Hid (Fr [p, q] w w4) := frN HF3.out hF
  have HO4 : Hid (w4.ownsRow w.heap.size 9 1 (.slice ol y_ss.length cl) y_ss.length (y_ss.map Value.string)) := own_least hO HF3.out.size
  have HR4 := hide hR
  have HQ4 : Hid (w4.heap[q]? = some (.cells (rcs ⟨9, y_id, ⟨#[]⟩, y_cl, ⟨#[]⟩, ⟨#[]⟩, y_cd, y_ss, 0⟩ (.slice ol y_ss.length cl)) 26 (0, 0))) := hq
  have HS4 := hide hst
  have HY_ss := hide hy
  clear HT hst hy hR hq hF c0 hO
  have c0 : w4.cell? ⟨q, 0, none⟩ = some (.int .i64 9) := cell_of HQ4.out 0
  have HT := hide (rtext_any K p q 2 (rcs ⟨9, y_id, ⟨#[]⟩, y_cl, ⟨#[]⟩, ⟨#[]⟩, y_cd, y_ss, 0⟩ (.slice ol y_ss.length cl)) 26 ⟨#[]⟩ s4 w4.drew HR4.out.drew HQ4.out rfl hpq hKp hKq)
  go_wp2_with fail
  go_region_with (go_at_call 224; refine HT.out.mono ?_; rintro x w5 ⟨rfl, y_us, s5, hst, hy, hR, hq, hF⟩)
  have HF5 : Hid (Fr [p, q] w w5) := frN HF4.out hF
  have HO5 := hide (own_pq HO4.out ((frD _ _).trans hF (fun _ hi => Or.inl hi)) HPL.out.1 HPL.out.2)
  have HR5 := hide hR
  have HQ5 : Hid (w5.heap[q]? = some (.cells (rcs ⟨9, y_id, y_us, y_cl, ⟨#[]⟩, ⟨#[]⟩, y_cd, y_ss, 0⟩ (.slice ol y_ss.length cl)) 26 (0, 0))) := hq
  have HS5 := hide hst
  have HY_us := hide hy
  clear HT hst hy hR hq hF c0
  have c0 : w5.cell? ⟨q, 0, none⟩ = some (.int .i64 9) := cell_of HQ5.out 0
  have HT := hide (number_any K p q 8 (rcs ⟨9, y_id, y_us, y_cl, ⟨#[]⟩, ⟨#[]⟩, y_cd, y_ss, 0⟩ (.slice ol y_ss.length cl)) 26 0 s5 w5.drew HR5.out.drew HQ5.out rfl hpq hKp hKq)
  go_wp2_with fail
  go_region_with (go_at_call 30; refine HT.out.mono ?_; rintro x w6 ⟨rfl, y_at, s6, hst, -, hR, hq, hF⟩)
  have HF6 : Hid (Fr [p, q] w w6) := frN HF5.out hF
  have HO6 := hide (own_pq HO5.out ((frD _ _).trans hF (fun _ hi => Or.inl hi)) HPL.out.1 HPL.out.2)
  have HR6 := hide hR
  have HQ6 : Hid (w6.heap[q]? = some (.cells (rcs ⟨9, y_id, y_us, y_cl, ⟨#[]⟩, ⟨#[]⟩, y_cd, y_ss, ((y_at : Nat) : Int)⟩ (.slice ol y_ss.length cl)) 26 (0, 0))) := hq
  have HS6 := hide hst
  clear HT hst hR hq hF c0
  have c0 : w6.cell? ⟨q, 0, none⟩ = some (.int .i64 9) := cell_of HQ6.out 0
  go_wp2_with fail
  first | go_end0 | refine bodyPost_end (results_none rfl _ _ _) rfl ?_
  exact ⟨rfl, ⟨9, y_id, y_us, y_cl, ⟨#[]⟩, ⟨#[]⟩, y_cd, y_ss, ((y_at : Nat) : Int)⟩, _, s6, HQ6.out, HO6.out, HR6.out, HF6.out, ⟨⟨HY_id.out, HY_us.out, HY_cl.out, e_low, e_low, HY_cd.out, HY_ss.out.2⟩, HY_ss.out.1⟩, fin_9 HHB.out HS1.out HS2.out HS3.out HS4.out HS5.out HS6.out⟩
end Go.Proofs.YtimbhneegphhbaaGreatDoor.rc

namespace Go.Proofs.YtimbhneegphhbaaGreatDoor.rc
open Go.ChangeShapes Go.WideShapes Go.ChangeAt Go.RowKit Go.Proofs.YtimbhneegphhbaaGreatDoor.common Go.Proofs.YtimbhneegphhbaaGreatDoor.dk

theorem add128 (n : Nat) : (128 : Int) + ((n % 128 : Nat) : Int) = ((UInt8.ofNat (128 + n % 128)).toNat : Int) := by
  rw [ofNat_val (128 + n % 128) (by have := Nat.mod_lt n (show 0 < 128 by decide); omega)]
  omega
set_option maxRecDepth 100000 in
set_option maxHeartbeats 3200000 in
theorem refNumber_any (n : Nat) (w : World) (hn : n ≤ 9223372036854775807) :
    Calls Tryz.prog 22 #[.int .i64 (n : Int)] w fun e w' => ∃ v', e = .returned v' ∧ w'.ownsRow w.heap.size 5 1 v' (numL n).length ((numL n).map B) ∧ Below w.heap.size w w' := by
  obtain ⟨i0, hi, hz0, hz1, hz2⟩ := info_parts info8
  go_enter Tryz.func22, Tryz.ntmps22
  go_wp2
  go_loopw [0, 3] (fun k u wr => ∃ (c f : Nat) (d : List UInt8), c ≤ n ∧ c < 128 ^ (f + 1) ∧ f ≤ 9 ∧ d.length + f ≤ 9 ∧ k = .int .i64 (c : Int) ∧ numL n = d ++ numF f c ∧ wr.ownsRow w.heap.size 5 1 u d.length (d.map B) ∧ Below w.heap.size w wr) (fun k _ _ => (intOf k).toNat)
  case atStart => exact ⟨n, 9, [], Nat.le_refl _, by omega, Nat.le_refl _, by simp, rfl, rfl, World.ownsRow_nil _ _ _ _, Below.refl _ _⟩
  case round =>
    obtain ⟨c, f, d, hcn, hcf, hf9, hdf, rfl, hnm, hown, hnx⟩ := hrel
    have hsz := hnx.size
    have HX := hide hnx
    have HNM := hide hnm
    have hll : d.length ≤ 9 := by omega
    obtain ⟨ou, cu, rfl⟩ : ∃ ou cu, u3 = .slice ou d.length cu := by
      rcases hown.2 with ⟨h1, h0⟩ | ⟨g, cap, cur, h1, _⟩
      · exact ⟨none, 0, by rw [h1, h0]⟩
      · exact ⟨_, cap, h1⟩
    have HO := hide hown
    clear hown hnx hnm
    by_cases hlt : c < 128
    · have k1 : ¬ (128 : Int) ≤ (c : Int) := by omega
      have hcc : ((c : Int)) % 256 = (c : Int) := by omega
      have hB : Value.int .u8 (c : Int) = B (UInt8.ofNat c) := by show _ = Value.int .u8 _; rw [ofNat_val c (by omega)]
      go_wp2_with (at_builtin; refine wpList_append_own _ rfl _ _ 27 rfl w.heap.size 5 i0 (.int .u8 0) 1 1 Tryz.underlying27 hi hz0 hz1 hz2 rfl (by decide) _ _ _ rfl (HO.out.alloc _) ⟨wr.heap.size, 0, none⟩ 1 1 [.int .u8 (c : Int)] rfl rfl ?c1 ?c2 ?c3 ?c4 ?c5 ?_)
      try (case c1 => first | exact fun j u h => h | exact cell_one_new _ _ _)
      try (case c2 => first | rfl | (intro u hu; simp at hu; subst hu; rfl))
      try (case c3 => unfold maxLen; omega)
      try (case c4 => omega)
      try (case c5 => first | omega | (simp; omega))
      intro v' w1 hown' hgrow _
      have R1 : Hid (w1.ownsRow w.heap.size 5 1 v' (numL n).length ((numL n).map B)) := by
        show World.ownsRow _ _ _ _ _ _ _
        rw [HNM.out, numF_small f c hlt, List.length_append, List.map_append]
        exact hown'
      have R2 : Hid (Below w.heap.size w w1) := (HX.out.alloc hsz _).grown hgrow (by simp; omega) (own_ge HO.out)
      clear hown' hgrow HO
      go_wp2
      go_ret
      exact ⟨v', rfl, R1.out, R2.out⟩
    · have k1 : (128 : Int) ≤ (c : Int) := by omega
      cases f with
      | zero => exact absurd hcf (by simp; omega)
      | succ f =>
      obtain ⟨m, hm⟩ : ∃ m, m = c % 128 := ⟨_, rfl⟩
      have hm1 : (c : Int) % 128 = (m : Int) := by omega
      have hm2 : ((128 : Int) + (m : Int)) % 256 = 128 + (m : Int) := by omega
      have hor : (128 : Int) + (m : Int) = ((UInt8.ofNat (128 + c % 128)).toNat : Int) := by rw [hm]; exact add128 c
      have hq : (c : Int) / 128 = ((c / 128 : Nat) : Int) := by omega
      have hq2 : c / 128 < c := Nat.div_lt_self (by omega) (by decide)
      have hq3 : c / 128 < 128 ^ (f + 1) := by
        rw [Nat.div_lt_iff_lt_mul (by decide), ← Nat.pow_succ]; exact hcf
      have HNB := hide (numF_big f c hlt)
      have hx : (UInt8.ofNat (128 + c % 128)).toNat < 256 := UInt8.toNat_lt _
      generalize c / 128 = q at *
      generalize UInt8.ofNat (128 + c % 128) = x at *
      have hxx : ((x.toNat : Int)) % 256 = (x.toNat : Int) := by omega
      have HM := hide hm
      clear hm hm2
      go_wp2_with (at_builtin; refine wpList_append_own _ rfl _ _ 27 rfl w.heap.size 5 i0 (.int .u8 0) 1 1 Tryz.underlying27 hi hz0 hz1 hz2 rfl (by decide) _ _ _ rfl (HO.out.alloc _) ⟨wr.heap.size, 0, none⟩ 1 1 [B x] rfl rfl ?d1 ?d2 ?d3 ?d4 ?d5 ?_)
      try (case d1 => first | exact fun j u h => h | exact cell_one_new _ _ _)
      try (case d2 => first | rfl | (intro u hu; simp at hu; subst hu; rfl))
      try (case d3 => unfold maxLen; omega)
      try (case d4 => omega)
      try (case d5 => first | omega | (simp; omega))
      intro v' w1 hown' hgrow _
      have R1 : Hid (w1.ownsRow w.heap.size 5 1 v' (d ++ [x]).length ((d ++ [x]).map B)) := by
        show World.ownsRow _ _ _ _ _ _ _
        rw [List.length_append, List.map_append]
        exact hown'
      have R2 : Hid (Below w.heap.size w w1) := (HX.out.alloc hsz _).grown hgrow (by simp; omega) (own_ge HO.out)
      clear hown' hgrow HO
      go_wp2
      go_roundw
      case rel => exact ⟨q, f, d ++ [x], by omega, hq3, by omega, by simp; omega, by go_num, by rw [HNM.out, HNB.out]; simp, R1.out, R2.out⟩
      case measure => simp [intOf]; omega
end Go.Proofs.YtimbhneegphhbaaGreatDoor.rc

namespace Go.Proofs.YtimbhneegphhbaaGreatDoor.dk
open Go.ChangeShapes Go.WideShapes Go.ChangeAt Go.RowKit Go.Proofs.YtimbhneegphhbaaGreatDoor.common
end Go.Proofs.YtimbhneegphhbaaGreatDoor.dk

namespace Go.Proofs.YtimbhneegphhbaaGreatDoor.dr
open Go.ChangeShapes Go.WideShapes Go.ChangeAt Go.RowKit Go.Proofs.YtimbhneegphhbaaGreatDoor.common Go.Proofs.YtimbhneegphhbaaGreatDoor.dk

set_option maxRecDepth 100000 in
/-- whatever is put behind a row of one's own -/
theorem append_src (w : World) (base : Nat) (t tx e : TypeId) (i : TypeInfo) (z : Value) (size : Nat) (hu : Tryz.prog.underlying t = some (.slice e)) (hi : Tryz.prog.info? e = some i) (hz : i.zero = some z) (hsz : i.size = size) (hzs : z.cells.size = size) (v : Value) (n : Nat) (xs : List Value) (h : w.ownsRow base e size v n xs)
    (x : Value) (m : Nat) (news : List Value) (hs : Src Tryz.prog i.size tx x m news w) (hm : news.length = m * size) (hfit : (n + m + (n + m) / 4 + 192) * i.bytes ≤ 281474976710656) (hmax : n + m ≤ maxLen) (hbase : base ≤ w.heap.size) :
    ∃ v' W', (Builtin.append_ #[t, tx] t #[v, x]).run Tryz.prog w = .ok v' W' ∧ W'.ownsRow base e size v' (n + m) (xs ++ news) ∧ Fr v.ownBlock.toList w W' ∧ (v'.ownBlock = v.ownBlock ∨ ∃ g, v'.ownBlock = some g ∧ w.heap.size ≤ g) := by
  subst hsz
  have hl := h.1
  have hmax' : n + m ≤ 9223372036854775807 := by unfold maxLen at hmax; omega
  have grow : ∀ (ao : Option Addr) (cap : Nat), v = .slice ao n cap → cap < n + m → (Builtin.firstCells i.size n (.slice ao n cap)).run Tryz.prog w.drew = .ok xs.toArray w.drew → ∃ v' W', (Builtin.append_ #[t, tx] t #[v, x]).run Tryz.prog w = .ok v' W' ∧ W'.ownsRow base e i.size v' (n + m) (xs ++ news) ∧ Fr v.ownBlock.toList w W' ∧ (v'.ownBlock = v.ownBlock ∨ ∃ g, v'.ownBlock = some g ∧ w.heap.size ≤ g) := fun ao cap hv hc hold => by
    subst hv
    have hrun := run_append_grow_src (P := Tryz.prog) w t tx t e i z hu hi hz ao n cap xs hold x m news hs hc (by omega) (growslice_fits_wide (by omega) hfit)
    have hge := grownCap_ge w (n + m) cap e
    have hle := grownCap_le_maxLen w (n + m) cap e hmax
    refine ⟨_, _, hrun, ⟨by rw [List.length_append, hl, hm, Nat.add_mul], Or.inr ⟨w.heap.size, _, _, rfl, hbase, heap_alloc_new _ _, hge, hle, ?_, ?_⟩⟩, (((Fr.refl _ w).drew).alloc _), Or.inr ⟨w.heap.size, rfl, Nat.le_refl _⟩⟩
    · rw [Array.size_append, size_zeroCells, List.size_toArray, List.length_append, hl, hm, hzs, ← Nat.add_mul, ← Nat.add_mul]
      congr 1
      omega
    · rw [Array.toList_append, List.toList_toArray]
      exact List.take_left' (by rw [List.length_append, hl, hm, Nat.add_mul])
  rcases h.2 with ⟨rfl, rfl⟩ | ⟨g, cap, cur, rfl, h1, h2, h3, h4, h5, h6⟩
  · obtain rfl : xs = [] := List.eq_nil_of_length_eq_zero (by rw [hl, Nat.zero_mul])
    by_cases h0 : m = 0
    · subst h0
      obtain rfl : news = [] := List.eq_nil_of_length_eq_zero (by rw [hm, Nat.zero_mul])
      refine ⟨.slice none 0 0, w, ?_, h, Fr.refl _ _, Or.inl rfl⟩
      have hc := hs.cells
      rcases hs.kind with ⟨e', hk⟩ | hk <;> simp [Builtin.append_, run_underlying (P := Tryz.prog) hu, run_underlying (P := Tryz.prog) hk, sizeOf, typeInfo, hi, hs.len, hc]
    · exact grow none 0 rfl (by omega) (run_firstCells_none w.drew i.size 0 0 0)
  · by_cases hroom : n + m ≤ cap
    · have hin : ∀ j, j < news.length → 0 + n * i.size + j < cur.size := fun j hj => by
        rw [hm] at hj
        rw [h5, Nat.zero_add]
        have : (n + m) * i.size ≤ cap * i.size := Nat.mul_le_mul_right _ hroom
        rw [Nat.add_mul] at this
        omega
      have hrun := run_append_room_src (P := Tryz.prog) w t tx t e i hu hi g 0 n cap x m news hs hroom (fun j hj => by rw [cell_of h2, Array.getElem?_eq_getElem (hin j hj)]; rfl) (fun j hj => free_of h2 _)
      rw [Nat.zero_add] at hrun
      have hc2 : w.heap[g]? = some (.cells cur.toList.toArray e (0, 0)) := by rw [Array.toArray_toList]; exact h2
      have hcl : cur.toList.length = cap * i.size := (Array.length_toList (xs := cur)).trans h5
      have hlt : n * i.size + news.length ≤ cur.toList.length := by
        rw [hcl, hm, ← Nat.add_mul]
        exact Nat.mul_le_mul_right _ hroom
      have hst := sets_here hc2 news (n * i.size) hlt
      refine ⟨_, _, hrun, ⟨by rw [List.length_append, hl, hm, Nat.add_mul], Or.inr ⟨g, cap, _, rfl, h1, hst, hroom, h4, ?_, ?_⟩⟩, (Fr.refl _ w).sets g _ _ (Or.inl (by simp [Value.ownBlock])), Or.inl rfl⟩
      · rw [List.size_toArray, List.length_append, List.length_append, List.length_take, List.length_drop, ← hcl]
        omega
      · rw [List.toList_toArray, h6, ← List.append_assoc]
        exact List.take_left' (by rw [List.length_append, hl, hm, Nat.add_mul])
    · refine grow (some ⟨g, 0, none⟩) cap rfl (by omega) ?_
      exact run_firstCells_some w.drew i.size n _ n cap xs hl (by
        intro j u hu'
        have := h.cells (g := g) rfl j u hu'
        exact this)
/-- bytes that can be read as what is appended -/
theorem src_rd {w : World} {oa : Option Addr} {c : Nat} {l : List UInt8} (h : Rd w (.slice oa l.length c) l) : Src Tryz.prog 1 27 (.slice oa l.length c) l.length (l.map B) w := by
  obtain ⟨oa', c', e, hr⟩ := h
  cases e
  by_cases h0 : 0 < l.length
  · obtain ⟨g, o, rfl, _, hr⟩ := hr h0
    exact Src.ofSlice _ Tryz.underlying27 _ _ _ _ (by rw [List.length_map, Nat.mul_one]) (fun j u hu => by rw [Addr.add_mid]; exact hr j u hu) (fun u hu => by obtain ⟨_, _, rfl⟩ := List.mem_map.1 hu; rfl)
  · obtain rfl : l = [] := List.eq_nil_of_length_eq_zero (by omega)
    cases oa with
    | none => exact Src.ofNil _ Tryz.underlying27 _
    | some a => exact Src.ofSlice _ Tryz.underlying27 _ _ _ _ rfl (fun j u hu => by simp at hu) (fun u hu => by cases hu)
set_option maxRecDepth 100000 in
theorem append_rd (w : World) (base : Nat) (v : Value) (l : List UInt8) (h : w.ownsRow base 5 1 v l.length (l.map B)) (oa : Option Addr) (c : Nat) (m : List UInt8) (hr : Rd w (.slice oa m.length c) m) (hb : l.length + m.length ≤ 140738562097152) (hbase : base ≤ w.heap.size) :
    ∃ v' W', (Builtin.append_ #[27, 27] 27 #[v, .slice oa m.length c]).run Tryz.prog w = .ok v' W' ∧ W'.ownsRow base 5 1 v' (l ++ m).length ((l ++ m).map B) ∧ Fr v.ownBlock.toList w W' ∧ (v'.ownBlock = v.ownBlock ∨ ∃ g, v'.ownBlock = some g ∧ w.heap.size ≤ g) := by
  obtain ⟨i0, hi, hz0, hz1, hz2⟩ := info_parts info8
  have hs := src_rd hr
  rw [← hz1] at hs
  rw [List.length_append, List.map_append]
  exact append_src w base 27 27 5 i0 (.int .u8 0) 1 Tryz.underlying27 hi hz0 hz1 rfl v l.length (l.map B) h _ m.length (m.map B) hs (by rw [List.length_map, Nat.mul_one]) (by rw [hz2]; omega) (by unfold maxLen; omega) hbase
end Go.Proofs.YtimbhneegphhbaaGreatDoor.dr

namespace Go.Proofs.YtimbhneegphhbaaGreatDoor.rc
open Go.ChangeShapes Go.WideShapes Go.ChangeAt Go.RowKit Go.Proofs.YtimbhneegphhbaaGreatDoor.common Go.Proofs.YtimbhneegphhbaaGreatDoor.dk

theorem wpList_appendX {P : Program} {w : World} {ops : Array Oper} {rest : List Oper} {o : Oper} {a : Act} {Q : Exit → Act → World → Prop} (hgd : o.guard = none) (s x : Operand) (t tx : TypeId)
    (ho : o.op = .call { callee := .builtin .append, args := #[s, x], argTypes := #[t, tx] }) (vs vx : Value) (hs : a.eval s = vs) (hx : a.eval x = vx) (v' : Value) (w' : World)
    (hr : (Builtin.append_ #[t, tx] o.type #[vs, vx]).run P w = .ok v' w') (h : wpList P ops Q rest (a.put o.dst v') w') : wpList P ops Q (o :: rest) a w := by
  refine wpList_plain hgd fun K hK => ?_
  unfold Oper.wp execOp
  simp only [ho, resolve, invoke, builtin, Sem.run_bind, Sem.run_pure, Result.andThen_ok, List.map_toArray, List.map_cons, List.map_nil, hs, hx, hr]
  exact hK _ _ h
theorem gr_of {u v' : Value} {w w1 : World} (hf : Fr u.ownBlock.toList w w1) (hat : v'.ownBlock = u.ownBlock ∨ ∃ g, v'.ownBlock = some g ∧ w.heap.size ≤ g) : Gr u v' w w1 :=
  ⟨hf, fun k hk => by
    rcases hat with h | ⟨g, h, hg⟩
    · exact Or.inl (by rw [← h]; exact hk)
    · rw [h] at hk
      cases hk
      exact Or.inr hg⟩

set_option maxRecDepth 100000 in
set_option maxHeartbeats 3200000 in
theorem refText_any (s : ByteArray) (w : World) (hs : s.size ≤ 281474976) :
    Calls Tryz.prog 56 #[.string s] w fun e w' => ∃ v', e = .returned v' ∧ w'.ownsRow w.heap.size 5 1 v' (txL s).length ((txL s).map B) ∧ Below w.heap.size w w' := by
  have hnl : (numL s.size).length ≤ 10 := (numF_len 9 s.size).2
  have HN := hide (refNumber_any s.size w (by omega))
  go_enter Tryz.func56, Tryz.ntmps56
  go_wp2_with fail
  refine HN.out.mono ?_
  rintro x w1 ⟨v1, rfl, hown, b1⟩
  obtain ⟨v2, W2, hrun, hown2, hfr2, hat2⟩ := append_text w1 w.heap.size v1 _ hown s (by omega) b1.size
  have hgr := gr_of hfr2 hat2
  have hb2 : Below w.heap.size w W2 := b1.trans (hgr.below (fun k hk => own_ge hown k hk) b1.size)
  have HO := hide hown2
  have HB := hide hb2
  clear hown b1 hown2 hfr2 hat2 hgr hb2
  go_wp2_with (at_builtin; refine wpList_appendX rfl _ _ 27 9 rfl _ _ rfl rfl _ _ hrun ?_)
  go_ret
  exact ⟨_, rfl, HO.out, HB.out⟩
end Go.Proofs.YtimbhneegphhbaaGreatDoor.rc
