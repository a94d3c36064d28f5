import Derived.Test.YthpickmiohakbaaDoorPaddedWalks
import Derived.Deep.DeepCutAuto
import Derived.Stop.LaidErr
namespace Go.Proofs.YthpickmiohakbaaDoor.shaw
open Go.ChangeShapes Go.WideShapes Go.ChangeAt Go.RowKit Go.Proofs.YthpickmiohakbaaDoor.common
attribute [local go_sem ↓] Go.wp_at_zero Go.wp_at_succ

theorem appL (a b : ByteArray) : (a ++ b).data.toList = a.data.toList ++ b.data.toList := by simp

set_option maxRecDepth 100000 in
set_option maxHeartbeats 1600000 in
theorem lawMacIs (a b : ByteArray) (w : World) (ha : a.size ≤ reachBytes) (hb : b.size ≤ reachBytes) (hr : RW w) (hf : FW w) :
    Calls Tryd.prog 4 #[.agg #[.string a, .string b]] w fun e w' => e = .returned (.bool true) ∧ Below w.heap.size w w' := by
  have HA : Hid (a.size ≤ 281474976710656) := by show _ ≤ _; unfold reachBytes at ha; omega
  have HA2 : Hid (a.size ≤ 562949953421312) := by show _ ≤ _; unfold reachBytes at ha; omega
  have HB : Hid (b.size ≤ 281474976710656) := by show _ ≤ _; unfold reachBytes at hb; omega
  have hbs : b.size ≤ 140737488351232 := by unfold reachBytes at hb; exact hb
  have hW0 : Below w.heap.size w (w.alloc (.cells #[.string a, .string b] 23)) := (Below.refl _ _).alloc (Nat.le_refl _) _
  have HRW : Hid (∀ W, Below w.heap.size w W → RW W) := fun W h => hr.below h hr.lt
  have HFW : Hid (∀ W, Below w.heap.size w W → FW W) := fun W h => hf.below h hf.lt
  have HW := hide hW0
  have A0 : Hid ((w.alloc (.cells #[.string a, .string b] 23)).cell? ⟨w.heap.size, 0, none⟩ = some (.string a)) := by show _ = _; simp
  have B0 : Hid ((w.alloc (.cells #[.string a, .string b] 23)).cell? ⟨w.heap.size, 1, none⟩ = some (.string b)) := by show _ = _; simp
  have HLT : Hid (w.heap.size < (w.alloc (.cells #[.string a, .string b] 23)).heap.size) := by show _ < _; simp
  clear hr hf hW0 ha hb
  go_enter Tryd.func4, Tryd.ntmps4
  go_upto_if 11 with fail
  go_cut [3] (fun k wx => (∃ t : ByteArray, k = .string t ∧ t.data.toList = shortKey a.data.toList) ∧ wx.cell? ⟨w.heap.size, 0, none⟩ = some (.string a) ∧ wx.cell? ⟨w.heap.size, 1, none⟩ = some (.string b) ∧ w.heap.size < wx.heap.size ∧ Below w.heap.size w wx)
  case first =>
    by_cases h64 : 64 < a.size
    · have h64i : (64 : Int) < (a.size : Int) := by omega
      have HE : Hid (shortKey a.data.toList = Sha.digest a.data.toList) := if_pos (by rw [lenL]; exact h64)
      go_wp2_with fail
      refine (sha_any a _ HA2.out (HRW.out _ HW.out) (HFW.out _ HW.out)).mono ?_
      rintro e w1 ⟨rfl, h1⟩
      have K1 := hide h1
      clear h1
      go_wp2_with fail
      go_meet
      case rel => exact ⟨⟨_, rfl, by rw [HE.out]⟩, (K1.out.cell HLT.out).trans A0.out, (K1.out.cell HLT.out).trans B0.out, Nat.lt_of_lt_of_le HLT.out K1.out.size, HW.out.trans (K1.out.mono (Nat.le_of_lt HLT.out))⟩
    · have h64i : ¬ (64 : Int) < (a.size : Int) := by omega
      have HE : Hid (shortKey a.data.toList = a.data.toList) := if_neg (by rw [lenL]; exact h64)
      go_wp2_with fail
      go_meet
      case rel => exact ⟨⟨_, rfl, by rw [HE.out]⟩, A0.out, B0.out, HLT.out, HW.out⟩
  case rest =>
    obtain ⟨⟨t, rfl, ht⟩, a1, b1, hL1, hK1⟩ := hcut
    have hts : t.size ≤ 64 := by rw [← lenL, ht]; exact shortKey_length _
    have htl : t.data.toList.length ≤ 64 := by rw [lenL]; exact hts
    have hti : ¬ (64 : Int) < (t.size : Int) := by omega
    have HTL := hide htl
    have HTT := hide ht
    have K1 := hide hK1
    have HL1 := hide hL1
    have HPI := hide (fun W => padded_any t 0x36 W htl)
    have HPO := hide (fun W => padded_any t 0x5c W htl)
    have hIs : (⟨(blk t.data.toList 0x36).toArray⟩ : ByteArray).size = 64 := by rw [szL]; unfold blk; rw [List.length_map, zpad_length _ htl]
    have hOs : (⟨(blk t.data.toList 0x5c).toArray⟩ : ByteArray).size = 64 := by rw [szL]; unfold blk; rw [List.length_map, zpad_length _ htl]
    have HIL : Hid ((⟨(blk t.data.toList 0x36).toArray⟩ : ByteArray).data.toList = blk (shortKey a.data.toList) 0x36) := by show _ = _; rw [← ht]
    have HOL : Hid ((⟨(blk t.data.toList 0x5c).toArray⟩ : ByteArray).data.toList = blk (shortKey a.data.toList) 0x5c) := by show _ = _; rw [← ht]
    clear ht htl hK1 hL1
    generalize (⟨(blk t.data.toList 0x36).toArray⟩ : ByteArray) = BI at *
    generalize (⟨(blk t.data.toList 0x5c).toArray⟩ : ByteArray) = BO at *
    have HIS : Hid ((BI ++ b).size ≤ 562949953421312) := by show _ ≤ _; rw [ByteArray.size_append]; omega
    have hneg : ¬ (9223372036854775807 < BI.size + b.size) := by omega
    have HIs := hide hIs
    have HOs := hide hOs
    clear hIs hOs
    go_wp2_with fail
    go_region_held3 (fun W => W.cell? ⟨w.heap.size, 0, none⟩ = some (.string a) ∧ W.cell? ⟨w.heap.size, 1, none⟩ = some (.string b))
      (first
        | go_keep
        | exact ⟨(hb3.cell (Nat.lt_of_lt_of_le HL1.out hb2.size)).trans ((hb2.cell HL1.out).trans a1), (hb3.cell (Nat.lt_of_lt_of_le HL1.out hb2.size)).trans ((hb2.cell HL1.out).trans b1)⟩
        | exact ⟨(hb2.cell HL1.out).trans a1, (hb2.cell HL1.out).trans b1⟩)
      (first
        | (go_at_call 11; refine (HPI.out _).mono ?_; rintro e w2 ⟨rfl, hb2⟩)
        | (go_at_call 10; refine (sha_any (BI ++ b) _ HIS.out (HRW.out _ (K1.out.drew.trans (hb2.mono K1.out.size))) (HFW.out _ (K1.out.drew.trans (hb2.mono K1.out.size)))).mono ?_; rintro e w3 ⟨rfl, hb3⟩))
    have K3 : Hid (Below w.heap.size w w3) := (K1.out.drew.trans (hb2.mono K1.out.size)).trans (hb3.mono (Nat.le_trans K1.out.size hb2.size))
    have HL3 : Hid (w.heap.size < w3.heap.size) := Nat.lt_of_lt_of_le (Nat.lt_of_lt_of_le HL1.out hb2.size) hb3.size
    have a3 : w3.cell? ⟨w.heap.size, 0, none⟩ = some (.string a) := (hb3.cell (Nat.lt_of_lt_of_le HL1.out hb2.size)).trans ((hb2.cell HL1.out).trans a1)
    have b3 : w3.cell? ⟨w.heap.size, 1, none⟩ = some (.string b) := (hb3.cell (Nat.lt_of_lt_of_le HL1.out hb2.size)).trans ((hb2.cell HL1.out).trans b1)
    have A3 := hide a3
    have B3 := hide b3
    have HDL : Hid ((⟨(Sha.digest (BI ++ b).data.toList).toArray⟩ : ByteArray).data.toList = Sha.digest (blk (shortKey a.data.toList) 0x36 ++ b.data.toList)) := by
      show Sha.digest (BI ++ b).data.toList = _
      rw [appL, HIL.out]
    have hDs : (⟨(Sha.digest (BI ++ b).data.toList).toArray⟩ : ByteArray).size = 32 := by rw [szL, digest_length]
    clear hb2 hb3 a1 b1 a3 b3
    have HO2 : Hid ((⟨(Sha.digest (BI.data.toList ++ b.data.toList)).toArray⟩ : ByteArray).data.toList = Sha.digest (blk (shortKey a.data.toList) 0x36 ++ b.data.toList)) := by
      show Sha.digest (BI.data.toList ++ b.data.toList) = _
      rw [HIL.out]
    have hD2 : (⟨(Sha.digest (BI.data.toList ++ b.data.toList)).toArray⟩ : ByteArray).size = 32 := by rw [szL, digest_length]
    clear hDs HDL hneg
    generalize (⟨(Sha.digest (BI.data.toList ++ b.data.toList)).toArray⟩ : ByteArray) = D at *
    have hneg : ¬ (9223372036854775807 < BO.size + D.size) := by have := HOs.out; omega
    have HCS : Hid ((BO ++ D).size ≤ 562949953421312) := by show _ ≤ _; rw [ByteArray.size_append]; have := HOs.out; omega
    clear hD2
    go_wp2_with fail
    refine (HPO.out w3).mono ?_
    rintro e w4 ⟨rfl, h4⟩
    have K4 := hide (K3.out.trans (h4.mono K3.out.size))
    have HL4 : Hid (w.heap.size < w4.heap.size) := Nat.lt_of_lt_of_le HL3.out h4.size
    have A4 : Hid (w4.cell? ⟨w.heap.size, 0, none⟩ = some (.string a)) := (h4.cell HL3.out).trans A3.out
    have B4 : Hid (w4.cell? ⟨w.heap.size, 1, none⟩ = some (.string b)) := (h4.cell HL3.out).trans B3.out
    clear h4
    go_wp2_with fail
    refine (sha_any (BO ++ D) w4 HCS.out (HRW.out _ K4.out) (HFW.out _ K4.out)).mono ?_
    rintro e w5 ⟨rfl, h5⟩
    have K5 := hide (K4.out.trans (h5.mono K4.out.size))
    have a5 : w5.cell? ⟨w.heap.size, 0, none⟩ = some (.string a) := (h5.cell HL4.out).trans A4.out
    have b5 : w5.cell? ⟨w.heap.size, 1, none⟩ = some (.string b) := (h5.cell HL4.out).trans B4.out
    clear h5
    have HM : Hid (Sha.digest (BO ++ D).data.toList = macOf a.data.toList b.data.toList) := by
      show _ = _
      rw [appL, HOL.out, HO2.out]; rfl
    rw [HM.out]
    go_wp2_with fail
    refine (mac_any a b w5 HA.out HB.out (HRW.out _ K5.out) (HFW.out _ K5.out)).mono ?_
    rintro e w6 ⟨rfl, h6⟩
    have K6 := hide (K5.out.trans (h6.mono K5.out.size))
    have hms : (⟨(macOf a.data.toList b.data.toList).toArray⟩ : ByteArray).size = 32 := by rw [szL, macOf_len]
    clear h6
    generalize (⟨(macOf a.data.toList b.data.toList).toArray⟩ : ByteArray) = X at *
    go_wp2_with fail
    go_ret
    exact ⟨by simp, K6.out⟩

end Go.Proofs.YthpickmiohakbaaDoor.shaw
