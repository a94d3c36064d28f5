import Derived.Test.YthpickmiohakbaaDoorTakeKey2
import Derived.Deep.RegionHeld3
namespace Go.Proofs.YthpickmiohakbaaDoor.shaw
open Go.ChangeShapes Go.WideShapes Go.ChangeAt Go.RowKit Go.Proofs.YthpickmiohakbaaDoor.common
attribute [local go_sem ↓] Go.wp_at_zero Go.wp_at_succ

/-- HMAC -/
def macOf (k m : List UInt8) : List UInt8 := Sha.digest (blk (shortKey k) 0x5c ++ Sha.digest (blk (shortKey k) 0x36 ++ m))
theorem macOf_len (k m : List UInt8) : (macOf k m).length = 32 := digest_length _
theorem blk_len (k : List UInt8) (c : UInt8) : (blk (shortKey k) c).length = 64 := by unfold blk; rw [List.length_map, zpad_length _ (shortKey_length k)]

theorem mac_any (k m : ByteArray) (w : World) (hk : k.size ≤ 281474976710656) (hm : m.size ≤ 281474976710656) (hr : RW w) (hf : FW w) :
    Calls Tryd.prog 9 #[.string k, .string m] w fun e w' => e = .returned (.string ⟨(macOf k.data.toList m.data.toList).toArray⟩) ∧ Below w.heap.size w w' := by
  have HK := hide hk
  have HM := hide hm
  have HR := hide hr
  have HF := hide hf
  clear hk hm hr hf
  go_enter Tryd.func9, Tryd.ntmps9
  go_wp2_with fail
  refine (takeKey_any k w (by have := HK.out; omega) HR.out HF.out).mono ?_
  rintro e w1 ⟨cs, rfl, hkv, hb⟩
  have HKV := hide hkv
  have HB := hide hb
  clear hkv hb
  go_wp2_with fail
  refine (sign_any cs _ _ m w1 (by rw [blk_len]; have := HM.out; omega) (by rw [blk_len]; decide) HKV.out (HR.out.below HB.out HR.out.lt)).mono ?_
  rintro e w2 ⟨rfl, hb2⟩
  have HB2 := hide (HB.out.trans (hb2.mono HB.out.size))
  clear hb2
  go_wp2_with fail
  go_ret
  exact ⟨rfl, HB2.out⟩

theorem short_sha (k : List UInt8) (h : 64 < k.length) : shortKey (Sha.digest k) = shortKey k := by
  have e : shortKey k = Sha.digest k := if_pos h
  rw [e]
  unfold shortKey
  rw [if_neg (by rw [digest_length]; decide)]
theorem blk_zero (k : List UInt8) (c : UInt8) (h : k.length < 64) : blk (shortKey (k ++ [0])) c = blk (shortKey k) c := by
  have e1 : shortKey k = k := if_neg (by omega)
  have e2 : shortKey (k ++ [0]) = k ++ [0] := if_neg (by simp; omega)
  rw [e1, e2]
  unfold blk zpad
  congr 1
  rw [List.length_append, List.append_assoc]
  congr 1
  rw [show 64 - k.length = (64 - (k.length + 1)) + 1 by omega, List.replicate_succ]
  rfl
theorem mac_sha (k m : List UInt8) (h : 64 < k.length) : macOf (Sha.digest k) m = macOf k m := by unfold macOf; rw [short_sha k h]
theorem mac_zero (k m : List UInt8) (h : k.length < 64) : macOf (k ++ [0]) m = macOf k m := by unfold macOf; rw [blk_zero k _ h, blk_zero k _ h]

theorem ba_ext {a b : ByteArray} (h : a.data.toList = b.data.toList) : a = b := by
  apply ByteArray.ext; apply Array.toList_inj.1; exact h
theorem eq_list {a b : ByteArray} (h : a = b) : (a.toList == b.toList) = true := by subst h; simp
theorem lenL (s : ByteArray) : s.data.toList.length = s.size := by simp
theorem cellsKeyed : Tryd.prog.cellsOf 23 = 2 := by kernel_rfl

set_option maxRecDepth 100000 in
set_option maxHeartbeats 1600000 in
theorem lawKeys (a b : ByteArray) (w : World) (ha : a.size ≤ reachBytes) (hb : b.size ≤ reachBytes) (hr : RW w) (hf : FW w) :
    Calls Tryd.prog 3 #[.agg #[.string a, .string b]] w fun e w' => e = .returned (.bool true) ∧ Below w.heap.size w w' := by
  have HA : Hid (a.size ≤ 281474976710656) := by show _ ≤ _; unfold reachBytes at ha; omega
  have HA2 : Hid (a.size ≤ 562949953421312) := by show _ ≤ _; unfold reachBytes at ha; omega
  have HB : Hid (b.size ≤ 281474976710656) := by show _ ≤ _; unfold reachBytes at hb; omega
  have hW0 : Below w.heap.size w (w.alloc (.cells #[.string a, .string b] 23)) := (Below.refl _ _).alloc (Nat.le_refl _) _
  have HRW : Hid (∀ W, Below w.heap.size w W → RW W) := fun W h => hr.below h hr.lt
  have HFW : Hid (∀ W, Below w.heap.size w W → FW W) := fun W h => hf.below h hf.lt
  have HW := hide hW0
  have A0 : Hid ((w.alloc (.cells #[.string a, .string b] 23)).cell? ⟨w.heap.size, 0, none⟩ = some (.string a)) := by show _ = _; simp
  have B0 : Hid ((w.alloc (.cells #[.string a, .string b] 23)).cell? ⟨w.heap.size, 1, none⟩ = some (.string b)) := by show _ = _; simp
  have HLT : Hid (w.heap.size < (w.alloc (.cells #[.string a, .string b] 23)).heap.size) := by show _ < _; simp
  clear hr hf hW0 ha hb
  go_enter Tryd.func3, Tryd.ntmps3
  go_wp2_with fail
  generalize w.alloc (.cells #[.string a, .string b] 23) = wx at *
  refine (mac_any a b wx HA.out HB.out (HRW.out _ HW.out) (HFW.out _ HW.out)).mono ?_
  rintro e w1 ⟨rfl, h1⟩
  have a1 : w1.cell? ⟨w.heap.size, 0, none⟩ = some (.string a) := by rw [← A0.out]; exact h1.cell HLT.out
  have b1 : w1.cell? ⟨w.heap.size, 1, none⟩ = some (.string b) := by rw [← B0.out]; exact h1.cell HLT.out
  have K1 : Hid (Below w.heap.size w w1) := HW.out.trans (h1.mono (Nat.le_of_lt HLT.out))
  have HL1 : Hid (w.heap.size < w1.heap.size) := Nat.lt_of_lt_of_le HLT.out h1.size
  clear h1
  have hms : (⟨(macOf a.data.toList b.data.toList).toArray⟩ : ByteArray).size = 32 := by rw [szL, macOf_len]
  have HM : Hid ((⟨(macOf a.data.toList b.data.toList).toArray⟩ : ByteArray).data.toList = macOf a.data.toList b.data.toList) := rfl
  generalize (⟨(macOf a.data.toList b.data.toList).toArray⟩ : ByteArray) = X at *
  by_cases h64 : 64 < a.size
  · have h64i : (64 : Int) < (a.size : Int) := by omega
    have HE := hide (mac_sha a.data.toList b.data.toList (by rw [lenL]; exact h64))
    go_wp2_with fail
    go_region_held3 (fun W => W.cell? ⟨w.heap.size, 0, none⟩ = some (.string a) ∧ W.cell? ⟨w.heap.size, 1, none⟩ = some (.string b))
      (first
        | go_keep
        | exact ⟨(hb3.cell (Nat.lt_of_lt_of_le HL1.out hb2.size)).trans ((hb2.cell HL1.out).trans a1), (hb3.cell (Nat.lt_of_lt_of_le HL1.out hb2.size)).trans ((hb2.cell HL1.out).trans b1)⟩
        | exact ⟨(hb2.cell HL1.out).trans a1, (hb2.cell HL1.out).trans b1⟩)
      (first
        | (go_at_call 10; refine (sha_any a _ HA2.out (HRW.out _ K1.out.drew) (HFW.out _ K1.out.drew)).mono ?_; rintro e w2 ⟨rfl, hb2⟩)
        | (go_at_call 9; refine (mac_any ⟨(Sha.digest a.data.toList).toArray⟩ b _ (by rw [szL, digest_length]; decide) HB.out (HRW.out _ (K1.out.drew.trans (hb2.mono K1.out.size))) (HFW.out _ (K1.out.drew.trans (hb2.mono K1.out.size)))).mono ?_; rintro e w3 ⟨rfl, hb3⟩))
    have KW : Hid (Below w.heap.size w w3) := (K1.out.drew.trans (hb2.mono K1.out.size)).trans (hb3.mono (Nat.le_trans K1.out.size hb2.size))
    have he : (X.toList == macOf (Sha.digest a.data.toList) b.data.toList) = true := by rw [ByteArray.toList_eq, HM.out, HE.out]; simp
    clear hb2 hb3 a1 b1
    go_wp2
    go_ret
    refine ⟨?_, KW.out⟩
    show Ending.returned (Value.bool (X.toList == macOf (Sha.digest a.data.toList) b.data.toList)) = _
    rw [he]
  · have h64i : ¬ (64 : Int) < (a.size : Int) := by omega
    by_cases hl : a.size < 64
    · have hli : (a.size : Int) < 64 := by omega
      have HZ := hide (mac_zero a.data.toList b.data.toList (by rw [lenL]; exact hl))
      have hal : (a ++ (⟨#[0]⟩ : ByteArray)).data.toList = a.data.toList ++ [0] := by simp
      have has : (a ++ (⟨#[0]⟩ : ByteArray)).size ≤ 281474976710656 := by rw [← lenL, hal, List.length_append, lenL]; simp; omega
      obtain ⟨Z, hZ⟩ : ∃ Z, a ++ (⟨#[0]⟩ : ByteArray) = Z := ⟨_, rfl⟩
      rw [hZ] at hal has
      have HAL := hide hal
      have HAS := hide has
      clear hal has
      go_wp2_with fail
      refine (mac_any Z b w1 HAS.out HB.out (HRW.out _ K1.out) (HFW.out _ K1.out)).mono ?_
      rintro e w2 ⟨rfl, hb2⟩
      have KW : Hid (Below w.heap.size w w2) := K1.out.trans (hb2.mono K1.out.size)
      rw [HAL.out, HZ.out]
      have he := eq_list (a := X) (b := ⟨(macOf a.data.toList b.data.toList).toArray⟩) (by apply ba_ext; rw [HM.out])
      clear hb2 a1 b1
      generalize (⟨(macOf a.data.toList b.data.toList).toArray⟩ : ByteArray) = Y at *
      go_wp2_with fail
      go_ret
      exact ⟨rfl, KW.out⟩
    · have hli : ¬ (a.size : Int) < 64 := by omega
      go_wp2_with fail
      go_ret
      exact ⟨rfl, K1.out⟩


end Go.Proofs.YthpickmiohakbaaDoor.shaw
