import Derived.Test.YtkmhhodapnlkiaaDoorTakeKey2
import Derived.Deep.RegionHeld3
namespace Go.Proofs.YtkmhhodapnlkiaaDoor.shaw
open Go.ChangeShapes Go.WideShapes Go.ChangeAt Go.RowKit Go.Proofs.YtkmhhodapnlkiaaDoor.common
attribute [local go_sem ↓] Go.wp_at_zero Go.wp_at_succ

/-- HMAC -/
def macOf (k m : List UInt8) : List UInt8 := Sha.digest (blk (shortKey k) 0x5c ++ Sha.digest (blk (shortKey k) 0x36 ++ m))
theorem macOf_len (k m : List UInt8) : (macOf k m).length = 32 := digest_length _
theorem blk_len (k : List UInt8) (c : UInt8) : (blk (shortKey k) c).length = 64 := by unfold blk; rw [List.length_map, zpad_length _ (shortKey_length k)]

theorem mac_any (k m : ByteArray) (w : World) (hk : k.size ≤ 281474976710656) (hm : m.size ≤ 281474976710656) (hr : RW w) (hf : FW w) :
    Calls Tryd.prog 9 #[.string k, .string m] w fun e w' => e = .returned (.string ⟨(macOf k.data.toList m.data.toList).toArray⟩) ∧ Below w.heap.size w w' := by
  have HK := hide hk
  have HM := hide hm
  have HR := hide hr
  have HF := hide hf
  clear hk hm hr hf
  go_enter Tryd.func9, Tryd.ntmps9
  go_wp2_with fail
  refine (takeKey_any k w (by have := HK.out; omega) HR.out HF.out).mono ?_
  rintro e w1 ⟨cs, rfl, hkv, hb⟩
  have HKV := hide hkv
  have HB := hide hb
  clear hkv hb
  go_wp2_with fail
  refine (sign_any cs _ _ m w1 (by rw [blk_len]; have := HM.out; omega) (by rw [blk_len]; decide) HKV.out (HR.out.below HB.out HR.out.lt)).mono ?_
  rintro e w2 ⟨rfl, hb2⟩
  have HB2 := hide (HB.out.trans (hb2.mono HB.out.size))
  clear hb2
  go_wp2_with fail
  go_ret
  exact ⟨rfl, HB2.out⟩

theorem short_sha (k : List UInt8) (h : 64 < k.length) : shortKey (Sha.digest k) = shortKey k := by
  have e : shortKey k = Sha.digest k := if_pos h
  rw [e]
  unfold shortKey
  rw [if_neg (by rw [digest_length]; decide)]
theorem blk_zero (k : List UInt8) (c : UInt8) (h : k.length < 64) : blk (shortKey (k ++ [0])) c = blk (shortKey k) c := by
  have e1 : shortKey k = k := if_neg (by omega)
  have e2 : shortKey (k ++ [0]) = k ++ [0] := if_neg (by simp; omega)
  rw [e1, e2]
  unfold blk zpad
  congr 1
  rw [List.length_append, List.append_assoc]
  congr 1
  rw [show 64 - k.length = (64 - (k.length + 1)) + 1 by omega, List.replicate_succ]
  rfl
theorem mac_sha (k m : List UInt8) (h : 64 < k.length) : macOf (Sha.digest k) m = macOf k m := by unfold macOf; rw [short_sha k h]
theorem mac_zero (k m : List UInt8) (h : k.length < 64) : macOf (k ++ [0]) m = macOf k m := by unfold macOf; rw [blk_zero k _ h, blk_zero k _ h]

theorem ba_ext {a b : ByteArray} (h : a.data.toList = b.data.toList) : a = b := by
  apply ByteArray.ext; apply Array.toList_inj.1; exact h
theorem eq_list {a b : ByteArray} (h : a = b) : (a.toList == b.toList) = true := by subst h; simp
theorem lenL (s : ByteArray) : s.data.toList.length = s.size := by simp
end Go.Proofs.YtkmhhodapnlkiaaDoor.shaw
