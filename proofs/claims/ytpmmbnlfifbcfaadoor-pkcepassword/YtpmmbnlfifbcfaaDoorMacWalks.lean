import Derived.Test.YtpmmbnlfifbcfaaDoorTakeKey2
import Derived.Deep.RegionHeld3
namespace Go.Proofs.YtpmmbnlfifbcfaaDoor.shaw
open Go.ChangeShapes Go.WideShapes Go.ChangeAt Go.RowKit Go.Proofs.YtpmmbnlfifbcfaaDoor.common
attribute [local go_sem ↓] Go.wp_at_zero Go.wp_at_succ

/-- HMAC -/
def macOf (k m : List UInt8) : List UInt8 := Sha.digest (blk (shortKey k) 0x5c ++ Sha.digest (blk (shortKey k) 0x36 ++ m))
theorem macOf_len (k m : List UInt8) : (macOf k m).length = 32 := digest_length _
theorem blk_len (k : List UInt8) (c : UInt8) : (blk (shortKey k) c).length = 64 := by unfold blk; rw [List.length_map, zpad_length _ (shortKey_length k)]

theorem short_sha (k : List UInt8) (h : 64 < k.length) : shortKey (Sha.digest k) = shortKey k := by
  have e : shortKey k = Sha.digest k := if_pos h
  rw [e]
  unfold shortKey
  rw [if_neg (by rw [digest_length]; decide)]
theorem blk_zero (k : List UInt8) (c : UInt8) (h : k.length < 64) : blk (shortKey (k ++ [0])) c = blk (shortKey k) c := by
  have e1 : shortKey k = k := if_neg (by omega)
  have e2 : shortKey (k ++ [0]) = k ++ [0] := if_neg (by simp; omega)
  rw [e1, e2]
  unfold blk zpad
  congr 1
  rw [List.length_append, List.append_assoc]
  congr 1
  rw [show 64 - k.length = (64 - (k.length + 1)) + 1 by omega, List.replicate_succ]
  rfl
theorem mac_sha (k m : List UInt8) (h : 64 < k.length) : macOf (Sha.digest k) m = macOf k m := by unfold macOf; rw [short_sha k h]
theorem mac_zero (k m : List UInt8) (h : k.length < 64) : macOf (k ++ [0]) m = macOf k m := by unfold macOf; rw [blk_zero k _ h, blk_zero k _ h]

theorem ba_ext {a b : ByteArray} (h : a.data.toList = b.data.toList) : a = b := by
  apply ByteArray.ext; apply Array.toList_inj.1; exact h
theorem eq_list {a b : ByteArray} (h : a = b) : (a.toList == b.toList) = true := by subst h; simp
theorem lenL (s : ByteArray) : s.data.toList.length = s.size := by simp
end Go.Proofs.YtpmmbnlfifbcfaaDoor.shaw
