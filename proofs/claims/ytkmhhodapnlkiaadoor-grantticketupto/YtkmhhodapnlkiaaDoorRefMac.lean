import Derived.Test.YtkmhhodapnlkiaaDoorPaddedWalks
import Derived.Test.YtkmhhodapnlkiaaDoorRefTabs
import Derived.Deep.DeepCutAuto
import Derived.Deep.RegionHeld3
namespace Go.Proofs.YtkmhhodapnlkiaaDoor.refw
open Go.ChangeShapes Go.WideShapes Go.ChangeAt Go.RowKit Go.Proofs.YtkmhhodapnlkiaaDoor.common Go.Proofs.YtkmhhodapnlkiaaDoor.shaw
attribute [local go_sem ↓] Go.wp_at_zero Go.wp_at_succ

theorem appB (a b : ByteArray) : (a ++ b).data.toList = a.data.toList ++ b.data.toList := by simp

set_option maxRecDepth 100000 in
set_option maxHeartbeats 800000 in
theorem block_any (key : ByteArray) (c : UInt8) (w : World) (hkey : key.size ≤ 562949953421312) (ht : Tabs w) :
    Calls Tryd.prog 19 #[.string key, .int .u8 (c.toNat : Int)] w fun e w' => e = .returned (.string ⟨(blk (shortKey key.data.toList) c).toArray⟩) ∧ Below w.heap.size w w' := by
  obtain ⟨i0, hi, hz0, hz1, hz2⟩ := info_parts infoB
  have HT := hide ht
  have HKEY := hide hkey
  clear ht
  go_enter Tryd.func19, Tryd.ntmps19
  go_upto_if 10 with fail
  go_cut [0] (fun k wx => (∃ t : ByteArray, k = .string t ∧ t.data.toList = shortKey key.data.toList) ∧ Below w.heap.size w wx)
  case first =>
    clear hi hz0 hz1 hz2
    by_cases h64 : 64 < key.size
    · have h64i : (64 : Int) < (key.size : Int) := by omega
      have HE : Hid (shortKey key.data.toList = Sha.digest key.data.toList) := if_pos (by rw [lenL]; exact h64)
      go_wp2_with fail
      refine (refSha_any key w HKEY.out HT.out.rr HT.out.fr).mono ?_
      rintro e w1 ⟨rfl, h1⟩
      have K1 := hide h1
      clear h1
      go_wp2_with fail
      go_meet
      case rel => exact ⟨⟨_, rfl, by rw [HE.out]⟩, K1.out⟩
    · have h64i : ¬ (64 : Int) < (key.size : Int) := by omega
      have HE : Hid (shortKey key.data.toList = key.data.toList) := if_neg (by rw [lenL]; exact h64)
      go_wp2_with fail
      go_meet
      case rel => exact ⟨⟨_, rfl, by rw [HE.out]⟩, Below.refl _ _⟩
  case rest =>
    obtain ⟨⟨s, rfl, hst⟩, hB⟩ := hcut
    have hs : s.data.toList.length ≤ 64 := by rw [hst]; exact shortKey_length _
    have HST := hide hst
    have HW0 := hide hB
    clear hst hB hkey
    go_wp2_with fail
    go_loopw [5, 6] (fun v i wr => ∃ k : Nat, k ≤ 64 ∧ i = .int .i64 k ∧ wr.ownsRow w.heap.size 5 1 v k ((padL s.data.toList c k).map B) ∧ Below w.heap.size w wr) (fun _ i _ => 64 - (intOf i).toNat)
    case atStart => exact ⟨0, Nat.zero_le _, rfl, World.ownsRow_nil _ _ _ _, HW0.out⟩
    case round =>
      obtain ⟨k, hk, rfl, hown, hnx⟩ := hrel
      have hsz := hnx.size
      by_cases hlt : k < 64
      · have hki : (k : Int) < 64 := by omega
        have hsn := hide (padL_succ s.data.toList c k hs hlt)
        have HEND : Hid (∀ (v' : Value) (w1 : World), w1.ownsRow w.heap.size 5 1 v' (k + 1) ((padL s.data.toList c k).map B ++ [B ((zpad s.data.toList).getD k 0 ^^^ c)]) → w1.ownsRow w.heap.size 5 1 v' (k + 1) ((padL s.data.toList c (k + 1)).map B)) := fun v' w1 h => by rw [hsn.out, List.map_append]; exact h
        by_cases hin : k < s.size
        · have hini : (k : Int) < (s.size : Int) := by omega
          have hz := zpad_in s k hin
          have hx := xor8 s[k] c
          rw [hz] at HEND
          generalize s[k] ^^^ c = y at *
          clear hz
          go_wp2_with (at_builtin; refine wpList_append_own _ rfl _ _ 34 rfl w.heap.size 5 i0 (.int .u8 0) 1 1 Tryd.underlying34 hi hz0 hz1 hz2 rfl (by decide) _ _ _ rfl (hown.alloc _) ⟨wr.heap.size, 0, none⟩ 1 1 [B y] rfl rfl ?c1 ?c2 ?c3 ?c4 ?c5 ?_)
          try (case c1 => exact cell_one_new _ _ _)
          case c2 => first | rfl | (intro u hu; simp at hu; subst hu; rfl)
          case c3 => unfold maxLen; omega
          case c4 => omega
          case c5 => first | omega | (simp; omega)
          intro v' w1 hown' hgrow _
          have H1 := hide (HEND.out _ _ hown')
          have H2 : Hid (Below w.heap.size w w1) := (hnx.alloc hsz _).grown hgrow (by simp; omega) (own_ge hown)
          clear hown' hgrow hown hx
          go_wp2
          go_roundw
          case rel => exact ⟨k + 1, by omega, by go_num, H1.out, H2.out⟩
          case measure => simp [intOf]; omega
        · have hini : ¬ (k : Int) < (s.size : Int) := by omega
          have hz := zpad_out s k hin
          have hx : bits .xor .u8 0 (c.toNat : Int) = ((0 ^^^ c : UInt8).toNat : Int) := xor8 0 c
          rw [hz] at HEND
          generalize (0 ^^^ c : UInt8) = y at *
          clear hz
          go_wp2_with (at_builtin; refine wpList_append_own _ rfl _ _ 34 rfl w.heap.size 5 i0 (.int .u8 0) 1 1 Tryd.underlying34 hi hz0 hz1 hz2 rfl (by decide) _ _ _ rfl (hown.alloc _) ⟨wr.heap.size, 0, none⟩ 1 1 [B y] rfl rfl ?c1 ?c2 ?c3 ?c4 ?c5 ?_)
          try (case c1 => exact cell_one_new _ _ _)
          case c2 => first | rfl | (intro u hu; simp at hu; subst hu; rfl)
          case c3 => unfold maxLen; omega
          case c4 => omega
          case c5 => first | omega | (simp; omega)
          intro v' w1 hown' hgrow _
          have H1 := hide (HEND.out _ _ hown')
          have H2 : Hid (Below w.heap.size w w1) := (hnx.alloc hsz _).grown hgrow (by simp; omega) (own_ge hown)
          clear hown' hgrow hown hx
          go_wp2
          go_roundw
          case rel => exact ⟨k + 1, by omega, by go_num, H1.out, H2.out⟩
          case measure => simp [intOf]; omega
      · obtain rfl : k = 64 := by omega
        rw [padL_all _ _ hs] at hown
        have hconv := conv_own hown (by rw [← padL_all _ _ hs, padL_len _ _ _ hs (Nat.le_refl _)])
        have H2 := hide hnx
        clear hown hnx
        go_wp2
        go_ret
        exact ⟨by rw [← HST.out]; rfl, H2.out⟩

set_option maxRecDepth 100000 in
set_option maxHeartbeats 800000 in
theorem refMac_any (k m : ByteArray) (w : World) (hk : k.size ≤ 281474976710656) (hm : m.size ≤ 281474976710656) (ht : Tabs w) :
    Calls Tryd.prog 12 #[.string k, .string m] w fun e w' => e = .returned (.string ⟨(macOf k.data.toList m.data.toList).toArray⟩) ∧ Below w.heap.size w w' := by
  have HT := hide ht
  have HK : Hid (k.size ≤ 562949953421312) := by show _ ≤ _; omega
  clear ht
  have sI : (⟨(blk (shortKey k.data.toList) 0x36).toArray⟩ : ByteArray).size = 64 := by rw [szL, blk_len]
  have sO : (⟨(blk (shortKey k.data.toList) 0x5c).toArray⟩ : ByteArray).size = 64 := by rw [szL, blk_len]
  have HIL : Hid ((⟨(blk (shortKey k.data.toList) 0x36).toArray⟩ : ByteArray).data.toList = blk (shortKey k.data.toList) 0x36) := rfl
  have HOL : Hid ((⟨(blk (shortKey k.data.toList) 0x5c).toArray⟩ : ByteArray).data.toList = blk (shortKey k.data.toList) 0x5c) := rfl
  have HI := hide (fun W h => block_any k 0x36 W HK.out h)
  have HO := hide (fun W h => block_any k 0x5c W HK.out h)
  generalize (⟨(blk (shortKey k.data.toList) 0x36).toArray⟩ : ByteArray) = BI at *
  generalize (⟨(blk (shortKey k.data.toList) 0x5c).toArray⟩ : ByteArray) = BO at *
  have hneg : ¬ (9223372036854775807 < BI.size + m.size) := by omega
  have HIS : Hid ((BI ++ m).size ≤ 562949953421312) := by show _ ≤ _; rw [ByteArray.size_append]; omega
  have SO := hide sO
  clear sI sO hk hm
  go_enter Tryd.func12, Tryd.ntmps12
  go_wp2_with fail
  refine (HI.out w HT.out).mono ?_
  rintro e w1 ⟨rfl, h1⟩
  have K1 := hide h1
  clear h1
  go_wp2_with fail
  refine (HO.out w1 (HT.out.below K1.out)).mono ?_
  rintro e w2 ⟨rfl, h2⟩
  have K2 := hide (K1.out.trans (h2.mono K1.out.size))
  clear h2 K1
  go_wp2_with fail
  refine (refSha_any (BI ++ m) w2 HIS.out (HT.out.below K2.out).rr (HT.out.below K2.out).fr).mono ?_
  rintro e w3 ⟨rfl, h3⟩
  have K3 := hide (K2.out.trans (h3.mono K2.out.size))
  clear h3 K2 hneg
  have HD : Hid (Sha.digest (BI ++ m).data.toList = Sha.digest (blk (shortKey k.data.toList) 0x36 ++ m.data.toList)) := by
    show _ = _
    rw [appB, HIL.out]
  rw [HD.out]
  have hDs : (⟨(Sha.digest (blk (shortKey k.data.toList) 0x36 ++ m.data.toList)).toArray⟩ : ByteArray).size = 32 := by rw [szL, digest_length]
  have HDL : Hid ((⟨(Sha.digest (blk (shortKey k.data.toList) 0x36 ++ m.data.toList)).toArray⟩ : ByteArray).data.toList = Sha.digest (blk (shortKey k.data.toList) 0x36 ++ m.data.toList)) := rfl
  generalize (⟨(Sha.digest (blk (shortKey k.data.toList) 0x36 ++ m.data.toList)).toArray⟩ : ByteArray) = D at *
  have hneg : ¬ (9223372036854775807 < BO.size + D.size) := by have := SO.out; omega
  have HCS : Hid ((BO ++ D).size ≤ 562949953421312) := by show _ ≤ _; rw [ByteArray.size_append]; have := SO.out; omega
  clear hDs
  go_wp2_with fail
  refine (refSha_any (BO ++ D) w3 HCS.out (HT.out.below K3.out).rr (HT.out.below K3.out).fr).mono ?_
  rintro e w4 ⟨rfl, h4⟩
  have K4 := hide (K3.out.trans (h4.mono K3.out.size))
  clear h4 K3 hneg
  have HM : Hid (Sha.digest (BO ++ D).data.toList = macOf k.data.toList m.data.toList) := by
    show _ = _
    rw [appB, HOL.out, HDL.out]; rfl
  rw [HM.out]
  go_wp2_with fail
  go_ret
  exact ⟨rfl, K4.out⟩

end Go.Proofs.YtkmhhodapnlkiaaDoor.refw
