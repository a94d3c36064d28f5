import Derived.Test.YtpmmbnlfifbcfaaDoorRefMac
import Derived.Test.YtpmmbnlfifbcfaaDoorStretchWalks
import Derived.Deep.AppendLies
namespace Go.Proofs.YtpmmbnlfifbcfaaDoor.refw
open Go.ChangeShapes Go.WideShapes Go.ChangeAt Go.RowKit Go.Proofs.YtpmmbnlfifbcfaaDoor.common Go.Proofs.YtpmmbnlfifbcfaaDoor.shaw
attribute [local go_sem ↓] Go.wp_at_zero Go.wp_at_succ

theorem xorL_snoc (a b : ByteArray) (k : Nat) (ha : k < a.size) (hb : k < b.size) :
    xorL (a.data.toList.take (k + 1)) (b.data.toList.take (k + 1)) = xorL (a.data.toList.take k) (b.data.toList.take k) ++ [a[k] ^^^ b[k]] := by
  rw [common.take_snoc a k ha, common.take_snoc b k hb]
  unfold xorL
  rw [List.zipWith_append (by simp; omega)]
  rfl

set_option maxRecDepth 100000 in
set_option maxHeartbeats 800000 in
theorem xored_any (a b : ByteArray) (w : World) (ha : a.size = 32) (hb : b.size = 32) :
    Calls Tryd.prog 18 #[.string a, .string b] w fun e w' => e = .returned (.string ⟨(xorL a.data.toList b.data.toList).toArray⟩) ∧ Below w.heap.size w w' := by
  obtain ⟨i0, hi, hz0, hz1, hz2⟩ := info_parts infoB
  go_enter Tryd.func18, Tryd.ntmps18
  go_wp2_with fail
  go_loopw [5, 6] (fun v i wr => ∃ k : Nat, k ≤ 32 ∧ i = .int .i64 k ∧ wr.ownsRow w.heap.size 5 1 v k ((xorL (a.data.toList.take k) (b.data.toList.take k)).map B) ∧ Below w.heap.size w wr) (fun _ i _ => 32 - (intOf i).toNat)
  case atStart => exact ⟨0, Nat.zero_le _, rfl, World.ownsRow_nil _ _ _ _, Below.refl _ _⟩
  case round =>
    obtain ⟨k, hk, rfl, hown, hnx⟩ := hrel
    have hsz := hnx.size
    by_cases hlt : k < 32
    · have hka : k < a.size := by omega
      have hkb : k < b.size := by omega
      have k0 : (0 : Int) ≤ (k : Int) := Int.natCast_nonneg _
      have ka : (k : Int) < (a.size : Int) := by omega
      have kb : (k : Int) < (b.size : Int) := by omega
      have hsn := hide (xorL_snoc a b k hka hkb)
      have hx := xor8 a[k] b[k]
      generalize a[k] ^^^ b[k] = y at *
      have HX := hide hnx
      clear hnx
      go_wp2_with fail
      go_region_held3 (fun _ => True) (first | trivial | go_keep)
        ((refine step_append_lies _ (by rfl) _ _ _ (by rfl) w.heap.size 5 i0 _ 1 1 Tryd.underlying54 hi hz0 hz1 hz2 rfl (by omega) u5 k _ (by rfl) ((hown.alloc _).drew)
            ⟨wr.heap.size, 0, none⟩ 1 1 [B y] (by rfl) (by rfl) (World.news_of_block (cs := #[B y]) (t := 5) (fr := (0, 0)) (heap_alloc_new wr _)) (by simp [Value.oneCell'])
            (by omega) (by unfold maxLen; omega) (by omega) (by simp; omega) (wr.heap.size + 1) (by simp) ?_; intro gg cap w1 hown1 hgrow hat hlt2))
      all_goals
        have R1 : Hid (w1.ownsRow w.heap.size 5 1 (.slice (some ⟨gg, 0, none⟩) (k + 1) cap) (k + 1) ((xorL (a.data.toList.take (k + 1)) (b.data.toList.take (k + 1))).map B)) := by
          show w1.ownsRow _ _ _ _ _ _
          rw [hsn.out, List.map_append]
          exact hown1
        have R2 : Hid (Below w.heap.size w w1) := ((HX.out.alloc hsz _).drew).grown hgrow (by simp; omega) (own_ge hown)
        clear hown hown1 hgrow hat hlt2 hx
        go_wp2
        go_roundw
        case rel => exact ⟨k + 1, by omega, by go_num, R1.out, R2.out⟩
        case measure => simp [intOf]; omega
    · obtain rfl : k = 32 := by omega
      have ka : ¬ ((32 : Int) < (a.size : Int)) := by omega
      rw [List.take_of_length_le (by rw [lenL]; omega), List.take_of_length_le (by rw [lenL]; omega)] at hown
      have hconv := conv_own hown (xorL_len _ _ 32 (by rw [lenL]; exact ha) (by rw [lenL]; exact hb))
      have H2 := hide hnx
      clear hown hnx
      go_wp2
      go_ret
      exact ⟨rfl, H2.out⟩

set_option maxRecDepth 100000 in
set_option maxHeartbeats 400000 in
theorem refStretch_bad (p s : ByteArray) (n : Int) (w : World) (hn : ¬ (1 ≤ n ∧ n ≤ 1000)) :
    Calls Tryd.prog 13 #[.string p, .string s, .int .i64 n] w fun x w' => x = .returned (.tuple #[.string ⟨#[]⟩, .int .i64 1]) ∧ Below w.heap.size w w' := by
  by_cases h1 : n < 1
  · go_enter Tryd.func13, Tryd.ntmps13
    go_wp2
    go_ret2
    exact ⟨rfl, Below.refl _ _⟩
  · have h2 : 1000 < n := by omega
    go_enter Tryd.func13, Tryd.ntmps13
    go_wp2
    go_ret2
    exact ⟨rfl, Below.refl _ _⟩

set_option maxRecDepth 100000 in
set_option maxHeartbeats 800000 in
theorem refStretch_good (p s : ByteArray) (m : Nat) (w : World) (hm : m ≤ 999) (hp : p.size ≤ 281474976710656) (hs : s.size ≤ 140737488351232) (ht : Tabs w) :
    Calls Tryd.prog 13 #[.string p, .string s, .int .i64 ((m : Int) + 1)] w fun x w' => x = .returned (.tuple #[.string ⟨(foldOf p.data.toList s.data.toList m).toArray⟩, .int .i64 0]) ∧ Below w.heap.size w w' := by
  have HT := hide ht
  have HP := hide hp
  have hneg : ¬ (9223372036854775807 < s.size + 4) := by omega
  have hS4 : (s ++ (⟨#[0, 0, 0, 1]⟩ : ByteArray)).size ≤ 281474976710656 := by rw [ByteArray.size_append]; show s.size + 4 ≤ _; omega
  have hSL : (s ++ (⟨#[0, 0, 0, 1]⟩ : ByteArray)).data.toList = s.data.toList ++ [0, 0, 0, 1] := by simp
  obtain ⟨S4, hZ⟩ : ∃ Z, s ++ (⟨#[0, 0, 0, 1]⟩ : ByteArray) = Z := ⟨_, rfl⟩
  rw [hZ] at hS4 hSL
  have HS4 := hide hS4
  have HSL := hide hSL
  clear hS4 hSL ht hp
  go_enter Tryd.func13, Tryd.ntmps13
  go_wp2_with fail
  refine (refMac_any p S4 w HP.out HS4.out HT.out).mono ?_
  rintro x w1 ⟨rfl, hb1⟩
  have HL0 : Hid (macOf p.data.toList S4.data.toList = linkOf p.data.toList s.data.toList 0) := by
    show _ = _
    rw [HSL.out]; rfl
  rw [HL0.out]
  have HB1 := hide hb1
  clear hb1 hneg hZ
  have hLl : (⟨(linkOf p.data.toList s.data.toList 0).toArray⟩ : ByteArray).data.toList = linkOf p.data.toList s.data.toList 0 := rfl
  have HLL := hide hLl
  generalize (⟨(linkOf p.data.toList s.data.toList 0).toArray⟩ : ByteArray) = L0 at *
  clear hLl
  go_wp2_with fail
  go_loopw [8, 9, 10] (fun u v i wr => ∃ k : Nat, k ≤ m ∧ i = .int .i64 ((k : Int) + 1) ∧ (∃ L : ByteArray, u = .string L ∧ L.data.toList = linkOf p.data.toList s.data.toList k) ∧ (∃ F : ByteArray, v = .string F ∧ F.data.toList = foldOf p.data.toList s.data.toList k) ∧ Below w.heap.size w wr) (fun _ _ i _ => m + 1 - (intOf i).toNat)
  case atStart => exact ⟨0, Nat.zero_le _, rfl, ⟨L0, rfl, HLL.out⟩, ⟨L0, rfl, HLL.out⟩, HB1.out⟩
  case round =>
    obtain ⟨k, hk, rfl, ⟨L, rfl, hL⟩, ⟨F, rfl, hF⟩, hB⟩ := hrel
    have HB := hide hB
    have HLk := hide hL
    have HFk := hide hF
    clear hB hL hF
    by_cases hlt : k < m
    · have hki : (k : Int) + 1 < (m : Int) + 1 := by omega
      have HLs : Hid (L.size ≤ 281474976710656) := by show _ ≤ _; rw [← lenL, HLk.out, linkOf_len]; decide
      go_wp2_with fail
      refine (refMac_any p L wr HP.out HLs.out (HT.out.below HB.out)).mono ?_
      rintro x w2 ⟨rfl, hb2⟩
      have HN : Hid (macOf p.data.toList L.data.toList = linkOf p.data.toList s.data.toList (k + 1)) := by
        show _ = _
        rw [HLk.out]; rfl
      rw [HN.out]
      have HB2 := hide (HB.out.trans (hb2.mono HB.out.size))
      clear hb2
      have hNl : (⟨(linkOf p.data.toList s.data.toList (k + 1)).toArray⟩ : ByteArray).data.toList = linkOf p.data.toList s.data.toList (k + 1) := rfl
      have HNl := hide hNl
      generalize (⟨(linkOf p.data.toList s.data.toList (k + 1)).toArray⟩ : ByteArray) = N at *
      clear hNl
      go_wp2_with fail
      refine (xored_any F N w2 (by rw [← lenL, HFk.out, foldOf_len]) (by rw [← lenL, HNl.out, linkOf_len])).mono ?_
      rintro x w3 ⟨rfl, hb3⟩
      have HB3 := hide (HB2.out.trans (hb3.mono HB2.out.size))
      have HFN : Hid (xorL F.data.toList N.data.toList = foldOf p.data.toList s.data.toList (k + 1)) := by
        show _ = _
        rw [HFk.out, HNl.out]; rfl
      rw [HFN.out]
      clear hb3
      go_wp2_with fail
      go_roundw
      case rel => exact ⟨k + 1, by omega, by go_num, ⟨N, rfl, HNl.out⟩, ⟨_, rfl, rfl⟩, HB3.out⟩
      case measure => simp [intOf]; omega
    · obtain rfl : k = m := by omega
      have hki : ¬ (k : Int) + 1 < (k : Int) + 1 := by omega
      have HE : Hid (F = ⟨(foldOf p.data.toList s.data.toList k).toArray⟩) := by
        show _ = _
        rw [← HFk.out]
      go_wp2_with fail
      go_ret2
      exact ⟨by rw [← HE.out]; rfl, HB.out⟩

end Go.Proofs.YtpmmbnlfifbcfaaDoor.refw
