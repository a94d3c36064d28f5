import Derived.Test.YthpickmiohakbaaDoorRefTabs
import Derived.Test.YthpickmiohakbaaDoorKitWalks
import Derived.Deep.DeepCutAuto
import Derived.Deep.RegionHeld3
namespace Go.Proofs.YthpickmiohakbaaDoor.refw
open Go.ChangeShapes Go.WideShapes Go.ChangeAt Go.RowKit Go.Proofs.YthpickmiohakbaaDoor.common Go.Proofs.YthpickmiohakbaaDoor.shaw
attribute [local go_sem ↓] Go.wp_at_zero Go.wp_at_succ

set_option maxRecDepth 100000 in
set_option maxHeartbeats 800000 in
theorem sumIs_any (b : Nat) (s : ByteArray) (n : Nat) (w : World) (hs : s.size ≤ 562949953421312) (hn : n ≤ 1000) (hH : HashOf w b 0 s.data.toList) (ht : Tabs w) :
    Calls Tryd.prog 15 #[.pointer (some ⟨b, 0, none⟩), .string s, .int .i64 (n : Int)] w fun e w' => e = .returned (.bool true) ∧ Below w.heap.size w w' := by
  have HT := hide ht
  have HS := hide hs
  have HH := hide hH
  clear ht hs hH
  have hl : s.data.toList.length = s.size := by simp
  have HS2 : Hid (s.data.toList.length ≤ 562949953421312) := by show _ ≤ _; rw [hl]; exact HS.out
  clear hl
  obtain ⟨D, hD⟩ : ∃ D : ByteArray, ⟨(Sha.digest s.data.toList).toArray⟩ = D := ⟨_, rfl⟩
  have HD := hide hD
  clear hD
  go_enter Tryd.func15, Tryd.ntmps15
  go_wp2_with fail
  refine (refSha_any s w HS.out HT.out.rr HT.out.fr).mono ?_
  rintro e w1 ⟨rfl, h1⟩
  rw [HD.out]
  have K1 := hide h1
  clear h1
  go_wp2_with fail
  go_loopw [8] (fun i wr => ∃ k : Nat, k ≤ n ∧ i = .int .i64 k ∧ Below w.heap.size w wr) (fun i _ => n - (intOf i).toNat)
  case atStart => exact ⟨0, Nat.zero_le _, rfl, K1.out⟩
  case round =>
    obtain ⟨k, hk, rfl, hB⟩ := hrel
    have HB := hide hB
    clear hB
    by_cases hlt : k < n
    · have hki : (k : Int) < (n : Int) := by omega
      go_wp2_with fail
      refine (sum_any b 0 s.data.toList wr HS2.out (HH.out.below HB.out) (HT.out.below HB.out).rw).mono ?_
      rintro e w2 ⟨rfl, h2⟩
      rw [HD.out]
      have K2 := hide (HB.out.trans (h2.mono HB.out.size))
      clear h2
      go_wp2_with fail
      go_roundw
      case rel => exact ⟨k + 1, by omega, by go_num, K2.out⟩
      case measure => simp [intOf]; omega
    · obtain rfl : k = n := by omega
      go_wp2
      go_ret
      exact ⟨rfl, HB.out⟩

end Go.Proofs.YthpickmiohakbaaDoor.refw
