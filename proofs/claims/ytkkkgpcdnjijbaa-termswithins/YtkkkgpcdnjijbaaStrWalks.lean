import Derived.Test.YtkkkgpcdnjijbaaStrKit
namespace Go.Proofs.Ytkkkgpcdnjijbaa.ss
open Go.ChangeShapes Go.WideShapes Go.ChangeAt Go.RowKit Go.Proofs.Ytkkkgpcdnjijbaa.common Go.Proofs.Ytkkkgpcdnjijbaa.bk
attribute [local go_sem ↓] Go.wp_at_zero Go.wp_at_succ

set_option maxRecDepth 100000 in
set_option maxHeartbeats 1600000 in
theorem same_any (va vb : Value) (l : List ByteArray) (w : World) (ha : Lies w va l) (hb : Lies w vb l) (hs : l.length ≤ 4611686018427387904) :
    Calls Try.prog 30 #[va, vb] w fun e w' => e = .returned (.bool true) ∧ Below w.heap.size w w' := by
  obtain ⟨oa, ca, rfl, hca⟩ := ha
  obtain ⟨ob, cb, rfl, hcb⟩ := hb
  have HA := hide hca
  have HB := hide hcb
  clear hca hcb
  go_enter Try.func30, Try.ntmps30
  go_wp2_with fail
  go_loopw [5] (fun i wr => ∃ k : Nat, k ≤ l.length ∧ i = .int .i64 k ∧ Below w.heap.size w wr) (fun i _ => l.length - (intOf i).toNat)
  case atStart => exact ⟨0, Nat.zero_le _, rfl, Below.refl _ _⟩
  case round =>
    obtain ⟨k, hk, rfl, hnx⟩ := hrel
    by_cases hlt : k < l.length
    · have hki : (k : Int) < (l.length : Int) := by omega
      obtain ⟨b, o, rfl, hb, c0⟩ := HA.out k hlt
      obtain ⟨b', o', rfl, hb', c0'⟩ := HB.out k hlt
      have d0 := (hnx.cell (p := ⟨b, o + k, none⟩) hb).trans c0
      have d0' := (hnx.cell (p := ⟨b', o' + k, none⟩) hb').trans c0'
      have HX := hide hnx
      clear hnx c0 c0'
      generalize l[k] = p at *
      have k0 : (0 : Int) ≤ (k : Int) := Int.natCast_nonneg _
      go_wp2_with fail
      go_region_held3 (fun W => W.cell? ⟨b, o + k, none⟩ = some (.string p) ∧ W.cell? ⟨b', o' + k, none⟩ = some (.string p)) (go_keep) (fail)
      all_goals
        go_wp2_with fail
        go_roundw
        case rel => exact ⟨k + 1, by omega, by go_num, HX.out.drew⟩
        case measure => simp [intOf]; omega
    · obtain rfl : k = l.length := by omega
      have H2 := hide hnx
      clear hnx
      go_wp2_with fail
      go_ret
      exact ⟨rfl, H2.out⟩

set_option maxRecDepth 100000 in
set_option maxHeartbeats 3200000 in
theorem kept_any (g cap : Nat) (v : Value) (l : List ByteArray) (w : World) (hr : Row w g (l ++ [bh, bh])) (hg : g < w.heap.size) (hv : Lies w v l) (hcap : l.length + 2 ≤ cap) (hs : l.length ≤ 4611686018427387000) :
    Calls Try.prog 18 #[.slice (some ⟨g, 0, none⟩) (l.length + 2) cap, v] w fun e w' => e = .returned (.bool true) ∧ Below w.heap.size w w' := by
  have HV := hide hv
  obtain ⟨ov, cv, rfl, _⟩ := hv
  have HG := hide hg
  have HLI : Hid (Lies w (.slice (some ⟨g, 0, none⟩) l.length cap) l) := hr.head hg cap
  have l1 : l.length < (l ++ [bh, bh]).length := by simp
  have l2 : l.length + 1 < (l ++ [bh, bh]).length := by simp
  have c0 : Hid (w.cell? ⟨g, l.length, none⟩ = some (.string bh)) := by show _ = _; rw [hr.cell _ l1]; simp
  have c1 : Hid (w.cell? ⟨g, l.length + 1, none⟩ = some (.string bh)) := by show _ = _; rw [hr.cell _ l2]; simp
  clear hr hg l1 l2
  have HS := hide (fun W (h1 : Lies W (.slice (some ⟨g, 0, none⟩) l.length cap) l) (h2 : Lies W (.slice ov l.length cv) l) => same_any _ _ l W h1 h2 (by omega))
  go_enter Try.func18, Try.ntmps18
  have ww1 : IntKind.i64.wrap ((l.length : Int) + 1) = (l.length : Int) + 1 := wrap_le _ (by omega) (by omega)
  have ww2 : IntKind.i64.wrap ((l.length : Int) + 2) = (l.length : Int) + 2 := wrap_le _ (by omega) (by omega)
  have n1 : ((l.length : Int) + 1).toNat = l.length + 1 := by omega
  have k0 : (0 : Int) ≤ (l.length : Int) := Int.natCast_nonneg _
  have k1 : (0 : Int) ≤ (l.length : Int) + 1 := by omega
  have k2 : (l.length : Int) < (l.length : Int) + 2 := by omega
  have k3 : (l.length : Int) + 1 < (l.length : Int) + 2 := by omega
  have k4 : (l.length : Int) ≤ (cap : Int) := by omega
  have k5 : l.length ≤ cap := by omega
  have hbh : (bh.toList == [98, 101, 104, 105, 110, 100]) = true := by rw [ByteArray.toList_eq]; rfl
  go_wp2_with fail
  refine (HS.out _ (by first | exact HLI.out | exact HLI.out.below (Below.refl _ _).drew) (by first | exact HV.out | exact HV.out.below (Below.refl _ _).drew)).mono ?_
  rintro e w2 ⟨rfl, hb2⟩
  have e0 : w2.cell? ⟨g, l.length, none⟩ = some (.string bh) := (hb2.cell (p := ⟨g, l.length, none⟩) HG.out).trans c0.out
  have e1 : w2.cell? ⟨g, l.length + 1, none⟩ = some (.string bh) := (hb2.cell (p := ⟨g, l.length + 1, none⟩) HG.out).trans c1.out
  have HB := hide hb2
  clear hb2
  go_wp2_with fail
  go_ret
  exact ⟨rfl, HB.out⟩

end Go.Proofs.Ytkkkgpcdnjijbaa.ss
