import Derived.Test.YtmdjppjfjkgnpaaGreatDoorListKit
namespace Go.Proofs.YtmdjppjfjkgnpaaGreatDoor.lst
open Go.ChangeShapes Go.WideShapes Go.ChangeAt Go.RowKit Go.Proofs.YtmdjppjfjkgnpaaGreatDoor.common
attribute [local go_sem ↓] Go.wp_at_zero Go.wp_at_succ

set_option maxRecDepth 100000 in
set_option maxHeartbeats 1600000 in
theorem same_any (va vb : Value) (l : List PB) (w : World) (ha : Lies w va l) (hb : Lies w vb l) (hs : l.length ≤ 4611686018427387904) :
    Calls Tryz.prog 8 #[va, vb] w fun e w' => e = .returned (.bool true) ∧ Below w.heap.size w w' := by
  obtain ⟨oa, ca, rfl, hca⟩ := ha
  obtain ⟨ob, cb, rfl, hcb⟩ := hb
  have HA := hide hca
  have HB := hide hcb
  clear hca hcb
  go_enter Tryz.func8, Tryz.ntmps8
  go_wp2_with fail
  go_loopw [5] (fun i wr => ∃ k : Nat, k ≤ l.length ∧ i = .int .i64 k ∧ Below w.heap.size w wr) (fun i _ => l.length - (intOf i).toNat)
  case atStart => exact ⟨0, Nat.zero_le _, rfl, Below.refl _ _⟩
  case round =>
    obtain ⟨k, hk, rfl, hnx⟩ := hrel
    by_cases hlt : k < l.length
    · have hki : (k : Int) < (l.length : Int) := by omega
      obtain ⟨b, o, rfl, hb, c0, c1⟩ := HA.out k hlt
      obtain ⟨b', o', rfl, hb', c0', c1'⟩ := HB.out k hlt
      have d0 := (hnx.cell (p := ⟨b, o + k * 2, none⟩) hb).trans c0
      have d1 := (hnx.cell (p := ⟨b, o + k * 2 + 1, none⟩) hb).trans c1
      have d0' := (hnx.cell (p := ⟨b', o' + k * 2, none⟩) hb').trans c0'
      have d1' := (hnx.cell (p := ⟨b', o' + k * 2 + 1, none⟩) hb').trans c1'
      have HX := hide hnx
      clear hnx c0 c1 c0' c1'
      generalize l[k] = p at *
      have k0 : (0 : Int) ≤ (k : Int) := Int.natCast_nonneg _
      go_wp2_with fail
      go_region_held3 (fun W => W.cell? ⟨b, o + k * 2, none⟩ = some (.string p.1) ∧ W.cell? ⟨b, o + k * 2 + 1, none⟩ = some (.string p.2) ∧ W.cell? ⟨b', o' + k * 2, none⟩ = some (.string p.1) ∧ W.cell? ⟨b', o' + k * 2 + 1, none⟩ = some (.string p.2)) (go_keep) (fail)
      all_goals
        go_wp2_with fail
        go_roundw
        case rel => exact ⟨k + 1, by omega, by go_num, HX.out.drew⟩
        case measure => simp [intOf]; omega
    · obtain rfl : k = l.length := by omega
      have H2 := hide hnx
      clear hnx
      go_wp2_with fail
      go_ret
      exact ⟨rfl, H2.out⟩

end Go.Proofs.YtmdjppjfjkgnpaaGreatDoor.lst
