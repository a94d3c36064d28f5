import Derived.Test.YtkkgngmhdlmgnaaDoorMList
import Derived.Deep.RegionHeld3
import Derived.Deep.QuietTactic
import Derived.BigQuiet
namespace Go.Proofs.YtkkgngmhdlmgnaaDoor.jw
open Go.ChangeShapes Go.WideShapes Go.ChangeAt Go.RowKit Go.Proofs.YtkkgngmhdlmgnaaDoor.common
attribute [local go_sem ↓] Go.wp_at_zero Go.wp_at_succ

set_option maxRecDepth 100000 in
set_option maxHeartbeats 3200000 in
theorem sameM_any (va vb : Value) (l : List Mem) (w : World) (ha : Lies w va l) (hb : Lies w vb l) (hs : l.length ≤ 4611686018427387904) :
    Calls Tryd.prog 8 #[va, vb] w fun e w' => e = .returned (.bool true) ∧ Below w.heap.size w w' := by
  obtain ⟨oa, ca, rfl, _, hca⟩ := ha
  obtain ⟨ob, cb, rfl, _, hcb⟩ := hb
  have HA := hide hca
  have HB := hide hcb
  clear hca hcb
  go_enter Tryd.func8, Tryd.ntmps8
  go_wp2_with fail
  go_loopw [5] (fun i wr => ∃ k : Nat, k ≤ l.length ∧ i = .int .i64 k ∧ Below w.heap.size w wr) (fun i _ => l.length - (intOf i).toNat)
  case atStart => exact ⟨0, Nat.zero_le _, rfl, Below.refl _ _⟩
  case round =>
    obtain ⟨k, hk, rfl, hnx⟩ := hrel
    by_cases hlt : k < l.length
    · have hki : (k : Int) < (l.length : Int) := by omega
      obtain ⟨b, o, rfl, hb, hA⟩ := HA.out k hlt
      obtain ⟨b', o', rfl, hb', hB⟩ := HB.out k hlt
      have hA2 := hA.below hnx hb
      have hB2 := hB.below hnx hb'
      have a0 := hA2.c0
      have a1 := hA2.c1
      have a2 := hA2.c2
      have a3 := hA2.c3
      have a4 := hA2.c4
      have b0 := hB2.c0
      have b1 := hB2.c1
      have b2 := hB2.c2
      have b3 := hB2.c3
      have b4 := hB2.c4
      have HX := hide hnx
      clear hnx hA hB hA2 hB2
      generalize l[k] = p at *
      have k0 : (0 : Int) ≤ (k : Int) := Int.natCast_nonneg _
      go_wp2_with fail
      go_region_held3 (fun W => W.cell? ⟨b, o + k * 5, none⟩ = some (S p.name) ∧ W.cell? ⟨b, o + k * 5 + 1, none⟩ = some (.int .i64 p.kind) ∧ W.cell? ⟨b, o + k * 5 + 2, none⟩ = some (S p.text) ∧ W.cell? ⟨b, o + k * 5 + 3, none⟩ = some (.int .i64 p.num) ∧ W.cell? ⟨b, o + k * 5 + 4, none⟩ = some (.bool p.flag) ∧ W.cell? ⟨b', o' + k * 5, none⟩ = some (S p.name) ∧ W.cell? ⟨b', o' + k * 5 + 1, none⟩ = some (.int .i64 p.kind) ∧ W.cell? ⟨b', o' + k * 5 + 2, none⟩ = some (S p.text) ∧ W.cell? ⟨b', o' + k * 5 + 3, none⟩ = some (.int .i64 p.num) ∧ W.cell? ⟨b', o' + k * 5 + 4, none⟩ = some (.bool p.flag)) (go_keep) (fail)
      all_goals
        go_wp2_with fail
        go_roundw
        case rel => exact ⟨k + 1, by omega, by go_num, HX.out.drew⟩
        case measure => simp [intOf]; omega
    · obtain rfl : k = l.length := by omega
      have H2 := hide hnx
      clear hnx
      go_wp2_with fail
      go_ret
      exact ⟨rfl, H2.out⟩
end Go.Proofs.YtkkgngmhdlmgnaaDoor.jw
