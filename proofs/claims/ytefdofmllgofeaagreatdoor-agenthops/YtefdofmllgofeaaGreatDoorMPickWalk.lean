import Derived.Test.YtefdofmllgofeaaGreatDoorRows
import Derived.Test.YtefdofmllgofeaaGreatDoorMRanges
import Derived.WalkKit
import Derived.WalkSpells
import Derived.WalkLawsBesides
import Derived.Outline
import Derived.Maps.AppendAt
namespace Go.Proofs.YtefdofmllgofeaaGreatDoor.kitw
open Go.ChangeShapes Go.WideShapes Go.ChangeAt Go.RowKit Go.Proofs.YtefdofmllgofeaaGreatDoor.common

abbrev B (c : UInt8) : Value := .int .u8 (c.toNat : Int)

theorem pick_mod (k n : Int) (hn : 1 ≤ n) : (if k.tmod n < 0 then k.tmod n + n else k.tmod n) = k % n := by
  have h1 := Int.emod_nonneg k (show n ≠ 0 by omega)
  have h2 := Int.emod_lt_of_pos k (show 0 < n by omega)
  rw [Int.tmod_eq_emod]
  by_cases hk : 0 ≤ k ∨ n ∣ k
  · rw [if_pos hk]; split <;> omega
  · rw [if_neg hk]
    have : (n.natAbs : Int) = n := by omega
    have h3 : k % n ≠ 0 := by
      intro h0; exact hk (Or.inr (Int.dvd_of_emod_eq_zero h0))
    split <;> omega

/-- a number from 0 to n - 1 -/
def pick (k n : Int) : Int := if n < 1 then 0 else k % n

theorem pick_bounds (k n : Int) : 0 ≤ pick k n ∧ (1 ≤ n → pick k n < n) := by
  unfold pick
  split
  · exact ⟨by omega, fun h => by omega⟩
  · exact ⟨Int.emod_nonneg k (by omega), fun _ => Int.emod_lt_of_pos k (by omega)⟩

theorem tmod_bounds (k n : Int) (hn : 1 ≤ n) : -n ≤ k.tmod n ∧ k.tmod n < n := by
  have h := pick_mod k n hn
  have h1 := Int.emod_nonneg k (show n ≠ 0 by omega)
  have h2 := Int.emod_lt_of_pos k (show 0 < n by omega)
  split at h <;> omega

set_option maxHeartbeats 400000 in
theorem pick_all (k n : Int) (w : World) (hn : n ≤ 4611686018427387904) (hn0 : -4611686018427387904 ≤ n) :
    Calls Tryz.prog 7 #[.int .i64 k, .int .i64 n] w fun e w' => e = .returned (.int .i64 (pick k n)) ∧ w' = w := by
  by_cases h1 : n < 1
  · have hp : Hid (pick k n = 0) := by show pick k n = 0; unfold pick; rw [if_pos h1]
    go_enter Tryz.func7, Tryz.ntmps7
    go_wp2
    go_ret
    rw [hp.out]
    exact ⟨rfl, rfl⟩
  · have hb := tmod_bounds k n (by omega)
    have hm := pick_mod k n (by omega)
    have hp : pick k n = k % n := by unfold pick; rw [if_neg h1]
    rw [← hm] at hp
    by_cases h2 : k.tmod n < 0
    · rw [if_pos h2] at hp
      have HP := hide hp
      clear hp hm
      go_enter Tryz.func7, Tryz.ntmps7
      go_wp2
      go_ret
      rw [HP.out]
      exact ⟨rfl, rfl⟩
    · rw [if_neg h2] at hp
      have HP := hide hp
      clear hp hm
      go_enter Tryz.func7, Tryz.ntmps7
      go_wp2
      go_ret
      rw [HP.out]
      exact ⟨rfl, rfl⟩

theorem pick_any (k n : Int) (w : World) (hn : n ≤ 4611686018427387904) (hn0 : -4611686018427387904 ≤ n) (_hk0 : -9223372036854775808 ≤ k) (_hk1 : k ≤ 9223372036854775807) :
    Calls Tryz.prog 7 #[.int .i64 k, .int .i64 n] w fun e w' => e = .returned (.int .i64 (pick k n)) ∧ w' = w := pick_all k n w hn hn0

end Go.Proofs.YtefdofmllgofeaaGreatDoor.kitw
