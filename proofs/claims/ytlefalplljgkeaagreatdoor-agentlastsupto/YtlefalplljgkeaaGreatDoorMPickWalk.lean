import Derived.Test.YtlefalplljgkeaaGreatDoorMAgVis
import Derived.Test.YtlefalplljgkeaaGreatDoorMAgStay
import Derived.Test.YtlefalplljgkeaaGreatDoorMAgWord2
import Derived.Test.YtlefalplljgkeaaGreatDoorMAgCrumb
import Derived.Test.YtlefalplljgkeaaGreatDoorRows
import Derived.Test.YtlefalplljgkeaaGreatDoorMRanges
import Derived.WalkKit
import Derived.WalkSpells
import Derived.WalkLawsBesides
import Derived.Outline
import Derived.Maps.AppendAt
namespace Go.Proofs.YtlefalplljgkeaaGreatDoor.ag
open Go.ChangeShapes Go.WideShapes Go.ChangeAt Go.RowKit Go.Proofs.YtlefalplljgkeaaGreatDoor.common Go.Maps Go.WideElems
attribute [local go_sem ↓] Go.wp_at_zero Go.wp_at_succ

def zA : Ax := ⟨0, emB, .slice none 0 0, .slice none 0 0, false, emB, false, 0⟩
set_option maxRecDepth 100000 in
set_option maxHeartbeats 800000 in
theorem new_any (w : World) : Calls Tryz.prog 4 #[] w fun e w' => ∃ p mb, e = .returned (ptr p) ∧ w'.heap[p]? = some (agO zA mb) ∧ Jar w' mb [] ∧ w.heap.size ≤ p ∧ w.heap.size ≤ mb ∧ Below w.heap.size w w' := by
  have hmm := @run_makeMap Tryz.prog
  have b1 := al w (.map #[] 0)
  have b2 := al (w.alloc (.map #[] 0)) (agO zA w.heap.size)
  have HJ := hide ((show Jar (w.alloc (.map #[] 0)) w.heap.size [] from ⟨_, 0, World.ownsMap_made w _ _ _, Hs.nil⟩).below b2)
  have h1 := heap_at (w.alloc (.map #[] 0)) (agO zA w.heap.size)
  rw [World.size_alloc] at h1
  have HP := hide h1
  have HB := hide (kW b1 b2 b1.size)
  clear b1 b2 h1
  go_enter Tryz.func4, Tryz.ntmps4
  go_wp2_with fail
  go_ret
  exact ⟨w.heap.size + 1, w.heap.size, rfl, HP.out, HJ.out, by omega, Nat.le_refl _, HB.out⟩

theorem rq_cells {w : World} {F : Nat} {m t : ByteArray} {n : Int} {v : Value} {b : ByteArray} {c : Bool} (h : w.heap[F]? = some (rqO m t n v b c)) : w.cell? ⟨F, 0, none⟩ = some (.string m) ∧ w.cell? ⟨F, 1, none⟩ = some (.string t) ∧ w.cell? ⟨F, 2, none⟩ = some (.int .i64 n) ∧ w.cell? ⟨F, 3, none⟩ = some v ∧ w.cell? ⟨F, 4, none⟩ = some (.string b) ∧ w.cell? ⟨F, 5, none⟩ = some (.bool c) := by
  refine ⟨?_, ?_, ?_, ?_, ?_, ?_⟩ <;> simp [World.cell?, h]
end Go.Proofs.YtlefalplljgkeaaGreatDoor.ag

namespace Go.Proofs.YtlefalplljgkeaaGreatDoor.ag
open Go.ChangeShapes Go.WideShapes Go.ChangeAt Go.RowKit Go.Proofs.YtlefalplljgkeaaGreatDoor.common Go.Maps Go.WideElems
open Go.Proofs.YtlefalplljgkeaaGreatDoor.lst (PB Lies lookOf lowB)
open Go.Proofs.YtlefalplljgkeaaGreatDoor.fd (Ev ckTextR X Env6 isCk setB)
attribute [local go_sem ↓] Go.wp_at_zero Go.wp_at_succ

theorem ck_of {W Cr : ByteArray} (h : Letters W.data.toList) (h0 : 0 < W.size) (hc : Crumbs Cr.data.toList) : isCk W Cr = true := by
  unfold isCk
  rw [show Cr.data.toList.all Fd.ck = true from hc, Bool.and_true]
  unfold Fd.token
  have h1 : W.data.toList.all Fd.tok = true := by
    rw [List.all_eq_true]
    intro c hcm
    have := h c hcm
    unfold Fd.tok Fd.tokB
    simp only [decide_eq_true_eq]
    omega
  have h2 : W.data.toList ≠ [] := fun e => by
    have := sz_list W
    rw [e] at this; simp at this; omega
  rw [h1, Bool.and_true]
  cases hl : W.data.toList with
  | nil => exact absurd hl h2
  | cons _ _ => rfl
theorem good_of {W Cr : ByteArray} {m : Int} (h : isCk W Cr = true) (h0 : -1 ≤ m) (h1 : m ≤ 9223372036854775807) : fd.Good (setB W Cr m).data.toList W Cr m :=
  ⟨h, by omega, rfl⟩
theorem ctext_one {W Cr : ByteArray} (h : isCk W Cr = true) (xm xt : Value) : ckTextR [(W, Cr)] xm xt = .tuple #[.string (fd.joinB [(W, Cr)]), .nilIface] := by
  unfold ckTextR
  rw [if_neg (by simp)]
  simp [fd.allCk, h]
theorem hd_some {T : ByteArray} (h : 0 < T.size) : hdL T = [(hoB, usB), (coB, T)] := by unfold hdL; rw [if_neg (by omega)]
theorem look_some {T : ByteArray} (h : 0 < T.size) : lookOf (hdL T) (lowB coB) = (T, 1) := by rw [hd_some h]; rfl
theorem look_none0 : lookOf (hdL emB) (lowB coB) = (emB, 0) := rfl

set_option maxRecDepth 100000 in
set_option maxHeartbeats 1600000 in
theorem has_one (v : Value) (n u : ByteArray) (w : World) (hl : Lies w v [(n, u)]) :
    Calls Tryz.prog 14 #[v, .string n, .string u] w fun e w' => e = .returned (.bool true) ∧ w' = w := by
  obtain ⟨oa, cap, rfl, hc⟩ := hl
  obtain ⟨b, o, rfl, hb, c0, c1⟩ := hc 0 (by simp)
  have d0 : w.cell? ⟨b, o, none⟩ = some (.string n) := by simpa using c0
  have d1 : w.cell? ⟨b, o + 1, none⟩ = some (.string u) := by simpa using c1
  clear hc c0 c1
  go_enter Tryz.func14, Tryz.ntmps14
  go_wp2_with fail
  go_ret
  exact ⟨rfl, rfl⟩
end Go.Proofs.YtlefalplljgkeaaGreatDoor.ag

namespace Go.Proofs.YtlefalplljgkeaaGreatDoor.kitw
open Go.ChangeShapes Go.WideShapes Go.ChangeAt Go.RowKit Go.Proofs.YtlefalplljgkeaaGreatDoor.common

abbrev B (c : UInt8) : Value := .int .u8 (c.toNat : Int)

theorem pick_mod (k n : Int) (hn : 1 ≤ n) : (if k.tmod n < 0 then k.tmod n + n else k.tmod n) = k % n := by
  have h1 := Int.emod_nonneg k (show n ≠ 0 by omega)
  have h2 := Int.emod_lt_of_pos k (show 0 < n by omega)
  rw [Int.tmod_eq_emod]
  by_cases hk : 0 ≤ k ∨ n ∣ k
  · rw [if_pos hk]; split <;> omega
  · rw [if_neg hk]
    have : (n.natAbs : Int) = n := by omega
    have h3 : k % n ≠ 0 := by
      intro h0; exact hk (Or.inr (Int.dvd_of_emod_eq_zero h0))
    split <;> omega

/-- a number from 0 to n - 1 -/
def pick (k n : Int) : Int := if n < 1 then 0 else k % n

theorem pick_bounds (k n : Int) : 0 ≤ pick k n ∧ (1 ≤ n → pick k n < n) := by
  unfold pick
  split
  · exact ⟨by omega, fun h => by omega⟩
  · exact ⟨Int.emod_nonneg k (by omega), fun _ => Int.emod_lt_of_pos k (by omega)⟩

theorem tmod_bounds (k n : Int) (hn : 1 ≤ n) : -n ≤ k.tmod n ∧ k.tmod n < n := by
  have h := pick_mod k n hn
  have h1 := Int.emod_nonneg k (show n ≠ 0 by omega)
  have h2 := Int.emod_lt_of_pos k (show 0 < n by omega)
  split at h <;> omega

set_option maxHeartbeats 400000 in
theorem pick_all (k n : Int) (w : World) (hn : n ≤ 4611686018427387904) (hn0 : -4611686018427387904 ≤ n) :
    Calls Tryz.prog 5 #[.int .i64 k, .int .i64 n] w fun e w' => e = .returned (.int .i64 (pick k n)) ∧ w' = w := by
  by_cases h1 : n < 1
  · have hp : Hid (pick k n = 0) := by show pick k n = 0; unfold pick; rw [if_pos h1]
    go_enter Tryz.func5, Tryz.ntmps5
    go_wp2
    go_ret
    rw [hp.out]
    exact ⟨rfl, rfl⟩
  · have hb := tmod_bounds k n (by omega)
    have hm := pick_mod k n (by omega)
    have hp : pick k n = k % n := by unfold pick; rw [if_neg h1]
    rw [← hm] at hp
    by_cases h2 : k.tmod n < 0
    · rw [if_pos h2] at hp
      have HP := hide hp
      clear hp hm
      go_enter Tryz.func5, Tryz.ntmps5
      go_wp2
      go_ret
      rw [HP.out]
      exact ⟨rfl, rfl⟩
    · rw [if_neg h2] at hp
      have HP := hide hp
      clear hp hm
      go_enter Tryz.func5, Tryz.ntmps5
      go_wp2
      go_ret
      rw [HP.out]
      exact ⟨rfl, rfl⟩

theorem pick_any (k n : Int) (w : World) (hn : n ≤ 4611686018427387904) (hn0 : -4611686018427387904 ≤ n) (_hk0 : -9223372036854775808 ≤ k) (_hk1 : k ≤ 9223372036854775807) :
    Calls Tryz.prog 5 #[.int .i64 k, .int .i64 n] w fun e w' => e = .returned (.int .i64 (pick k n)) ∧ w' = w := pick_all k n w hn hn0

end Go.Proofs.YtlefalplljgkeaaGreatDoor.kitw
