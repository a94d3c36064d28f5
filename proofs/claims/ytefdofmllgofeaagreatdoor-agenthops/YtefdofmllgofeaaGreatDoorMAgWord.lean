import Derived.Test.YtefdofmllgofeaaGreatDoorMAgVis
import Derived.Test.YtefdofmllgofeaaGreatDoorMAgPlace
import Derived.Test.YtefdofmllgofeaaGreatDoorMAgMath
namespace Go.Proofs.YtefdofmllgofeaaGreatDoor.ag
open Go.ChangeShapes Go.WideShapes Go.ChangeAt Go.RowKit Go.Proofs.YtefdofmllgofeaaGreatDoor.common Go.Maps Go.WideElems
attribute [local go_sem ↓] Go.wp_at_zero Go.wp_at_succ

def zA : Ax := ⟨0, emB, .slice none 0 0, .slice none 0 0, false, emB, false, 0⟩
set_option maxRecDepth 100000 in
set_option maxHeartbeats 800000 in
theorem new_any (w : World) : Calls Tryz.prog 4 #[] w fun e w' => ∃ p mb, e = .returned (ptr p) ∧ w'.heap[p]? = some (agO zA mb) ∧ Jar w' mb [] ∧ w.heap.size ≤ p ∧ w.heap.size ≤ mb ∧ Below w.heap.size w w' := by
  have hmm := @run_makeMap Tryz.prog
  have b1 := al w (.map #[] 0)
  have b2 := al (w.alloc (.map #[] 0)) (agO zA w.heap.size)
  have HJ := hide ((show Jar (w.alloc (.map #[] 0)) w.heap.size [] from ⟨_, 0, World.ownsMap_made w _ _ _, Hs.nil⟩).below b2)
  have h1 := heap_at (w.alloc (.map #[] 0)) (agO zA w.heap.size)
  rw [World.size_alloc] at h1
  have HP := hide h1
  have HB := hide (kW b1 b2 b1.size)
  clear b1 b2 h1
  go_enter Tryz.func4, Tryz.ntmps4
  go_wp2_with fail
  go_ret
  exact ⟨w.heap.size + 1, w.heap.size, rfl, HP.out, HJ.out, by omega, Nat.le_refl _, HB.out⟩

set_option maxRecDepth 100000 in
set_option maxHeartbeats 800000 in
theorem samePairs_nil (w : World) : Calls Tryz.prog 21 #[.slice none 0 0, .slice none 0 0] w fun e w' => e = .returned (.bool true) ∧ w' = w := by
  go_enter Tryz.func21, Tryz.ntmps21
  go_wp2_with fail
  go_loopw [5] (fun i wr => i = .int .i64 0 ∧ wr = w) (fun _ _ => 0)
  case atStart => exact ⟨rfl, rfl⟩
  case round =>
    obtain ⟨rfl, rfl⟩ := hrel
    go_wp2_with fail
    go_ret
    exact ⟨rfl, rfl⟩
theorem rq_cells {w : World} {F : Nat} {m t : ByteArray} {n : Int} {v : Value} {b : ByteArray} {c : Bool} (h : w.heap[F]? = some (rqO m t n v b c)) : w.cell? ⟨F, 0, none⟩ = some (.string m) ∧ w.cell? ⟨F, 1, none⟩ = some (.string t) ∧ w.cell? ⟨F, 2, none⟩ = some (.int .i64 n) ∧ w.cell? ⟨F, 3, none⟩ = some v ∧ w.cell? ⟨F, 4, none⟩ = some (.string b) ∧ w.cell? ⟨F, 5, none⟩ = some (.bool c) := by
  refine ⟨?_, ?_, ?_, ?_, ?_, ?_⟩ <;> simp [World.cell?, h]
set_option maxRecDepth 100000 in
set_option maxHeartbeats 1600000 in
theorem sameZ_any (w : World) : Calls Tryz.prog 9 #[zRV, zRV] w fun e w' => e = .returned (.bool true) ∧ Below w.heap.size w w' := by
  have b1 := al w zR
  have b2 := al (w.alloc zR) zR
  obtain ⟨a0, a1, a2, a3, a4, a5⟩ := rq_cells (blk (heap_at w zR) b2)
  have h1 := heap_at (w.alloc zR) zR
  rw [World.size_alloc] at h1
  obtain ⟨c0, c1, c2, c3, c4, c5⟩ := rq_cells h1
  have HB := hide (kW b1 b2 b1.size)
  have HS := hide (fun W => samePairs_nil W)
  clear b1 b2 h1
  go_enter Tryz.func9, Tryz.ntmps9
  go_wp2_with fail
  refine (HS.out _).mono ?_
  rintro e w1 ⟨rfl, h0⟩
  rw [h0]
  clear h0
  go_wp2_with fail
  go_ret
  exact ⟨rfl, HB.out⟩
end Go.Proofs.YtefdofmllgofeaaGreatDoor.ag

namespace Go.Proofs.YtefdofmllgofeaaGreatDoor.ag
open Go.ChangeShapes Go.WideShapes Go.ChangeAt Go.RowKit Go.Proofs.YtefdofmllgofeaaGreatDoor.common
attribute [local go_sem ↓] Go.wp_at_zero Go.wp_at_succ

/-- a word of small letters -/
def Letters (l : List UInt8) : Prop := ∀ c ∈ l, 97 ≤ c.toNat ∧ c.toNat ≤ 122
theorem place_word (W : ByteArray) (h : Letters W.data.toList) : place ((⟨#[47]⟩ : ByteArray) ++ W).data.toList = true := by
  have e : ((⟨#[47]⟩ : ByteArray) ++ W).data.toList = 47 :: W.data.toList := by rw [ByteArray.data_append]; simp
  rw [e, place_eq]
  have h3 : (47 :: W.data.toList).all okc = true := by
    rw [List.all_cons, List.all_eq_true.2 fun c hc => ?_]
    · rfl
    · have := h c hc
      unfold okc
      rw [decide_eq_true (show 33 ≤ c.toNat by omega), decide_eq_true (show c.toNat ≤ 126 by omega)]; rfl
  rw [h3]
  cases hl : W.data.toList with
  | nil => rfl
  | cons c r =>
    have := h c (by rw [hl]; simp)
    have c1 : c ≠ 47 := fun e => by rw [e] at this; revert this; decide
    have c2 : c ≠ 92 := fun e => by rw [e] at this; revert this; decide
    show (_ && (_ || (decide (c ≠ 47) && decide (c ≠ 92))) && true) = true
    rw [decide_eq_true c1, decide_eq_true c2]
    simp
theorem u8_of (c : UInt8) : Go.Proofs.YtefdofmllgofeaaGreatDoor.bk.B c = .int .u8 (c.toNat : Int) := rfl
end Go.Proofs.YtefdofmllgofeaaGreatDoor.ag
