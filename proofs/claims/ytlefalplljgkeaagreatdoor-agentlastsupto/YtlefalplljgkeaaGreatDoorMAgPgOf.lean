import Derived.Test.YtlefalplljgkeaaGreatDoorMAgPg
import Derived.Test.YtlefalplljgkeaaGreatDoorMAgTake
import Derived.Test.YtlefalplljgkeaaGreatDoorMMedW3
namespace Go.Proofs.YtlefalplljgkeaaGreatDoor.ag
open Go.ChangeShapes Go.WideShapes Go.ChangeAt Go.RowKit Go.Proofs.YtlefalplljgkeaaGreatDoor.common Go.Maps Go.WideElems
open Go.Proofs.YtlefalplljgkeaaGreatDoor.lst (PB Lies cl cl_app cl_len infoP lies_of_own lookOf lowB)
open Go.Proofs.YtlefalplljgkeaaGreatDoor.fd (Ev X)
attribute [local go_sem ↓] Go.wp_at_zero Go.wp_at_succ

abbrev ctB : ByteArray := ⟨#[67, 111, 110, 116, 101, 110, 116, 45, 84, 121, 112, 101]⟩
abbrev rpO2 (st : Int) (fv : Value) (b : ByteArray) (c : Bool) : Obj := .cells #[.int .i64 st, fv, .string b, .bool c] 48
theorem rp_cells {w : World} {F : Nat} {st : Int} {fv : Value} {b : ByteArray} {c : Bool} (h : w.heap[F]? = some (rpO2 st fv b c)) : w.cell? ⟨F, 0, none⟩ = some (.int .i64 st) ∧ w.cell? ⟨F, 1, none⟩ = some fv ∧ w.cell? ⟨F, 2, none⟩ = some (.string b) ∧ w.cell? ⟨F, 3, none⟩ = some (.bool c) := by
  refine ⟨?_, ?_, ?_, ?_⟩ <;> simp [World.cell?, h]

set_option maxRecDepth 100000 in
set_option maxHeartbeats 3200000 in
/-- an answer without a type holds no page -/
theorem pageOf_none (st : Int) (fv : Value) (l : List PB) (b : ByteArray) (c : Bool) (w : World) (hl : Lies w fv l) (h0 : lookOf l (lowB ctB) = (emB, 0)) (hls : l.length ≤ 4611686018427387904) (hz : ∀ p ∈ l, p.1.size ≤ 140737488355328) (ea : Addr) (he : Ev 0 w (X ea)) :
    Calls Tryz.prog 28 #[.agg #[.int .i64 st, fv, .string b, .bool c]] w fun e w' => e = .returned (.tuple #[pgV, .bool false]) ∧ Below w.heap.size w w' := by
  have b1 := al w (rpO2 st fv b c)
  have b2 := al (w.alloc (rpO2 st fv b c)) pgO
  have hb := kW b1 b2 b1.size
  obtain ⟨_, c1, _, _⟩ := rp_cells (blk (heap_at w (rpO2 st fv b c)) b2)
  have h1 := heap_at (w.alloc (rpO2 st fv b c)) pgO
  rw [World.size_alloc] at h1
  have HZ := hide h1
  have HB := hide hb
  have HL := hide (lst.look_any fv l ctB _ (hl.below hb) hls hz)
  rw [h0] at HL
  have HM : Hid (∀ W, Below w.heap.size w W → Calls Tryz.prog 44 #[.string emB] W fun e w' => e = .returned (.tuple #[.string emB, X ea]) ∧ Below W.heap.size W w') := fun W hW => fd.media_any emB W (by decide) ea (he.below hW)
  obtain ⟨oa, cap, rfl, _⟩ := hl
  clear b1 b2 hb h1 h0 hz he
  go_enter Tryz.func28, Tryz.ntmps28
  go_wp2_with fail
  refine HL.out.mono ?_
  rintro e w1 ⟨rfl, b1⟩
  have HB1 := hide (kW HB.out b1 HB.out.size)
  have HZ1 := hide (blk HZ.out b1)
  clear b1 HL HB HZ
  go_wp2_with fail
  refine (HM.out w1 HB1.out).mono ?_
  rintro e w2 ⟨rfl, b2⟩
  have HB2 := hide (kW HB1.out b2 HB1.out.size)
  have hz2 := blk HZ1.out b2
  obtain ⟨g0, g1, g2, gf⟩ := pg_cells hz2
  have f0 := gf 0
  have f1 := gf 1
  have f2 := gf 2
  have HR := hide (And.intro (range_of (l := [.string emB, .slice none 0 0, .slice none 0 0]) (pg_set hz2)) (setC_below (p := w.heap.size + 1) HB2.out (by omega) [.string emB, .slice none 0 0, .slice none 0 0] 0))
  clear b2 HB1 HZ1 HB2 hz2 gf
  go_wp2_with fail
  refine bodyPost_ret (fd.results_ct (u := .bool false) rfl _ rfl HR.out.1 Tryz.underlying57 rfl sizeP rfl) rfl ⟨rfl, HR.out.2⟩
end Go.Proofs.YtlefalplljgkeaaGreatDoor.ag
