import Derived.Test.YthobocfpfolhiaaDoorErrWalks
import Derived.Test.YthobocfpfolhiaaDoorCommonB
import Derived.BigQuiet
import Derived.Deep.QuietTactic
import Derived.WalkSmall
import Derived.Outline
namespace Go.Proofs.YthobocfpfolhiaaDoor.namesw
open Go.ChangeShapes Go.WideShapes Go.ChangeAt Go.RowKit Go.Proofs.YthobocfpfolhiaaDoor.common Go.Proofs.YthobocfpfolhiaaDoor.errw

set_option maxHeartbeats 1600000 in
theorem refusals_any (w : World) (e : Nat → Addr) (h : Errs w e) : Calls Tryd.prog 15 #[] w fun x w' => x = .returned (.bool true) ∧ w' = w := by
  have c0 : w.cell? ⟨6, 0, none⟩ = some (E e 0) := h.cell 0 (by decide)
  have c1 : w.cell? ⟨7, 0, none⟩ = some (E e 1) := h.cell 1 (by decide)
  have c2 : w.cell? ⟨8, 0, none⟩ = some (E e 2) := h.cell 2 (by decide)
  have c3 : w.cell? ⟨9, 0, none⟩ = some (E e 3) := h.cell 3 (by decide)
  have c4 : w.cell? ⟨10, 0, none⟩ = some (E e 4) := h.cell 4 (by decide)
  have c5 : w.cell? ⟨11, 0, none⟩ = some (E e 5) := h.cell 5 (by decide)
  have c6 : w.cell? ⟨12, 0, none⟩ = some (E e 6) := h.cell 6 (by decide)
  have c7 : w.cell? ⟨13, 0, none⟩ = some (E e 7) := h.cell 7 (by decide)
  have c8 : w.cell? ⟨14, 0, none⟩ = some (E e 8) := h.cell 8 (by decide)
  have c9 : w.cell? ⟨15, 0, none⟩ = some (E e 9) := h.cell 9 (by decide)
  have c10 : w.cell? ⟨16, 0, none⟩ = some (E e 10) := h.cell 10 (by decide)
  have c11 : w.cell? ⟨17, 0, none⟩ = some (E e 11) := h.cell 11 (by decide)
  have c12 : w.cell? ⟨18, 0, none⟩ = some (E e 12) := h.cell 12 (by decide)
  have H := hide h
  clear h
  go_enter Tryd.func15, Tryd.ntmps15
  go_wp2_with fail
  refine (num_0 _ e H.out).mono ?_
  rintro x w' ⟨rfl, rfl⟩
  go_wp2_with fail
  refine (num_1 _ e H.out).mono ?_
  rintro x w' ⟨rfl, rfl⟩
  go_wp2_with fail
  refine (num_2 _ e H.out).mono ?_
  rintro x w' ⟨rfl, rfl⟩
  go_wp2_with fail
  refine (num_3 _ e H.out).mono ?_
  rintro x w' ⟨rfl, rfl⟩
  go_wp2_with fail
  refine (num_4 _ e H.out).mono ?_
  rintro x w' ⟨rfl, rfl⟩
  go_wp2_with fail
  refine (num_5 _ e H.out).mono ?_
  rintro x w' ⟨rfl, rfl⟩
  go_wp2_with fail
  refine (num_6 _ e H.out).mono ?_
  rintro x w' ⟨rfl, rfl⟩
  go_wp2_with fail
  refine (num_7 _ e H.out).mono ?_
  rintro x w' ⟨rfl, rfl⟩
  go_wp2_with fail
  refine (num_8 _ e H.out).mono ?_
  rintro x w' ⟨rfl, rfl⟩
  go_wp2_with fail
  refine (num_9 _ e H.out).mono ?_
  rintro x w' ⟨rfl, rfl⟩
  go_wp2_with fail
  refine (num_10 _ e H.out).mono ?_
  rintro x w' ⟨rfl, rfl⟩
  go_wp2_with fail
  refine (num_11 _ e H.out).mono ?_
  rintro x w' ⟨rfl, rfl⟩
  go_wp2_with fail
  refine (num_12 _ e H.out).mono ?_
  rintro x w' ⟨rfl, rfl⟩
  go_wp2_with fail
  refine (num_nil _).mono ?_
  rintro x w' ⟨rfl, rfl⟩
  go_wp2_with fail
  go_ret
  exact ⟨rfl, rfl⟩

/-- two tables that hold the same -/
def Same (w : World) (ga gb n : Nat) (f : Nat → Value) : Prop := ∀ k, k < n → w.cell? ⟨ga, k, none⟩ = some (f k) ∧ w.cell? ⟨gb, k, none⟩ = some (f k)

set_option maxHeartbeats 1600000 in
theorem lawNames (w : World) (e : Nat → Addr) (h : Errs w e) (f1 f2 : Nat → Int) (f3 : Nat → ByteArray)
    (h1 : Same w 0 1 32 (fun k => .int .i64 (f1 k))) (h2 : Same w 2 3 34 (fun k => .int .i64 (f2 k))) (h3 : Same w 4 5 13 (fun k => .string (f3 k))) :
    Calls Tryd.prog 7 #[] w fun x w' => x = .returned (.bool true) ∧ Below w.heap.size w w' := by
  have H := hide h
  have H1 := hide h1
  have H2 := hide h2
  have H3 := hide h3
  clear h h1 h2 h3
  go_enter Tryd.func7, Tryd.ntmps7
  go_wp2_with fail
  go_loopw [1] (fun i wr => ∃ k : Nat, k ≤ 32 ∧ i = .int .i64 k ∧ Below w.heap.size w wr) (fun i _ => 32 - (intOf i).toNat)
  case atStart => exact ⟨0, Nat.zero_le _, rfl, Below.refl _ _⟩
  case round =>
    obtain ⟨k, hk, rfl, hb⟩ := hrel
    by_cases hlt : k < 32
    · have ca : wr.cell? ⟨0, k, none⟩ = some (.int .i64 (f1 k)) := by rw [← (H1.out k hlt).1]; exact hb.cell (World.block_lt_of_cell? w _ (H1.out k hlt).1)
      have cb : wr.cell? ⟨1, k, none⟩ = some (.int .i64 (f1 k)) := by rw [← (H1.out k hlt).2]; exact hb.cell (World.block_lt_of_cell? w _ (H1.out k hlt).2)
      have k0 : (0 : Int) ≤ (k : Int) := Int.natCast_nonneg _
      have k1 : (k : Int) < 32 := by omega
      have HB := hide hb
      clear hb
      go_wp2_with fail
      go_quiet (fail)
      go_wp2
      go_roundw
      case rel => exact ⟨k + 1, by omega, by go_num, below_drewN HB.out _⟩
      case measure => simp [intOf]; omega
    · have HB1 := hide hb
      clear hb
      obtain ⟨wo1, rfl⟩ : ∃ wo : World, wo = wr := ⟨_, rfl⟩
      go_wp2_with fail
      go_loopw [2] (fun i wr => ∃ k : Nat, k ≤ 34 ∧ i = .int .i64 k ∧ Below w.heap.size w wr) (fun i _ => 34 - (intOf i).toNat)
      case atStart => exact ⟨0, Nat.zero_le _, rfl, HB1.out⟩
      case round =>
        obtain ⟨k, hk, rfl, hb⟩ := hrel
        by_cases hlt : k < 34
        · have ca : wr.cell? ⟨2, k, none⟩ = some (.int .i64 (f2 k)) := by rw [← (H2.out k hlt).1]; exact hb.cell (World.block_lt_of_cell? w _ (H2.out k hlt).1)
          have cb : wr.cell? ⟨3, k, none⟩ = some (.int .i64 (f2 k)) := by rw [← (H2.out k hlt).2]; exact hb.cell (World.block_lt_of_cell? w _ (H2.out k hlt).2)
          have k0 : (0 : Int) ≤ (k : Int) := Int.natCast_nonneg _
          have k1 : (k : Int) < 34 := by omega
          have HB := hide hb
          clear hb
          go_wp2_with fail
          go_quiet (fail)
          go_wp2
          go_roundw
          case rel => exact ⟨k + 1, by omega, by go_num, below_drewN HB.out _⟩
          case measure => simp [intOf]; omega
        · have HB2 := hide hb
          clear hb
          obtain ⟨wo2, rfl⟩ : ∃ wo : World, wo = wr := ⟨_, rfl⟩
          go_wp2_with fail
          go_loopw [3] (fun i wr => ∃ k : Nat, k ≤ 13 ∧ i = .int .i64 k ∧ Below w.heap.size w wr) (fun i _ => 13 - (intOf i).toNat)
          case atStart => exact ⟨0, Nat.zero_le _, rfl, HB2.out⟩
          case round =>
            obtain ⟨k, hk, rfl, hb⟩ := hrel
            by_cases hlt : k < 13
            · have ca : wr.cell? ⟨4, k, none⟩ = some (.string (f3 k)) := by rw [← (H3.out k hlt).1]; exact hb.cell (World.block_lt_of_cell? w _ (H3.out k hlt).1)
              have cb : wr.cell? ⟨5, k, none⟩ = some (.string (f3 k)) := by rw [← (H3.out k hlt).2]; exact hb.cell (World.block_lt_of_cell? w _ (H3.out k hlt).2)
              have k0 : (0 : Int) ≤ (k : Int) := Int.natCast_nonneg _
              have k1 : (k : Int) < 13 := by omega
              have HB := hide hb
              clear hb
              go_wp2_with fail
              go_quiet (fail)
              go_wp2
              go_roundw
              case rel => exact ⟨k + 1, by omega, by go_num, below_drewN HB.out _⟩
              case measure => simp [intOf]; omega
            · have HB3 := hide hb
              clear hb
              obtain ⟨wo3, rfl⟩ : ∃ wo : World, wo = wr := ⟨_, rfl⟩
              go_wp2_with fail
              refine (refusals_any _ e (H.out.below HB3.out)).mono ?_
              rintro x w' ⟨rfl, rfl⟩
              go_wp2_with fail
              go_ret
              exact ⟨rfl, HB3.out⟩

end Go.Proofs.YthobocfpfolhiaaDoor.namesw
