import Derived.Test.YtkamnkldgeaaaaaDoorDkLine
import Derived.Laws.CopyOwn
namespace Go.Proofs.YtkamnkldgeaaaaaDoor.dk
open Go.ChangeShapes Go.WideShapes Go.ChangeAt Go.RowKit Go.Proofs.YtkamnkldgeaaaaaDoor.common
set_option maxRecDepth 100000 in
set_option maxHeartbeats 800000 in
theorem own_any (w : World) (v : Value) (l : List UInt8) (h : Rd w v l) (hl : l.length ≤ 281474976710656) :
    Calls Tryd.prog 18 #[v] w fun e w' => e = .returned (.slice (some ⟨w.heap.size, 0, none⟩) l.length l.length) ∧ Nw w' w.heap.size l ∧ Below w.heap.size w w' := by
  obtain ⟨oa, cap, rfl, h⟩ := h
  obtain ⟨i0, hi, hz0, hz1, hz2⟩ := info_parts info8
  obtain ⟨cur, hcur⟩ : ∃ cur, cur = (madeCells #[.int .u8 0] l.length).toList := ⟨_, rfl⟩
  have hA : (w.alloc (.cells (madeCells #[.int .u8 0] l.length) 5)).heap[w.heap.size]? = some (.cells cur.toArray 5 (0, 0)) := by rw [hcur]; exact heap_alloc_new _ _
  have hCL : cur.length = l.length := by rw [hcur]; exact made_len _
  have hcp := copy_run (w.alloc (.cells (madeCells #[.int .u8 0] l.length) 5)) w.heap.size 0 l.length l.length oa cap l (fun h0 => by
    obtain ⟨g, o, e, hg, hr⟩ := h h0
    exact ⟨g, o, e, by simp; omega, range_block hr (heap_alloc_old _ _ hg)⟩) (Nat.le_refl _) (there_of hA 0 _ (by omega))
  have HN : Hid (Nw ((w.alloc (.cells (madeCells #[.int .u8 0] l.length) 5)).setCells w.heap.size 0 (l.map B)) w.heap.size l) := by
    show _ = _
    rw [sets_here hA (l.map B) 0 (by rw [List.length_map]; omega), List.take_zero, List.nil_append, List.drop_eq_nil_of_le (by rw [List.length_map]; omega), List.append_nil]
  have HB : Hid (Below w.heap.size w ((w.alloc (.cells (madeCells #[.int .u8 0] l.length) 5)).setCells w.heap.size 0 (l.map B))) :=
    (((Fr.refl [] w).alloc _).sets w.heap.size 0 _ (Or.inr (Nat.le_refl _))).below (fun k hk => by cases hk) (Nat.le_refl _)
  clear h hA hCL hcur
  generalize l.length = n at *
  go_enter Tryd.func18, Tryd.ntmps18
  go_wp2_with (refine wpList_make_row _ rfl _ _ 25 rfl 5 i0 (.int .u8 0) Tryd.underlying25 hi hz0 hz1 rfl .i64 .i64 n ?c1 ?c2 ?c3 ?c4 ?_)
  case c1 => rfl
  case c2 => rfl
  case c3 => rw [hz2]; omega
  case c4 => omega
  clear hz0 hz1 hz2 hi
  generalize (w.alloc (.cells (madeCells #[.int .u8 0] n) 5)).setCells w.heap.size 0 (l.map B) = W at *
  go_wp2
  go_ret
  exact ⟨rfl, HN.out, HB.out⟩
end Go.Proofs.YtkamnkldgeaaaaaDoor.dk
