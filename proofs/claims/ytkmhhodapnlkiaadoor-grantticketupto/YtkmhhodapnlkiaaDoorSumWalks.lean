import Derived.Test.YtkmhhodapnlkiaaDoorAddWalks
namespace Go.Proofs.YtkmhhodapnlkiaaDoor.shaw
open Go.ChangeShapes Go.WideShapes Go.ChangeAt Go.RowKit Go.Proofs.YtkmhhodapnlkiaaDoor.common
attribute [local go_sem ↓] Go.wp_at_zero Go.wp_at_succ

/-- the first words lie in their table -/
def FW (w : World) : Prop := w.rangeAt 3 0 [.int .u32 1779033703, .int .u32 3144134277, .int .u32 1013904242, .int .u32 2773480762, .int .u32 1359893119, .int .u32 2600822924, .int .u32 528734635, .int .u32 1541459225]

theorem FW.lt {w : World} (h : FW w) : 3 < w.heap.size := range_lt h (by decide)
theorem FW.below {w w' : World} {B : Nat} (h : FW w) (hb : Below B w w') (hB : 3 < B) : FW w' := range_below h hb hB

theorem builtHash : Tryd.prog.built 41 [(0, .agg #[.int .u32 1779033703, .int .u32 3144134277, .int .u32 1013904242, .int .u32 2773480762, .int .u32 1359893119, .int .u32 2600822924, .int .u32 528734635, .int .u32 1541459225])] = some #[.int .u32 1779033703, .int .u32 3144134277, .int .u32 1013904242, .int .u32 2773480762, .int .u32 1359893119, .int .u32 2600822924, .int .u32 528734635, .int .u32 1541459225, .int .u8 0, .int .u8 0, .int .u8 0, .int .u8 0, .int .u8 0, .int .u8 0, .int .u8 0, .int .u8 0, .int .u8 0, .int .u8 0, .int .u8 0, .int .u8 0, .int .u8 0, .int .u8 0, .int .u8 0, .int .u8 0, .int .u8 0, .int .u8 0, .int .u8 0, .int .u8 0, .int .u8 0, .int .u8 0, .int .u8 0, .int .u8 0, .int .u8 0, .int .u8 0, .int .u8 0, .int .u8 0, .int .u8 0, .int .u8 0, .int .u8 0, .int .u8 0, .int .u8 0, .int .u8 0, .int .u8 0, .int .u8 0, .int .u8 0, .int .u8 0, .int .u8 0, .int .u8 0, .int .u8 0, .int .u8 0, .int .u8 0, .int .u8 0, .int .u8 0, .int .u8 0, .int .u8 0, .int .u8 0, .int .u8 0, .int .u8 0, .int .u8 0, .int .u8 0, .int .u8 0, .int .u8 0, .int .u8 0, .int .u8 0, .int .u8 0, .int .u8 0, .int .u8 0, .int .u8 0, .int .u8 0, .int .u8 0, .int .u8 0, .int .u8 0, .int .u64 0] := by kernel_rfl

theorem hash_new {w : World} {b : Nat} (hr : w.rangeAt b 0 (([.int .u32 1779033703, .int .u32 3144134277, .int .u32 1013904242, .int .u32 2773480762, .int .u32 1359893119, .int .u32 2600822924, .int .u32 528734635, .int .u32 1541459225] : List Value) ++ List.replicate 64 (.int .u8 0) ++ [.int .u64 0])) (ht : w.there b 0 73) : HashOf w b 0 [] := by
  refine ⟨List.replicate 64 0, ⟨?_, ?_, by simp, ?_, ht⟩, rfl⟩
  · intro j v hv
    refine hr j v ?_
    have hj : j < 8 := by
      have := (List.getElem?_eq_some_iff.1 hv).1
      simpa [Sha.words] using this
    match j, hj, hv with
    | 0, _, hv => exact hv
    | 1, _, hv => exact hv
    | 2, _, hv => exact hv
    | 3, _, hv => exact hv
    | 4, _, hv => exact hv
    | 5, _, hv => exact hv
    | 6, _, hv => exact hv
    | 7, _, hv => exact hv
  · intro j v hv
    have hj : j < 64 := by
      have := (List.getElem?_eq_some_iff.1 hv).1
      simpa using this
    have hv0 : v = .int .u8 0 := by
      rw [List.map_replicate, List.getElem?_replicate, if_pos hj] at hv
      exact (Option.some.inj hv).symm
    subst hv0
    have := hr (8 + j) (.int .u8 0) (by
      rw [List.getElem?_append_left (by rw [List.length_append, List.length_replicate]; show 8 + j < 8 + 64; omega), List.getElem?_append_right (by show 8 ≤ 8 + j; omega), List.getElem?_replicate]
      exact if_pos (by show 8 + j - 8 < 64; omega))
    rw [show 0 + (8 + j) = 0 + 8 + j by omega] at this
    exact this
  · exact hr 72 _ rfl

theorem newHash_any (w : World) (hf : FW w) :
    Calls Tryd.prog 25 #[] w fun e w' => e = .returned (.pointer (some ⟨w.heap.size, 0, none⟩)) ∧ HashOf w' w.heap.size 0 [] ∧ Below w.heap.size w w' ∧ w'.heap.size = w.heap.size + 1 := by
  have f0 : w.cell? ⟨3, 0, none⟩ = some (.int .u32 1779033703) := hf 0 _ rfl
  have f1 : w.cell? ⟨3, 1, none⟩ = some (.int .u32 3144134277) := hf 1 _ rfl
  have f2 : w.cell? ⟨3, 2, none⟩ = some (.int .u32 1013904242) := hf 2 _ rfl
  have f3 : w.cell? ⟨3, 3, none⟩ = some (.int .u32 2773480762) := hf 3 _ rfl
  have f4 : w.cell? ⟨3, 4, none⟩ = some (.int .u32 1359893119) := hf 4 _ rfl
  have f5 : w.cell? ⟨3, 5, none⟩ = some (.int .u32 2600822924) := hf 5 _ rfl
  have f6 : w.cell? ⟨3, 6, none⟩ = some (.int .u32 528734635) := hf 6 _ rfl
  have f7 : w.cell? ⟨3, 7, none⟩ = some (.int .u32 1541459225) := hf 7 _ rfl
  have HF := hide hf
  clear hf
  go_enter Tryd.func25, Tryd.ntmps25
  go_wp2_with (refine wpList_build_to (by rfl) 41 _ (by rfl) [(0, .agg #[.int .u32 1779033703, .int .u32 3144134277, .int .u32 1013904242, .int .u32 2773480762, .int .u32 1359893119, .int .u32 2600822924, .int .u32 528734635, .int .u32 1541459225])] (by simp [Act.eval]) _ builtHash ?_)
  go_ret
  refine ⟨rfl, hash_new (range_new_at w _ _ _ _ rfl rfl) (there_new_at w _ _ _ _ rfl rfl), (Below.refl _ _).alloc (Nat.le_refl _) _, by simp⟩

end Go.Proofs.YtkmhhodapnlkiaaDoor.shaw
