import Derived.Test.YthkbheojjcdglabDoorListCopy
namespace Go.Proofs.YthkbheojjcdglabDoor.lst
open Go.ChangeShapes Go.WideShapes Go.ChangeAt Go.RowKit Go.Proofs.YthkbheojjcdglabDoor.common
attribute [local go_sem ↓] Go.wp_at_zero Go.wp_at_succ

/-- what stands in the spare room -/
def bh : ByteArray := ⟨#[98, 101, 104, 105, 110, 100]⟩
theorem sizeP : (Tryd.prog.info? 34).map (·.size) = some 2 := by kernel_rfl

theorem behind_any (w : World) : Calls Tryd.prog 23 #[] w fun e w' => e = .returned (.agg #[.string bh, .string bh]) ∧ Below w.heap.size w w' := by
  go_enter Tryd.func23, Tryd.ntmps23
  go_wp2
  refine bodyPost_ret (v := .agg #[.string bh, .string bh]) (results_cell1 (b := w.heap.size) (o := 0) (cs := [.string bh, .string bh]) Tryd.results23 _ rfl ?_ Tryd.underlying34 rfl sizeP) rfl ⟨rfl, ?_⟩
  · exact range_new_at w _ _ _ _ rfl rfl
  · exact (Below.refl _ _).alloc (Nat.le_refl _) _

set_option maxRecDepth 100000 in
set_option maxHeartbeats 1600000 in
theorem spare_any (v : Value) (l : List PB) (w : World) (hl : Lies w v l) (hs : (l.length + 2) * 32 ≤ 140737488355328) :
    Calls Tryd.prog 8 #[v] w fun e w' => ∃ g cap, e = .returned (.slice (some ⟨g, 0, none⟩) (l.length + 2) cap) ∧ w.heap.size ≤ g ∧ g < w'.heap.size ∧ l.length + 2 ≤ cap ∧ Row w' g (l ++ [(bh, bh), (bh, bh)]) ∧ Below w.heap.size w w' := by
  obtain ⟨i0, hi, hz0, hz1, hz2⟩ := info_parts infoP
  have HL := hide hl
  clear hl
  go_enter Tryd.func8, Tryd.ntmps8
  go_wp2_with fail
  refine (copied_any v l w HL.out (by omega)).mono ?_
  rintro e w1 ⟨v1, rfl, hown, hnx⟩
  have HO1 := hide hown
  have HX1 := hide hnx
  clear hown hnx
  go_wp2_with fail
  refine (behind_any _).mono ?_
  rintro e w2 ⟨rfl, hb2⟩
  have hown := own_below HO1.out hb2
  have hnx := HX1.out.trans (hb2.mono HX1.out.size)
  have hsz := hnx.size
  clear HO1 HX1 hb2
  go_wp2_with (at_builtin; refine wpList_append_own _ rfl _ _ 22 rfl w.heap.size 34 i0 (.agg #[.string ⟨#[]⟩, .string ⟨#[]⟩]) 2 32 Tryd.underlying22 hi hz0 hz1 hz2 rfl (by decide) _ _ _ rfl (hown.alloc _) ⟨w2.heap.size, 0, none⟩ 1 1 [.string bh, .string bh] rfl rfl (cells_new _ _ _) ?c2 ?c3 ?c4 ?c5 ?_)
  case c2 => first | rfl | (intro u hu; simp at hu; rcases hu with rfl | rfl <;> rfl)
  case c3 => unfold maxLen; omega
  case c4 => omega
  case c5 => first | omega | (simp; omega)
  intro v' w3 hown' hgrow _
  have HX3 := hide ((hnx.alloc hsz _).grown hgrow (by simp; omega) (own_ge hown))
  have HO3 := hide hown'
  clear hown' hgrow hown hnx hsz
  go_wp2_with fail
  refine (behind_any _).mono ?_
  rintro e w4 ⟨rfl, hb2⟩
  have hown := own_below HO3.out hb2
  have hnx := HX3.out.trans (hb2.mono HX3.out.size)
  have hsz := hnx.size
  clear HO3 HX3 hb2
  go_wp2_with (at_builtin; refine wpList_append_own _ rfl _ _ 22 rfl w.heap.size 34 i0 (.agg #[.string ⟨#[]⟩, .string ⟨#[]⟩]) 2 32 Tryd.underlying22 hi hz0 hz1 hz2 rfl (by decide) _ _ _ rfl (hown.alloc _) ⟨w4.heap.size, 0, none⟩ 1 1 [.string bh, .string bh] rfl rfl (cells_new _ _ _) ?c2 ?c3 ?c4 ?c5 ?_)
  case c2 => first | rfl | (intro u hu; simp at hu; rcases hu with rfl | rfl <;> rfl)
  case c3 => unfold maxLen; omega
  case c4 => omega
  case c5 => first | omega | (simp; omega)
  intro v5 w5 hown' hgrow _
  have HX5 := hide ((hnx.alloc hsz _).grown hgrow (by simp; omega) (own_ge hown))
  have HO5 : Hid (w5.ownsRow w.heap.size 34 2 v5 (l ++ [(bh, bh), (bh, bh)]).length (cl (l ++ [(bh, bh), (bh, bh)]))) := by
    show w5.ownsRow _ _ _ _ _ _
    rw [List.length_append, cl_app]
    first | exact hown' | (rw [List.append_assoc] at hown'; exact hown')
  clear hown' hgrow hown hnx hsz
  go_wp2_with fail
  go_ret
  rcases row_of_own HO5.out with ⟨_, h0⟩ | ⟨g, cap, rfl, h1, h2, h3, h4⟩
  · simp at h0
  · rw [List.length_append] at h4
    exact ⟨g, cap, by rw [List.length_append]; rfl, h1, h2, h4, h3, HX5.out⟩

end Go.Proofs.YthkbheojjcdglabDoor.lst
