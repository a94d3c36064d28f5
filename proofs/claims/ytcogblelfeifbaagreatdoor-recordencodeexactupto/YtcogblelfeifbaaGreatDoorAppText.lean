import Derived.Test.YtcogblelfeifbaaGreatDoorRdKit
import Derived.Deep.DeepAppendWide
namespace Go.Proofs.YtcogblelfeifbaaGreatDoor.dk
open Go.ChangeShapes Go.WideShapes Go.ChangeAt Go.RowKit Go.Proofs.YtcogblelfeifbaaGreatDoor.common

theorem append_text (w : World) (base : Nat) (v : Value) (l : List UInt8) (h : w.ownsRow base 5 1 v l.length (l.map B)) (t : ByteArray) (hb : l.length + t.size ≤ 140738562097152) (hbase : base ≤ w.heap.size) :
    ∃ v' W', (Builtin.append_ #[35, 9] 35 #[v, .string t]).run Tryz.prog w = .ok v' W' ∧ W'.ownsRow base 5 1 v' (l ++ t.data.toList).length ((l ++ t.data.toList).map B) ∧ Fr v.ownBlock.toList w W' ∧ (v'.ownBlock = v.ownBlock ∨ ∃ g, v'.ownBlock = some g ∧ w.heap.size ≤ g) := by
  obtain ⟨i0, hi, hz0, hz1, hz2⟩ := info_parts info8
  have hts : t.data.toList.length = t.size := by rw [Array.length_toList]; rfl
  have hbc : byteCells t = t.data.toList.map B := rfl
  have hsrc : Src Tryz.prog i0.size 9 (.string t) t.size (byteCells t) w := by rw [hz1]; exact Src.ofString w Tryz.underlying9 t
  have hlen : (byteCells t).length = t.size := byteCells_length t
  rcases h.2 with ⟨rfl, h0⟩ | ⟨g, cap, cur, rfl, h1, h2, h3, h4, h5, h6⟩
  · obtain rfl : l = [] := List.eq_nil_of_length_eq_zero h0
    by_cases ht : t.size = 0
    · have htn : t.data.toList = [] := List.eq_nil_of_length_eq_zero (by omega)
      refine ⟨.slice none 0 0, w, ?_, by rw [htn]; exact h, Fr.refl _ _, Or.inl rfl⟩
      have : t = ⟨#[]⟩ := by
        apply ByteArray.ext
        apply Array.toList_inj.1
        exact htn
      rw [this]
      simp [Builtin.append_, run_underlying (P := Tryz.prog) Tryz.underlying35, run_underlying (P := Tryz.prog) Tryz.underlying9, sizeOf, typeInfo, hi, Builtin.lenOf, Builtin.firstCells]
      rw [if_pos (show (⟨#[]⟩ : ByteArray) = ByteArray.empty from rfl)]
      rfl
    · have hold : (Builtin.firstCells i0.size 0 (.slice none 0 0)).run Tryz.prog w.drew = .ok ([] : List Value).toArray w.drew := run_firstCells_none w.drew i0.size 0 0 0
      have hrun := run_append_grow_src (P := Tryz.prog) w 35 9 35 5 i0 _ Tryz.underlying35 hi hz0 none 0 0 [] hold _ t.size _ hsrc (by omega) (by omega) (growslice_fits_wide (by omega) (by rw [hz2]; simp at hb; omega))
      have hge := grownCap_ge w (0 + t.size) 0 5
      have hle := grownCap_le_maxLen w (0 + t.size) 0 5 (by unfold maxLen; simp at hb; omega)
      refine ⟨_, _, hrun, ?_, (((Fr.refl _ w).drew).alloc _), Or.inr ⟨w.heap.size, rfl, Nat.le_refl _⟩⟩
      simp only [List.nil_append]
      rw [hts]
      have e0 : 0 + t.size = t.size := Nat.zero_add _
      rw [e0] at hge hle ⊢
      refine ⟨by rw [List.length_map, hts, Nat.mul_one], Or.inr ⟨w.heap.size, _, _, rfl, hbase, heap_alloc_new _ _, hge, hle, ?_, ?_⟩⟩
      · rw [Array.size_append, size_zeroCells, List.size_toArray, hlen]
        show t.size + (_ - _) * 1 = _
        omega
      · rw [Array.toList_append, List.toList_toArray, hbc]
        exact List.take_left' (by rw [List.length_map, hts, Nat.mul_one])
  · have hl : (l.map B).length = l.length := List.length_map ..
    by_cases hroom : l.length + t.size ≤ cap
    · have hrun := run_append_room_src (P := Tryz.prog) w 35 9 35 5 i0 Tryz.underlying35 hi g 0 l.length cap _ t.size _ hsrc hroom
        (fun j hj => by
          rw [hlen] at hj
          have : 0 + l.length * i0.size + j < cur.size := by rw [hz1, h5]; omega
          rw [cell_of h2, Array.getElem?_eq_getElem this]; rfl) (fun j hj => free_of h2 _)
      rw [hz1, Nat.zero_add, Nat.mul_one] at hrun
      have hc2 : w.heap[g]? = some (.cells cur.toList.toArray 5 (0, 0)) := by rw [Array.toArray_toList]; exact h2
      have hcl : cur.toList.length = cap * 1 := (Array.length_toList (xs := cur)).trans h5
      have hst := sets_here hc2 (byteCells t) l.length (by rw [hlen, hcl]; omega)
      refine ⟨_, _, hrun, ⟨by rw [List.length_map, Nat.mul_one], Or.inr ⟨g, cap, _, by rw [List.length_append, hts], h1, hst, by rw [List.length_append, hts]; exact hroom, h4, ?_, ?_⟩⟩, (Fr.refl _ w).sets g _ _ (Or.inl (by simp [Value.ownBlock])), Or.inl rfl⟩
      · rw [List.size_toArray, List.length_append, List.length_append, List.length_take, List.length_drop, hlen, hcl]; omega
      · rw [Nat.mul_one] at h6
        rw [List.toList_toArray, h6, ← List.append_assoc, List.map_append, hbc]
        exact List.take_left' (by rw [← List.map_append, List.length_map, Nat.mul_one])
    · have hcells : ∀ j u, (l.map B)[j]? = some u → w.cell? ((⟨g, 0, none⟩ : Addr).add j) = some u := h.cells (g := g) rfl
      have hold : (Builtin.firstCells i0.size l.length (.slice (some ⟨g, 0, none⟩) l.length cap)).run Tryz.prog w.drew = .ok (l.map B).toArray w.drew := run_firstCells_some w.drew i0.size l.length _ l.length cap (l.map B) (by rw [hl, hz1, Nat.mul_one]) hcells
      have hrun := run_append_grow_src (P := Tryz.prog) w 35 9 35 5 i0 _ Tryz.underlying35 hi hz0 (some ⟨g, 0, none⟩) l.length cap (l.map B) hold _ t.size _ hsrc (by omega) (by omega) (growslice_fits_wide (by omega) (by rw [hz2]; omega))
      have hge := grownCap_ge w (l.length + t.size) cap 5
      have hle := grownCap_le_maxLen w (l.length + t.size) cap 5 (by unfold maxLen; omega)
      refine ⟨_, _, hrun, ⟨by rw [List.length_map, Nat.mul_one], Or.inr ⟨w.heap.size, _, _, by rw [List.length_append, hts], hbase, heap_alloc_new _ _, by rw [List.length_append, hts]; exact hge, hle, ?_, ?_⟩⟩, (((Fr.refl _ w).drew).alloc _), Or.inr ⟨w.heap.size, rfl, Nat.le_refl _⟩⟩
      · rw [Array.size_append, size_zeroCells, List.size_toArray, List.length_append, hlen, hl]
        show l.length + t.size + (_ - _) * 1 = _
        omega
      · rw [Array.toList_append, List.toList_toArray, hbc, ← List.map_append]
        exact List.take_left' (by rw [List.length_map, Nat.mul_one])
end Go.Proofs.YtcogblelfeifbaaGreatDoor.dk
