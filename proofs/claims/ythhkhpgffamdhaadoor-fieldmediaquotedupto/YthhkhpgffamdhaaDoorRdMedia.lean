import Derived.Test.YthhkhpgffamdhaaDoorCurT
namespace Go.Proofs.YthhkhpgffamdhaaDoor.fd
open Go.ChangeShapes Go.WideShapes Go.ChangeAt Go.RowKit Go.Proofs.YthhkhpgffamdhaaDoor.common Go.Proofs.YthhkhpgffamdhaaDoor.bk
attribute [local go_sem ↓] Go.wp_at_zero Go.wp_at_succ

theorem zsize_media : Tryd.zeroCells68.size = 258 := by kernel_rfl
/-- a reader as it is made: what the walk asks of it -/
structure New_media (v : ByteArray) (T C : Array Value) : Prop where
  list : C.toList = .string v :: .int .i64 0 :: tabL
  built : Tryd.prog.built 68 [(0, .agg #[.string v, .int .i64 0]), (1, .agg T)] = some C
  room : ∀ w1 : World, (w1.alloc (.cells Tryd.zeroCells68 68)).there w1.heap.size 0 C.size
  size : (Tryd.prog.info? 68).map (·.size) = some C.size
  one : C.all (·.oneCell') = true
theorem new_media (v : ByteArray) : ∃ T C, TabA T ∧ New_media v T C := by
  have hl : ((.string v :: .int .i64 0 :: tabL : List Value).toArray).size = 258 := by rw [List.size_toArray, List.length_cons, List.length_cons, tabL_len]
  refine ⟨tabL.toArray, (.string v :: .int .i64 0 :: tabL : List Value).toArray, ⟨rfl, classes_any, there_put, size_tab2, tabL_one⟩, rfl, by kernel_rfl, ?_, ?_, ?_⟩
  · intro w1
    rw [hl, ← zsize_media]
    exact there_new_at w1 _ _ _ _ rfl rfl
  · rw [hl]; kernel_rfl
  · refine all_oneCell_toArray ?_
    intro x hx
    rcases List.mem_cons.1 hx with rfl | hx
    · rfl
    · rcases List.mem_cons.1 hx with rfl | hx
      · rfl
      · obtain ⟨y, _, rfl⟩ := List.mem_map.1 hx; rfl
/-- a world with the reader in a new block -/
def putMedia (Z C : Array Value) (w : World) : World := (w.alloc (.cells Z 68)).setCells w.heap.size 0 C.toList
theorem putMedia_below (Z C : Array Value) (w : World) : Below w.heap.size w (putMedia Z C w) := below_setCells ((Below.refl _ _).alloc (Nat.le_refl _) _) (Nat.le_refl _) _ _
theorem New_media.at {v : ByteArray} {T C : Array Value} (h : New_media v T C) (w : World) : At (putMedia Tryd.zeroCells68 C w) w.heap.size v v.data.toList := by
  have hr := h.room w
  have hrange : (putMedia Tryd.zeroCells68 C w).rangeAt w.heap.size 0 C.toList := World.rangeAt_setCells_same _ w.heap.size 0 C.toList (by simpa using hr)
  rw [h.list] at hrange
  refine ⟨List.suffix_refl _, ?_, ?_, ?_, ?_⟩
  · exact hrange 0 _ rfl
  · rw [len_list, Nat.sub_self]; exact hrange 1 _ rfl
  · unfold putMedia
    rw [World.frozen?_setCells]
    exact World.frozen?_alloc_at _ _ _ _ rfl
  · intro j u hu
    have := hrange (j + 2) u (by simpa using hu)
    rw [Nat.zero_add] at this
    rw [Nat.add_comm 2 j]; exact this

end Go.Proofs.YthhkhpgffamdhaaDoor.fd
