import Derived.Test.YtkamnkldgeaaaaaDoorAppRd
namespace Go.Proofs.YtkamnkldgeaaaaaDoor.da
open Go.ChangeShapes Go.WideShapes Go.ChangeAt Go.RowKit Go.Proofs.YtkamnkldgeaaaaaDoor.common Go.Proofs.YtkamnkldgeaaaaaDoor.dk Go.Proofs.YtkamnkldgeaaaaaDoor.dr

theorem own_keep' {w w' : World} {base : Nat} {e : TypeId} {size : Nat} {v : Value} {n : Nat} {xs : List Value} (h : w.ownsRow base e size v n xs) (hk : ∀ g, v.ownBlock = some g → w'.heap[g]? = w.heap[g]?) : w'.ownsRow base e size v n xs := by
  refine ⟨h.1, ?_⟩
  rcases h.2 with h1 | ⟨g, cap, cur, rfl, h1, h2, h3⟩
  · exact Or.inl h1
  · exact Or.inr ⟨g, cap, cur, rfl, h1, (hk g rfl).trans h2, h3⟩
theorem own_fr {w w' : World} {base : Nat} {e : TypeId} {size : Nat} {v : Value} {n : Nat} {xs : List Value} {F : List Nat} (h : w.ownsRow base e size v n xs) (hf : Fr F w w') (hn : ∀ g, v.ownBlock = some g → g ∉ F) : w'.ownsRow base e size v n xs :=
  own_keep' h fun g hg => hf.block g (h.lt g hg).2 (hn g hg)
/-- any slice at the head of a row that is one's own -/
theorem rd_at {w : World} {base g : Nat} {v : Value} {l : List UInt8} (h : w.ownsRow base 5 1 v l.length (l.map B)) (hg : v.ownBlock = some g) (c : Nat) : Rd w (.slice (some ⟨g, 0, none⟩) l.length c) l := by
  refine ⟨_, c, rfl, fun _ => ⟨g, 0, rfl, (h.lt g hg).2, fun j u hu => ?_⟩⟩
  have := h.cells hg j u hu
  rwa [Addr.add_mid] at this
/-- the head of a row -/
theorem own_head {w : World} {base : Nat} {g n cap : Nat} {l r : List UInt8} (h : w.ownsRow base 5 1 (.slice (some ⟨g, 0, none⟩) n cap) (l ++ r).length ((l ++ r).map B)) : w.ownsRow base 5 1 (.slice (some ⟨g, 0, none⟩) l.length cap) l.length (l.map B) := by
  refine ⟨by simp, ?_⟩
  rcases h.2 with ⟨hv, _⟩ | ⟨g', cap', cur, hv, h1, h2, h3, h4, h5, h6⟩
  · cases hv
  · cases hv
    refine Or.inr ⟨g, cap, cur, rfl, h1, h2, by rw [List.length_append] at h3; omega, h4, h5, ?_⟩
    have e := congrArg (List.take (l.length * 1)) h6
    rw [List.take_take, Nat.min_eq_left (by rw [List.length_append]; omega), List.map_append, List.take_left' (by simp)] at e
    exact e
set_option maxRecDepth 100000 in
/-- whatever is put behind a row of one's own: in its room, or in a new block -/
theorem append_srcK (w : World) (base : Nat) (t tx e : TypeId) (i : TypeInfo) (z : Value) (size : Nat) (hu : Tryd.prog.underlying t = some (.slice e)) (hi : Tryd.prog.info? e = some i) (hz : i.zero = some z) (hsz : i.size = size) (hzs : z.cells.size = size) (v : Value) (n : Nat) (xs : List Value) (h : w.ownsRow base e size v n xs)
    (x : Value) (m : Nat) (news : List Value) (hs : Src Tryd.prog i.size tx x m news w) (hm : news.length = m * size) (hfit : (n + m + (n + m) / 4 + 192) * i.bytes ≤ 281474976710656) (hmax : n + m ≤ maxLen) (hbase : base ≤ w.heap.size) (hm0 : 0 < m) :
    ∃ v' W', (Builtin.append_ #[t, tx] t #[v, x]).run Tryd.prog w = .ok v' W' ∧ W'.ownsRow base e size v' (n + m) (xs ++ news) ∧ Fr v.ownBlock.toList w W' ∧ ((∃ g cap, v = .slice (some ⟨g, 0, none⟩) n cap ∧ v' = .slice (some ⟨g, 0, none⟩) (n + m) cap) ∨ (v'.ownBlock = some w.heap.size ∧ Fr [] w W')) := by
  subst hsz
  have hl := h.1
  have hmax' : n + m ≤ 9223372036854775807 := by unfold maxLen at hmax; omega
  have grow : ∀ (ao : Option Addr) (cap : Nat), v = .slice ao n cap → cap < n + m → (Builtin.firstCells i.size n (.slice ao n cap)).run Tryd.prog w.drew = .ok xs.toArray w.drew → ∃ v' W', (Builtin.append_ #[t, tx] t #[v, x]).run Tryd.prog w = .ok v' W' ∧ W'.ownsRow base e i.size v' (n + m) (xs ++ news) ∧ Fr v.ownBlock.toList w W' ∧ ((∃ g cap, v = .slice (some ⟨g, 0, none⟩) n cap ∧ v' = .slice (some ⟨g, 0, none⟩) (n + m) cap) ∨ (v'.ownBlock = some w.heap.size ∧ Fr [] w W')) := fun ao cap hv hc hold => by
    subst hv
    have hrun := run_append_grow_src (P := Tryd.prog) w t tx t e i z hu hi hz ao n cap xs hold x m news hs hc (by omega) (growslice_fits_wide (by omega) hfit)
    have hge := grownCap_ge w (n + m) cap e
    have hle := grownCap_le_maxLen w (n + m) cap e hmax
    refine ⟨_, _, hrun, ⟨by rw [List.length_append, hl, hm, Nat.add_mul], Or.inr ⟨w.heap.size, _, _, rfl, hbase, heap_alloc_new _ _, hge, hle, ?_, ?_⟩⟩, (((Fr.refl _ w).drew).alloc _), Or.inr ⟨rfl, ((Fr.refl _ w).drew).alloc _⟩⟩
    · rw [Array.size_append, size_zeroCells, List.size_toArray, List.length_append, hl, hm, hzs, ← Nat.add_mul, ← Nat.add_mul]
      congr 1
      omega
    · rw [Array.toList_append, List.toList_toArray]
      exact List.take_left' (by rw [List.length_append, hl, hm, Nat.add_mul])
  rcases h.2 with ⟨rfl, rfl⟩ | ⟨g, cap, cur, rfl, h1, h2, h3, h4, h5, h6⟩
  · obtain rfl : xs = [] := List.eq_nil_of_length_eq_zero (by rw [hl, Nat.zero_mul])
    exact grow none 0 rfl (by omega) (run_firstCells_none w.drew i.size 0 0 0)
  · by_cases hroom : n + m ≤ cap
    · have hin : ∀ j, j < news.length → 0 + n * i.size + j < cur.size := fun j hj => by
        rw [hm] at hj
        rw [h5, Nat.zero_add]
        have : (n + m) * i.size ≤ cap * i.size := Nat.mul_le_mul_right _ hroom
        rw [Nat.add_mul] at this
        omega
      have hrun := run_append_room_src (P := Tryd.prog) w t tx t e i hu hi g 0 n cap x m news hs hroom (fun j hj => by rw [cell_of h2, Array.getElem?_eq_getElem (hin j hj)]; rfl) (fun j hj => free_of h2 _)
      rw [Nat.zero_add] at hrun
      have hc2 : w.heap[g]? = some (.cells cur.toList.toArray e (0, 0)) := by rw [Array.toArray_toList]; exact h2
      have hcl : cur.toList.length = cap * i.size := (Array.length_toList (xs := cur)).trans h5
      have hlt : n * i.size + news.length ≤ cur.toList.length := by
        rw [hcl, hm, ← Nat.add_mul]
        exact Nat.mul_le_mul_right _ hroom
      have hst := sets_here hc2 news (n * i.size) hlt
      refine ⟨_, _, hrun, ⟨by rw [List.length_append, hl, hm, Nat.add_mul], Or.inr ⟨g, cap, _, rfl, h1, hst, hroom, h4, ?_, ?_⟩⟩, (Fr.refl _ w).sets g _ _ (Or.inl (by simp [Value.ownBlock])), Or.inl ⟨g, cap, rfl, rfl⟩⟩
      · rw [List.size_toArray, List.length_append, List.length_append, List.length_take, List.length_drop, ← hcl]
        omega
      · rw [List.toList_toArray, h6, ← List.append_assoc]
        exact List.take_left' (by rw [List.length_append, hl, hm, Nat.add_mul])
    · refine grow (some ⟨g, 0, none⟩) cap rfl (by omega) ?_
      exact run_firstCells_some w.drew i.size n _ n cap xs hl (by
        intro j u hu'
        have := h.cells (g := g) rfl j u hu'
        exact this)
/-- bytes behind a row of one's own: in its room, or in a new block; the old row is as it was -/
theorem append_two (w : World) (base : Nat) (v : Value) (l : List UInt8) (h : w.ownsRow base 5 1 v l.length (l.map B)) (oa : Option Addr) (c : Nat) (m : List UInt8) (hr : Rd w (.slice oa m.length c) m) (h0 : 0 < m.length) (hb : l.length + m.length ≤ 140738562097152) (hbase : base ≤ w.heap.size) :
    ∃ v' W', (Builtin.append_ #[25, 25] 25 #[v, .slice oa m.length c]).run Tryd.prog w = .ok v' W' ∧ Fr v.ownBlock.toList w W' ∧ W'.ownsRow base 5 1 v l.length (l.map B) ∧
      ∃ g cap, v' = .slice (some ⟨g, 0, none⟩) (l.length + m.length) cap ∧ l.length + m.length ≤ cap ∧ (v.ownBlock = some g ∨ w.heap.size ≤ g) ∧ base ≤ g ∧ W'.ownsRow base 5 1 (.slice (some ⟨g, 0, none⟩) l.length cap) l.length (l.map B) := by
  obtain ⟨i0, hi, hz0, hz1, hz2⟩ := info_parts info8
  have hs := src_rd hr
  rw [← hz1] at hs
  obtain ⟨v', W', hrun, hown, hfr, hat⟩ := append_srcK w base 25 25 5 i0 (.int .u8 0) 1 Tryd.underlying25 hi hz0 hz1 rfl v l.length (l.map B) h _ m.length (m.map B) hs (by rw [List.length_map, Nat.mul_one]) (by rw [hz2]; omega) (by unfold maxLen; omega) hbase h0
  rw [← List.map_append, ← List.length_append] at hown
  refine ⟨v', W', hrun, hfr, ?_⟩
  rcases hat with ⟨g, cap, rfl, rfl⟩ | ⟨hn, hf0⟩
  · rw [← List.length_append] at hown
    have h2 := own_head hown
    refine ⟨h2, g, cap, rfl, ?_, Or.inl rfl, own_ge hown g rfl, h2⟩
    rcases hown.2 with ⟨hv, _⟩ | ⟨g', cap', cur, hv, h1, h2, h3, _⟩
    · cases hv
    · cases hv; rwa [List.length_append] at h3
  · refine ⟨own_fr h hf0 (fun g _ hm => by cases hm), ?_⟩
    rcases hown.2 with ⟨hv, _⟩ | ⟨g, cap, cur, rfl, h1, h2, h3, _⟩
    · rw [hv] at hn; cases hn
    · have hg : g = w.heap.size := Option.some.inj hn
      refine ⟨g, cap, by rw [List.length_append], by rwa [List.length_append] at h3, Or.inr (by omega), h1, own_head hown⟩
end Go.Proofs.YtkamnkldgeaaaaaDoor.da
