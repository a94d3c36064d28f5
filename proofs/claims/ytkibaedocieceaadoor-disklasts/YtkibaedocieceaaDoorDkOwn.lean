import Derived.Test.YtkibaedocieceaaDoorDkLine
import Derived.Laws.CopyOwn
namespace Go.Proofs.YtkibaedocieceaaDoor.dk
open Go.ChangeShapes Go.WideShapes Go.ChangeAt Go.RowKit Go.Proofs.YtkibaedocieceaaDoor.common

/-- bytes that can be read at a slice -/
def Rd (w : World) (v : Value) (l : List UInt8) : Prop := ∃ oa cap, v = .slice oa l.length cap ∧ (0 < l.length → ∃ g o, oa = some ⟨g, o, none⟩ ∧ g < w.heap.size ∧ w.rangeAt g o (l.map B))
theorem rd_nil (w : World) : Rd w (.slice none 0 0) [] := ⟨none, 0, rfl, fun h => absurd h (by decide)⟩
theorem Rd.keep {w w' : World} {v : Value} {l : List UInt8} (h : Rd w v l) (hb : ∀ oa n cap, v = .slice (some oa) n cap → w'.heap[oa.block]? = w.heap[oa.block]?) (hs : w.heap.size ≤ w'.heap.size) : Rd w' v l := by
  obtain ⟨oa, cap, rfl, h⟩ := h
  refine ⟨oa, cap, rfl, fun hl => ?_⟩
  obtain ⟨g, o, rfl, hg, hr⟩ := h hl
  exact ⟨g, o, rfl, by omega, range_block hr (hb _ _ _ rfl)⟩
theorem Rd.below {w w' : World} {v : Value} {l : List UInt8} (h : Rd w v l) (hb : Below w.heap.size w w') : Rd w' v l := by
  obtain ⟨oa, cap, rfl, h⟩ := h
  refine ⟨oa, cap, rfl, fun hl => ?_⟩
  obtain ⟨g, o, rfl, hg, hr⟩ := h hl
  exact ⟨g, o, rfl, Nat.lt_of_lt_of_le hg hb.size, range_block hr (hb.block g hg)⟩
theorem Ln.rd {w : World} {gb : Option Nat} {v : Value} {l : List UInt8} (h : Ln w 5 1 gb v l.length (l.map B)) : Rd w v l := by
  rcases h.2 with ⟨_, h0, ao, rfl⟩ | ⟨g, o, cap, rfl, rfl, ⟨cur, hc⟩, _, _, _, _, hr⟩
  · exact ⟨ao, 0, by rw [h0], fun hl => absurd hl (by omega)⟩
  · exact ⟨_, cap, rfl, fun _ => ⟨g, o, rfl, (Array.getElem?_eq_some_iff.1 hc).1, hr⟩⟩
theorem rd_own {w : World} {base : Nat} {v : Value} {l : List UInt8} (h : w.ownsRow base 5 1 v l.length (l.map B)) : Rd w v l := by
  rcases h.2 with ⟨rfl, h0⟩ | ⟨g, cap, cur, rfl, _, hc, h1, _, h3, h4⟩
  · exact ⟨none, 0, by rw [h0], fun hl => absurd hl (by omega)⟩
  · refine ⟨_, cap, rfl, fun _ => ⟨g, 0, rfl, (Array.getElem?_eq_some_iff.1 hc).1, fun j u hu => ?_⟩⟩
    rw [← h4, List.getElem?_take] at hu
    split at hu
    · simp only [World.cell?, hc]
      simpa using hu
    · cases hu
/-- a new block with just these bytes -/
def Nw (w : World) (g : Nat) (l : List UInt8) : Prop := w.heap[g]? = some (.cells (l.map B).toArray 5 (0, 0))
theorem Nw.own {w : World} {g : Nat} {l : List UInt8} (h : Nw w g l) (base : Nat) (hb : base ≤ g) (hl : l.length ≤ maxLen) : w.ownsRow base 5 1 (.slice (some ⟨g, 0, none⟩) l.length l.length) l.length (l.map B) :=
  ⟨by simp, Or.inr ⟨g, l.length, _, rfl, hb, h, Nat.le_refl _, hl, by simp, by rw [Nat.mul_one]; exact List.take_of_length_le (by simp)⟩⟩
theorem Nw.ln {w : World} {g : Nat} {l : List UInt8} (h : Nw w g l) (hl : l.length ≤ maxLen) : ∃ gb, (gb = none ∨ gb = some g) ∧ Ln w 5 1 gb (.slice (some ⟨g, 0, none⟩) l.length l.length) l.length (l.map B) := by
  by_cases h0 : 0 < l.length
  · obtain ⟨k, h1, _⟩ := Ln.own (h.own 0 (Nat.zero_le _) hl) h0
    obtain ⟨c, hc⟩ := h1.lt k rfl
    rcases h1.2 with ⟨h2, _⟩ | ⟨g', o, cap, h2, h3, _⟩
    · cases h2
    · cases h2
      cases h3
      exact ⟨_, Or.inr rfl, h1⟩
  · obtain rfl : l = [] := List.eq_nil_of_length_eq_zero (by omega)
    exact ⟨none, Or.inl rfl, by simp, Or.inl ⟨rfl, rfl, _, rfl⟩⟩
theorem Nw.below {w w' : World} {g : Nat} {l : List UInt8} (h : Nw w g l) (hb : Below w.heap.size w w') : Nw w' g l := (hb.block g (Array.getElem?_eq_some_iff.1 h).1).trans h
theorem Nw.rd {w : World} {g : Nat} {l : List UInt8} (h : Nw w g l) (c : Nat) : Rd w (.slice (some ⟨g, 0, none⟩) l.length c) l :=
  ⟨_, c, rfl, fun _ => ⟨g, 0, rfl, (Array.getElem?_eq_some_iff.1 h).1, fun j u hu => by
    have h' : w.heap[g]? = some (.cells (l.map B).toArray 5 (0, 0)) := h
    simp only [World.cell?, h']
    simpa using hu⟩⟩
theorem size8 : (Tryd.prog.info? 5).map (·.size) = some 1 := by kernel_rfl
theorem made_len (n : Nat) : (madeCells #[.int .u8 0] n).toList.length = n := by unfold madeCells; simp
theorem there_of {w : World} {g : Nat} {cur : List Value} {t : TypeId} (hc : w.heap[g]? = some (.cells cur.toArray t (0, 0))) (o n : Nat) (h : o + n ≤ cur.length) : w.there g o n := fun j hj =>
  ⟨by have : o + j < cur.length := by omega
      simp [World.cell?, hc, this], by simp [World.frozen?, hc]⟩
/-- copy of bytes that can be read into a row -/
theorem copy_run (W : World) (g o dLen dCap : Nat) (oa : Option Addr) (cap : Nat) (l : List UInt8) (hr : 0 < l.length → ∃ g o, oa = some ⟨g, o, none⟩ ∧ g < W.heap.size ∧ W.rangeAt g o (l.map B)) (hd : l.length ≤ dLen) (ht : W.there g o l.length) :
    (Builtin.copy_ #[28, 28] 3 #[.slice (some ⟨g, o, none⟩) dLen dCap, .slice oa l.length cap]).run Tryd.prog W = .ok (goInt l.length) (W.setCells g o (l.map B)) := by
  by_cases h0 : 0 < l.length
  · obtain ⟨g', o', rfl, _, hr⟩ := hr h0
    have := run_copy_cells (P := Tryd.prog) W 28 28 3 5 g o dLen dCap ⟨g', o', none⟩ l.length cap (l.map B) Tryd.underlying28 size8 (by rw [List.length_map]; exact (Nat.min_eq_left hd).symm) (fun j u hu => by rw [Addr.add_mid]; exact hr j u hu) (fun j hj => (ht j (by simpa using hj)).1) (fun j hj => (ht j (by simpa using hj)).2) (fun v hv => by obtain ⟨x, _, rfl⟩ := List.mem_map.1 hv; rfl)
    rw [List.length_map] at this
    exact this
  · obtain rfl : l = [] := List.eq_nil_of_length_eq_zero (by omega)
    exact run_copy_none (P := Tryd.prog) W 28 28 3 5 _ _ _ _ _ _ Tryd.underlying28 size8 (Nat.zero_min _)
theorem sets_here {w : World} {g : Nat} {cur : List Value} {t : TypeId} (hc : w.heap[g]? = some (.cells cur.toArray t (0, 0))) (vs : List Value) (o : Nat) (h : o + vs.length ≤ cur.length) : (w.setCells g o vs).heap[g]? = some (.cells (cur.take o ++ (vs ++ cur.drop (o + vs.length))).toArray t (0, 0)) := by
  induction vs generalizing o w cur with
  | nil =>
    show w.heap[g]? = _
    rw [hc]
    simp
  | cons v r ih =>
    have h1 : o < cur.length := by simp at h; omega
    have h2 : (w.setCell ⟨g, o, none⟩ v).heap[g]? = some (.cells (cur.set o v).toArray t (0, 0)) := by
      simp [World.setCell, Array.getElem?_modify, hc]
    have h3 := ih h2 (o + 1) (by rw [List.length_set]; simp at h; omega)
    show ((w.setCell ⟨g, o, none⟩ v).setCells g (o + 1) r).heap[g]? = _
    rw [h3]
    congr 3
    have e1 : (cur.set o v).take (o + 1) = cur.take o ++ [v] := by
      rw [List.take_succ_eq_append_getElem (by rw [List.length_set]; exact h1), List.take_set_of_le (Nat.le_refl _)]
      simp
    have e2 : (cur.set o v).drop (o + 1 + r.length) = cur.drop (o + (v :: r).length) := by
      rw [List.drop_set_of_lt (by omega)]
      congr 1
      simp; omega
    rw [e1, e2, List.append_assoc]
    rfl

set_option maxRecDepth 100000 in
set_option maxHeartbeats 800000 in
theorem own_any (w : World) (v : Value) (l : List UInt8) (h : Rd w v l) (hl : l.length ≤ 281474976710656) :
    Calls Tryd.prog 31 #[v] w fun e w' => e = .returned (.slice (some ⟨w.heap.size, 0, none⟩) l.length l.length) ∧ Nw w' w.heap.size l ∧ Below w.heap.size w w' := by
  obtain ⟨oa, cap, rfl, h⟩ := h
  obtain ⟨i0, hi, hz0, hz1, hz2⟩ := info_parts info8
  obtain ⟨cur, hcur⟩ : ∃ cur, cur = (madeCells #[.int .u8 0] l.length).toList := ⟨_, rfl⟩
  have hA : (w.alloc (.cells (madeCells #[.int .u8 0] l.length) 5)).heap[w.heap.size]? = some (.cells cur.toArray 5 (0, 0)) := by rw [hcur]; exact heap_alloc_new _ _
  have hCL : cur.length = l.length := by rw [hcur]; exact made_len _
  have hcp := copy_run (w.alloc (.cells (madeCells #[.int .u8 0] l.length) 5)) w.heap.size 0 l.length l.length oa cap l (fun h0 => by
    obtain ⟨g, o, e, hg, hr⟩ := h h0
    exact ⟨g, o, e, by simp; omega, range_block hr (heap_alloc_old _ _ hg)⟩) (Nat.le_refl _) (there_of hA 0 _ (by omega))
  have HN : Hid (Nw ((w.alloc (.cells (madeCells #[.int .u8 0] l.length) 5)).setCells w.heap.size 0 (l.map B)) w.heap.size l) := by
    show _ = _
    rw [sets_here hA (l.map B) 0 (by rw [List.length_map]; omega), List.take_zero, List.nil_append, List.drop_eq_nil_of_le (by rw [List.length_map]; omega), List.append_nil]
  have HB : Hid (Below w.heap.size w ((w.alloc (.cells (madeCells #[.int .u8 0] l.length) 5)).setCells w.heap.size 0 (l.map B))) :=
    (((Fr.refl [] w).alloc _).sets w.heap.size 0 _ (Or.inr (Nat.le_refl _))).below (fun k hk => by cases hk) (Nat.le_refl _)
  clear h hA hCL hcur
  generalize l.length = n at *
  go_enter Tryd.func31, Tryd.ntmps31
  go_wp2_with (refine wpList_make_row _ rfl _ _ 28 rfl 5 i0 (.int .u8 0) Tryd.underlying28 hi hz0 hz1 rfl .i64 .i64 n ?c1 ?c2 ?c3 ?c4 ?_)
  case c1 => rfl
  case c2 => rfl
  case c3 => rw [hz2]; omega
  case c4 => omega
  clear hz0 hz1 hz2 hi
  generalize (w.alloc (.cells (madeCells #[.int .u8 0] n) 5)).setCells w.heap.size 0 (l.map B) = W at *
  go_wp2
  go_ret
  exact ⟨rfl, HN.out, HB.out⟩
end Go.Proofs.YtkibaedocieceaaDoor.dk
