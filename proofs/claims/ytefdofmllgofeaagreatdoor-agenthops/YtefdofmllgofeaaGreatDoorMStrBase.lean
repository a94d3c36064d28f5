import Derived.Test.YtefdofmllgofeaaGreatDoorMAgMath
namespace Go.Proofs.YtefdofmllgofeaaGreatDoor.ss
open Go.ChangeShapes Go.WideShapes Go.ChangeAt Go.RowKit Go.Proofs.YtefdofmllgofeaaGreatDoor.common Go.Maps
attribute [local go_sem ↓] Go.wp_at_zero Go.wp_at_succ

/-- the cells of texts -/
abbrev sc (l : List ByteArray) : List Value := l.map Value.string

/-- a slice of texts that reads as l -/
def Lies (w : World) (v : Value) (l : List ByteArray) : Prop :=
  ∃ oa cap, v = .slice oa l.length cap ∧ ∀ i (h : i < l.length), ∃ b o, oa = some ⟨b, o, none⟩ ∧ b < w.heap.size ∧ w.cell? ⟨b, o + i, none⟩ = some (.string l[i])
theorem Lies.below {w w' : World} {v : Value} {l : List ByteArray} (h : Lies w v l) (hb : Below w.heap.size w w') : Lies w' v l := by
  obtain ⟨oa, cap, hv, hc⟩ := h
  refine ⟨oa, cap, hv, fun i hi => ?_⟩
  obtain ⟨b, o, ho, hlt, c0⟩ := hc i hi
  exact ⟨b, o, ho, Nat.lt_of_lt_of_le hlt hb.size, (hb.cell hlt).trans c0⟩
theorem lies_nil (w : World) : Lies w (.slice none 0 0) [] := ⟨none, 0, rfl, fun _ hi => absurd hi (Nat.not_lt_zero _)⟩

/-- texts that lie in a block of one's own -/
def Row (w : World) (g : Nat) (l : List ByteArray) : Prop := w.there g 0 l.length ∧ w.rangeAt g 0 (sc l)

theorem sc_get (l : List ByteArray) (i : Nat) (h : i < l.length) : (sc l)[i]? = some (.string l[i]) := by
  rw [List.getElem?_map, List.getElem?_eq_getElem h]; rfl
theorem row_of_own {w : World} {base : Nat} {e : TypeId} {v : Value} {l : List ByteArray} (h : w.ownsRow base e 1 v l.length (sc l)) : (v = .slice none 0 0 ∧ l = []) ∨ ∃ g cap, v = .slice (some ⟨g, 0, none⟩) l.length cap ∧ base ≤ g ∧ g < w.heap.size ∧ Row w g l ∧ l.length ≤ cap := by
  rcases h.2 with ⟨hv, h0⟩ | ⟨g, cap, cur, rfl, hg, hh, hn, _, hsz, htk⟩
  · exact Or.inl ⟨hv, List.eq_nil_of_length_eq_zero h0⟩
  · refine Or.inr ⟨g, cap, rfl, hg, (Array.getElem?_eq_some_iff.1 hh).1, ?_, hn⟩
    have hr : w.rangeAt g 0 (sc l) := by
      intro j u hu
      have hj : j < l.length := by have := (List.getElem?_eq_some_iff.1 hu).1; rw [List.length_map] at this; exact this
      have : (cur.toList.take (l.length * 1))[j]? = (sc l)[j]? := by rw [htk]
      rw [List.getElem?_take_of_lt (by omega), hu] at this
      simp only [World.cell?, hh]
      simpa using this
    refine ⟨fun j hj => ⟨?_, by simp [World.frozen?, hh]⟩, hr⟩
    rw [range_cell hr j (by rw [List.length_map]; exact hj)]; rfl
theorem Row.lies {w : World} {g : Nat} {l : List ByteArray} (h : Row w g l) (hg : g < w.heap.size) (n cap : Nat) (hn : n ≤ l.length) : Lies w (.slice (some ⟨g, 0, none⟩) n cap) (l.take n) := by
  have hl : (l.take n).length = n := by rw [List.length_take]; omega
  refine ⟨_, cap, by rw [hl], fun i hi => ?_⟩
  rw [hl] at hi
  have hi2 : i < l.length := by omega
  refine ⟨g, 0, rfl, hg, ?_⟩
  rw [h.2 i _ (sc_get l i hi2)]; simp
theorem lies_of_own {w : World} {base : Nat} {e : TypeId} {v : Value} {l : List ByteArray} (h : w.ownsRow base e 1 v l.length (sc l)) : Lies w v l := by
  rcases row_of_own h with ⟨rfl, rfl⟩ | ⟨g, cap, rfl, _, hg, hr, _⟩
  · exact lies_nil w
  · have := hr.lies hg l.length cap (Nat.le_refl _)
    rwa [List.take_length] at this
theorem Row.head {w : World} {g : Nat} {l r : List ByteArray} (h : Row w g (l ++ r)) (hg : g < w.heap.size) (cap : Nat) : Lies w (.slice (some ⟨g, 0, none⟩) l.length cap) l := by
  have := h.lies hg l.length cap (by rw [List.length_append]; omega)
  rwa [List.take_left] at this
theorem Row.below {w w' : World} {b g : Nat} {l : List ByteArray} (h : Row w g l) (hb : Below b w w') (hg : g < b) : Row w' g l := ⟨there_below h.1 hb hg, range_below h.2 hb hg⟩
theorem Row.drew {w : World} {g : Nat} {l : List ByteArray} (h : Row w g l) : Row w.drew g l := h
theorem Row.set {w : World} {g : Nat} {l : List ByteArray} (h : Row w g l) (i : Nat) (hi : i < l.length) (p : ByteArray) : Row (w.setCell ⟨g, i, none⟩ (.string p)) g (l.set i p) := by
  refine ⟨by rw [List.length_set]; exact there_set h.1 _ _, ?_⟩
  have h1 := range_set h.2 i (by rw [List.length_map]; omega) (.string p)
  rw [Nat.zero_add] at h1
  have e : (sc l).set i (.string p) = sc (l.set i p) := by simp [sc, List.map_set]
  rw [e] at h1
  exact h1
theorem Row.cell {w : World} {g : Nat} {l : List ByteArray} (h : Row w g l) (i : Nat) (hi : i < l.length) : w.cell? ⟨g, i, none⟩ = some (.string l[i]) := by
  have := h.2 _ _ (sc_get l i hi)
  rwa [Nat.zero_add] at this
theorem Row.free {w : World} {g : Nat} {l : List ByteArray} (h : Row w g l) (i : Nat) (hi : i < l.length) : w.frozen? ⟨g, i, none⟩ = false := by simpa using (h.1 i hi).2

theorem infoS : (Tryz.prog.info? 9).map (fun i => (i.zero, i.size, i.bytes)) = some (some (.string ⟨#[]⟩), 1, 16) := by kernel_rfl
theorem takeS (l : List ByteArray) (k : Nat) (h : k < l.length) : l.take (k + 1) = l.take k ++ [l[k]] := by
  rw [List.take_succ_eq_append_getElem h]
theorem lies_cells {w : World} {ad : Addr} {n cap : Nat} {xs : List ByteArray} (h : Lies w (.slice (some ad) n cap) xs) : ∀ j u, (sc xs)[j]? = some u → w.cell? (ad.add j) = some u := by
  obtain ⟨oa, ca, hv, hc⟩ := h
  cases hv
  intro j u hu
  have hj : j < xs.length := by have := (List.getElem?_eq_some_iff.1 hu).1; rwa [List.length_map] at this
  obtain ⟨b, o, ho, _, c0⟩ := hc j hj
  cases ho
  rw [Addr.add_mid, c0]
  rw [List.getElem?_map, List.getElem?_eq_getElem hj] at hu
  simpa using hu
theorem keepT {W X X' : World} {g : Nat} (hg : W.heap.size ≤ g) (h : Below W.heap.size W X) (hb : Below g X X') : Below W.heap.size W X' := h.trans (hb.mono hg)

set_option maxRecDepth 100000 in
/-- 'append(m, l...)' of texts to a row of one's own -/
theorem append_strs (w : World) {ops : Array Oper} {rest : List Oper} {o : Oper} {a : Act} {Q : Exit → Act → World → Prop} (hgd : o.guard = none) (s x : Operand)
    (ho : o.op = .call { callee := .builtin .append, args := #[s, x], argTypes := #[22, 22] }) (base : Nat) (v0 : Value) (m : List ByteArray) (hs : a.eval s = v0) (hown : w.ownsRow base 9 1 v0 m.length (sc m)) (v : Value) (l : List ByteArray) (hx : a.eval x = v) (hl : Lies w v l)
    (hm : m.length + l.length ≤ maxLen) (hb : (m.length + l.length) * 16 ≤ 140737488355328) (hbase : base ≤ w.heap.size)
    (h : ∀ v' w', w'.ownsRow base 9 1 v' (m ++ l).length (sc (m ++ l)) → w.grownBy w' v0.ownBlock → wpList Tryz.prog ops Q rest (a.put o.dst v') w') : wpList Tryz.prog ops Q (o :: rest) a w := by
  obtain ⟨i0, hi, hz0, hz1, hz2⟩ := info_parts infoS
  have hl' := hl
  obtain ⟨oa, cap, rfl, hc⟩ := hl
  cases oa with
  | some ad =>
    exact wpList_append_own w hgd s x 22 ho base 9 i0 (.string ⟨#[]⟩) 1 16 Tryz.underlying22 hi hz0 hz1 hz2 rfl (by decide) _ m.length (sc m) hs hown ad l.length cap (sc l) hx (by simp) (lies_cells hl') (by intro u hu; obtain ⟨x, _, rfl⟩ := List.mem_map.1 hu; rfl) hm hb hbase (fun v' w' h1 h2 _ => h v' w' (by rw [List.length_append]; simpa [sc] using h1) h2)
  | none =>
    have h0 : l = [] := by
      cases l with
      | nil => rfl
      | cons p r => obtain ⟨b, o, ho, _⟩ := hc 0 (by simp); cases ho
    subst h0
    refine wpList_plain hgd fun K' hK' => ?_
    unfold Oper.wp execOp
    simp only [ho, resolve, invoke, builtin, Sem.run_bind, Sem.run_pure, Result.andThen_ok, List.map_toArray, List.map_cons, List.map_nil, hs, hx]
    rcases hown.2 with ⟨rfl, h0⟩ | ⟨g, cap', cur, rfl, hg, hh, hn, _⟩
    · have hm0 : m = [] := List.eq_nil_of_length_eq_zero h0
      subst hm0
      simp [Builtin.append_, run_underlying Tryz.underlying22, sizeOf, typeInfo, hi, Builtin.lenOf, Builtin.firstCells]
      exact hK' _ _ (h _ _ (World.ownsRow_nil _ _ _ _) ⟨rfl, rfl, rfl, Nat.le_refl _, fun _ _ _ => rfl⟩)
    · simp [Builtin.append_, run_underlying Tryz.underlying22, sizeOf, typeInfo, hi, Builtin.lenOf, Builtin.firstCells, hn, storeCells]
      exact hK' _ _ (h _ _ (by rw [List.append_nil]; exact hown) ⟨rfl, rfl, rfl, Nat.le_refl _, fun _ _ _ => rfl⟩)

end Go.Proofs.YtefdofmllgofeaaGreatDoor.ss
