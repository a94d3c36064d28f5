import Derived.Test.YtjfpjgialdkhkaaDoorDkPair
import Derived.Deep.DeepAppendWide
namespace Go.Proofs.YtjfpjgialdkhkaaDoor.dk
open Go.ChangeShapes Go.WideShapes Go.ChangeAt Go.RowKit Go.Proofs.YtjfpjgialdkhkaaDoor.common

set_option maxRecDepth 100000 in
set_option maxHeartbeats 1600000 in
theorem starts_eq (w : World) (oa : Option Addr) (c : Nat) (vh : Value) (l hd : List UInt8) (hl : Rd w (.slice oa l.length c) l) (hh : Rd w vh hd) (hc : l.length ≤ c) (hp : hd.length ≤ l.length) (he : hd = l.take hd.length) (hm : l.length ≤ 4611686018427387904) :
    Calls Tryd.prog 61 #[.slice oa l.length c, vh] w fun r' w' => r' = .returned (.bool true) ∧ Below w.heap.size w w' := by
  obtain ⟨oh, ch, rfl⟩ := hh.len
  have hr : Rd w (.slice oa hd.length c) hd := by
    obtain ⟨oa', c', hv, hr⟩ := hl
    cases hv
    refine ⟨oa, c, rfl, fun h0 => ?_⟩
    obtain ⟨g, o, e, hg, hr⟩ := hr (by omega)
    refine ⟨g, o, e, hg, fun j u hu => hr j u ?_⟩
    rw [he, List.map_take, List.getElem?_take] at hu
    split at hu
    · exact hu
    · cases hu
  have HS := hide (sameBytes_eq w _ _ hd hr hh (by omega))
  have hge : (hd.length : Int) ≤ (l.length : Int) := by omega
  have hgd : decide ((hd.length : Int) ≤ (l.length : Int)) = true := decide_eq_true hge
  have hcc : hd.length ≤ c := by omega
  clear hl hh hr he
  go_enter Tryd.func61, Tryd.ntmps61
  go_wp2_with fail
  refine HS.out.mono ?_
  rintro r' w1 ⟨rfl, b1⟩
  have HB := hide b1
  clear b1 HS
  go_wp2
  go_ret
  exact ⟨rfl, HB.out⟩
/-- an append as a step of a region that draws its order -/
theorem step_append_run {P : Program} {ops : Array Oper} {o : Oper} {a : Act} {w : World} {K : Act → World → Prop} {Q : Exit → Act → World → Prop} {E : Prop} (hgd : o.guard = none) (s x : Operand) (t tx : TypeId)
    (ho : o.op = .call { callee := .builtin .append, args := #[s, x], argTypes := #[t, tx] }) (vs vx : Value) (hs : a.eval s = vs) (hx : a.eval x = vx) (v' : Value) (w' : World)
    (hr : (Builtin.append_ #[t, tx] o.type #[vs, vx]).run P w = .ok v' w') (h : K (a.put o.dst v') w') : if Region.wanted o (yielded ops a.tmps) = true then Oper.wp P o a w K Q else E := by
  have hw : Region.wanted o (yielded ops a.tmps) = true := by simp [Region.wanted, hgd]
  rw [if_pos hw]
  unfold Oper.wp execOp
  simp only [ho, resolve, invoke, builtin, Sem.run_bind, Sem.run_pure, Result.andThen_ok, List.map_toArray, List.map_cons, List.map_nil, hs, hx, hr]
  exact h
theorem own_lt {w : World} {base : Nat} {e : TypeId} {size : Nat} {v : Value} {n : Nat} {xs : List Value} (h : w.ownsRow base e size v n xs) : ∀ g, v.ownBlock = some g → base ≤ g ∧ g < w.heap.size ∧ ∃ cur, w.heap[g]? = some (.cells cur e (0, 0)) := fun g hg => by
  rcases h.2 with ⟨rfl, _⟩ | ⟨g', cap, cur, rfl, h1, h2, _⟩
  · cases hg
  · cases hg; exact ⟨h1, (Array.getElem?_eq_some_iff.1 h2).1, cur, h2⟩
theorem own_keep {w w' : World} {base : Nat} {e : TypeId} {size : Nat} {v : Value} {n : Nat} {xs : List Value} (h : w.ownsRow base e size v n xs) (hk : ∀ g, v.ownBlock = some g → w'.heap[g]? = w.heap[g]?) : w'.ownsRow base e size v n xs := by
  refine ⟨h.1, ?_⟩
  rcases h.2 with h1 | ⟨g, cap, cur, rfl, h1, h2, h3⟩
  · exact Or.inl h1
  · exact Or.inr ⟨g, cap, cur, rfl, h1, (hk g rfl).trans h2, h3⟩
theorem own_form {w : World} {base : Nat} {e : TypeId} {size : Nat} {v : Value} {n : Nat} {xs : List Value} (h : w.ownsRow base e size v n xs) : ∃ o c, v = .slice o n c ∧ n ≤ c := by
  rcases h.2 with ⟨rfl, rfl⟩ | ⟨g, cap, cur, rfl, _, _, h1, _⟩
  · exact ⟨none, 0, rfl, Nat.le_refl _⟩
  · exact ⟨_, cap, rfl, h1⟩
/-- a text's bytes behind a row of one's own -/
theorem append_text (w : World) (base : Nat) (v : Value) (l : List UInt8) (h : w.ownsRow base 5 1 v l.length (l.map B)) (t : ByteArray) (hb : l.length + t.size ≤ 140738562097152) (hbase : base ≤ w.heap.size) :
    ∃ v' W', (Builtin.append_ #[27, 9] 27 #[v, .string t]).run Tryd.prog w = .ok v' W' ∧ W'.ownsRow base 5 1 v' (l ++ t.data.toList).length ((l ++ t.data.toList).map B) ∧ Fr v.ownBlock.toList w W' ∧ (v'.ownBlock = v.ownBlock ∨ ∃ g, v'.ownBlock = some g ∧ w.heap.size ≤ g) := by
  obtain ⟨i0, hi, hz0, hz1, hz2⟩ := info_parts info8
  have hts : t.data.toList.length = t.size := by rw [Array.length_toList]; rfl
  have hbc : byteCells t = t.data.toList.map B := rfl
  have hsrc : Src Tryd.prog i0.size 9 (.string t) t.size (byteCells t) w := by rw [hz1]; exact Src.ofString w Tryd.underlying9 t
  have hlen : (byteCells t).length = t.size := byteCells_length t
  rcases h.2 with ⟨rfl, h0⟩ | ⟨g, cap, cur, rfl, h1, h2, h3, h4, h5, h6⟩
  · obtain rfl : l = [] := List.eq_nil_of_length_eq_zero h0
    by_cases ht : t.size = 0
    · have htn : t.data.toList = [] := List.eq_nil_of_length_eq_zero (by omega)
      refine ⟨.slice none 0 0, w, ?_, by rw [htn]; exact h, Fr.refl _ _, Or.inl rfl⟩
      have : t = ⟨#[]⟩ := by
        apply ByteArray.ext
        apply Array.toList_inj.1
        exact htn
      rw [this]
      simp [Builtin.append_, run_underlying (P := Tryd.prog) Tryd.underlying27, run_underlying (P := Tryd.prog) Tryd.underlying9, sizeOf, typeInfo, hi, Builtin.lenOf, Builtin.firstCells]
      rw [if_pos (show (⟨#[]⟩ : ByteArray) = ByteArray.empty from rfl)]
      rfl
    · have hold : (Builtin.firstCells i0.size 0 (.slice none 0 0)).run Tryd.prog w.drew = .ok ([] : List Value).toArray w.drew := run_firstCells_none w.drew i0.size 0 0 0
      have hrun := run_append_grow_src (P := Tryd.prog) w 27 9 27 5 i0 _ Tryd.underlying27 hi hz0 none 0 0 [] hold _ t.size _ hsrc (by omega) (by omega) (growslice_fits_wide (by omega) (by rw [hz2]; simp at hb; omega))
      have hge := grownCap_ge w (0 + t.size) 0 5
      have hle := grownCap_le_maxLen w (0 + t.size) 0 5 (by unfold maxLen; simp at hb; omega)
      refine ⟨_, _, hrun, ?_, (((Fr.refl _ w).drew).alloc _), Or.inr ⟨w.heap.size, rfl, Nat.le_refl _⟩⟩
      simp only [List.nil_append]
      rw [hts]
      have e0 : 0 + t.size = t.size := Nat.zero_add _
      rw [e0] at hge hle ⊢
      refine ⟨by rw [List.length_map, hts, Nat.mul_one], Or.inr ⟨w.heap.size, _, _, rfl, hbase, heap_alloc_new _ _, hge, hle, ?_, ?_⟩⟩
      · rw [Array.size_append, size_zeroCells, List.size_toArray, hlen]
        show t.size + (_ - _) * 1 = _
        omega
      · rw [Array.toList_append, List.toList_toArray, hbc]
        exact List.take_left' (by rw [List.length_map, hts, Nat.mul_one])
  · have hl : (l.map B).length = l.length := List.length_map ..
    by_cases hroom : l.length + t.size ≤ cap
    · have hrun := run_append_room_src (P := Tryd.prog) w 27 9 27 5 i0 Tryd.underlying27 hi g 0 l.length cap _ t.size _ hsrc hroom
        (fun j hj => by
          rw [hlen] at hj
          have : 0 + l.length * i0.size + j < cur.size := by rw [hz1, h5]; omega
          rw [cell_of h2, Array.getElem?_eq_getElem this]; rfl) (fun j hj => free_of h2 _)
      rw [hz1, Nat.zero_add, Nat.mul_one] at hrun
      have hc2 : w.heap[g]? = some (.cells cur.toList.toArray 5 (0, 0)) := by rw [Array.toArray_toList]; exact h2
      have hcl : cur.toList.length = cap * 1 := (Array.length_toList (xs := cur)).trans h5
      have hst := sets_here hc2 (byteCells t) l.length (by rw [hlen, hcl]; omega)
      refine ⟨_, _, hrun, ⟨by rw [List.length_map, Nat.mul_one], Or.inr ⟨g, cap, _, by rw [List.length_append, hts], h1, hst, by rw [List.length_append, hts]; exact hroom, h4, ?_, ?_⟩⟩, (Fr.refl _ w).sets g _ _ (Or.inl (by simp [Value.ownBlock])), Or.inl rfl⟩
      · rw [List.size_toArray, List.length_append, List.length_append, List.length_take, List.length_drop, hlen, hcl]; omega
      · rw [Nat.mul_one] at h6
        rw [List.toList_toArray, h6, ← List.append_assoc, List.map_append, hbc]
        exact List.take_left' (by rw [← List.map_append, List.length_map, Nat.mul_one])
    · have hcells : ∀ j u, (l.map B)[j]? = some u → w.cell? ((⟨g, 0, none⟩ : Addr).add j) = some u := h.cells (g := g) rfl
      have hold : (Builtin.firstCells i0.size l.length (.slice (some ⟨g, 0, none⟩) l.length cap)).run Tryd.prog w.drew = .ok (l.map B).toArray w.drew := run_firstCells_some w.drew i0.size l.length _ l.length cap (l.map B) (by rw [hl, hz1, Nat.mul_one]) hcells
      have hrun := run_append_grow_src (P := Tryd.prog) w 27 9 27 5 i0 _ Tryd.underlying27 hi hz0 (some ⟨g, 0, none⟩) l.length cap (l.map B) hold _ t.size _ hsrc (by omega) (by omega) (growslice_fits_wide (by omega) (by rw [hz2]; omega))
      have hge := grownCap_ge w (l.length + t.size) cap 5
      have hle := grownCap_le_maxLen w (l.length + t.size) cap 5 (by unfold maxLen; omega)
      refine ⟨_, _, hrun, ⟨by rw [List.length_map, Nat.mul_one], Or.inr ⟨w.heap.size, _, _, by rw [List.length_append, hts], hbase, heap_alloc_new _ _, by rw [List.length_append, hts]; exact hge, hle, ?_, ?_⟩⟩, (((Fr.refl _ w).drew).alloc _), Or.inr ⟨w.heap.size, rfl, Nat.le_refl _⟩⟩
      · rw [Array.size_append, size_zeroCells, List.size_toArray, List.length_append, hlen, hl]
        show l.length + t.size + (_ - _) * 1 = _
        omega
      · rw [Array.toList_append, List.toList_toArray, hbc, ← List.map_append]
        exact List.take_left' (by rw [List.length_map, Nat.mul_one])
end Go.Proofs.YtjfpjgialdkhkaaDoor.dk
