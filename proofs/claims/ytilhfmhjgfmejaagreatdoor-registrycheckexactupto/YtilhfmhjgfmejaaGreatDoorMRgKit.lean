import Derived.Test.YtilhfmhjgfmejaaGreatDoorMRgBase
namespace Go.Proofs.YtilhfmhjgfmejaaGreatDoor.rg
open Go.ChangeShapes Go.WideShapes Go.ChangeAt Go.RowKit Go.Proofs.YtilhfmhjgfmejaaGreatDoor.common Go.Maps
attribute [local go_sem ↓] Go.wp_at_zero Go.wp_at_succ

/-- the ten numbers -/
structure Ten where
  a0 : Int
  a1 : Int
  a2 : Int
  a3 : Int
  a4 : Int
  a5 : Int
  a6 : Int
  a7 : Int
  a8 : Int
  a9 : Int
theorem grown_at {w w' : World} {row : Option Nat} (hg : w.grownBy w' row) {b : Nat} {o : Obj} (h : w.heap[b]? = some o) (hr : ∀ k, row = some k → k ≠ b) : w'.heap[b]? = some o :=
  (hg.block b (Array.getElem?_eq_some_iff.1 h).1 (fun e => hr b e.symm rfl)).trans h
theorem grown_cell (w : World) (a : Addr) (u : Value) : w.grownBy (w.setCell a u) (some a.block) :=
  ⟨rfl, rfl, rfl, by simp [World.setCell], fun k _ hk => Below.heap_setCell _ _ _ _ (fun e => hk (by rw [e]))⟩
theorem own_off {w : World} {base : Nat} {e : TypeId} {size : Nat} {v : Value} {n : Nat} {xs : List Value} (h : w.ownsRow base e size v n xs) (a : Addr) (u : Value) (ha : a.block < base ∨ w.heap.size ≤ a.block ∨ v.ownBlock ≠ some a.block) : (w.setCell a u).ownsRow base e size v n xs := by
  refine h.kept (grown_cell w a u) ?_
  cases hv : v.ownBlock with
  | none => exact Or.inl rfl
  | some g =>
    refine Or.inr fun e => ?_
    have := h.lt g hv
    rcases ha with ha | ha | ha
    · cases e; omega
    · cases e; omega
    · exact ha (hv.trans e)
theorem own_low {w : World} {base base' : Nat} {e : TypeId} {size : Nat} {v : Value} {n : Nat} {xs : List Value} (h : w.ownsRow base e size v n xs) (hb : base' ≤ base) : w.ownsRow base' e size v n xs := by
  refine ⟨h.1, ?_⟩
  rcases h.2 with hh | ⟨g, cap, cur, hv, hg, hr⟩
  · exact Or.inl hh
  · exact Or.inr ⟨g, cap, cur, hv, Nat.le_trans hb hg, hr⟩
theorem form_w {w : World} {base : Nat} {e : TypeId} {size : Nat} {v : Value} {n : Nat} {xs : List Value} (h : w.ownsRow base e size v n xs) : ∃ oa cap, v = .slice oa n cap := by
  rcases h.2 with ⟨h, h0⟩ | ⟨g, cap, cur, h, _⟩
  · exact ⟨none, 0, by rw [h, h0]⟩
  · exact ⟨_, cap, h⟩
theorem rows_ne {w : World} {base base' : Nat} {e e' : TypeId} {z z' : Nat} {v v' : Value} {n n' : Nat} {xs xs' : List Value} (he : e ≠ e') (h : w.ownsRow base e z v n xs) (h' : w.ownsRow base' e' z' v' n' xs') : v.ownBlock = none ∨ v.ownBlock ≠ v'.ownBlock := by
  rcases h.2 with ⟨rfl, _⟩ | ⟨g, cap, cur, rfl, _, hh, _⟩
  · exact Or.inl rfl
  · refine Or.inr ?_
    rcases h'.2 with ⟨rfl, _⟩ | ⟨g', cap', cur', rfl, _, hh', _⟩
    · intro h; cases h
    · intro h
      simp only [Value.ownBlock, Option.some.injEq] at h
      subst h
      rw [hh] at hh'
      cases hh'
      exact he rfl
theorem results_c {fn : Func} {p : Tmp} {ty : TypeId} {P : Program} {w : World} {b o : Nat} {cs : List Value} {d : TypeDesc} (h : fn.results = #[.cell p ty]) (tmps : Array Value) (hx : tmps.getD p undef = .pointer (some ⟨b, o, none⟩))
    (hc : w.rangeAt b o cs) (hu : P.underlying ty = some d) (hd : d.isRow = true) (hi : (P.info? ty).map (·.size) = some cs.length) : (results fn tmps).run P w = .ok (.agg cs.toArray) w := by
  have hx' : tmps[p]?.getD undef = .pointer (some ⟨b, o, none⟩) := by simpa using hx
  simp [results, h, hx', asAddr, run_loadVar_mid w b o ty cs d hc hu hd hi]
theorem heap_three (w : World) (o p q : Obj) : (((w.alloc o).alloc p).alloc q).heap[w.heap.size]? = some o ∧ (((w.alloc o).alloc p).alloc q).heap[w.heap.size + 1]? = some p ∧ (((w.alloc o).alloc p).alloc q).heap[w.heap.size + 2]? = some q := by
  have h1 : (((w.alloc o).alloc p).alloc q).heap = ((w.heap.push o).push p).push q := rfl
  rw [h1]
  refine ⟨?_, ?_, ?_⟩
  · rw [Array.getElem?_push, if_neg (by simp; omega), Array.getElem?_push, if_neg (by simp), Array.getElem?_push, if_pos rfl]
  · rw [Array.getElem?_push, if_neg (by simp), Array.getElem?_push, if_pos (by simp)]
  · rw [Array.getElem?_push, if_pos (by simp)]
theorem heap_new (w : World) (o : Obj) : (w.alloc o).heap[w.heap.size]? = some o := by show (w.heap.push _)[w.heap.size]? = _; simp
theorem heap_old (w : World) (o : Obj) {b : Nat} {p : Obj} (h : w.heap[b]? = some p) : (w.alloc o).heap[b]? = some p := by
  have := (Array.getElem?_eq_some_iff.1 h).1
  show (w.heap.push _)[b]? = _
  rw [Array.getElem?_push, if_neg (by omega), h]
theorem heap_set (w : World) (a : Addr) (u : Value) {b : Nat} {p : Obj} (h : w.heap[b]? = some p) (hn : b ≠ a.block) : (w.setCell a u).heap[b]? = some p := (Below.heap_setCell w a u b hn).trans h
/-- the cells of a block, one by one -/
theorem range_of {w : World} {F : Nat} {l : List Value} {t : TypeId} (h : w.heap[F]? = some (.cells l.toArray t)) : w.rangeAt F 0 l := fun j v hv => by
  rw [Nat.zero_add]
  simp only [World.cell?, h]
  simpa using hv
theorem cell_of {w : World} {F : Nat} {a : Array Value} {t : TypeId} (h : w.heap[F]? = some (.cells a t)) (j : Nat) : w.cell? ⟨F, j, none⟩ = a[j]? := by simp [World.cell?, h]
theorem free_of {w : World} {F : Nat} {a : Array Value} {t : TypeId} (h : w.heap[F]? = some (.cells a t)) (j : Nat) : w.frozen? ⟨F, j, none⟩ = false := by simp [World.frozen?, h]
theorem set_of {w : World} {F : Nat} {a : Array Value} {t : TypeId} (h : w.heap[F]? = some (.cells a t)) (j : Nat) (v : Value) : (w.setCell ⟨F, j, none⟩ v).heap[F]? = some (.cells (a.setIfInBounds j v) t) := by
  simp [World.setCell, Array.getElem?_modify, h]
theorem size_set (w : World) (a : Addr) (u : Value) : (w.setCell a u).heap.size = w.heap.size := by simp [World.setCell]
theorem CAt.range {w : World} {b o : Nat} {x : Cli} {vR vS : Value} (h : CAt w b o x vR vS) : w.rangeAt b o (c1 x (vR, vS)) := by
  obtain ⟨g0, g1, g2, g3, g4, g5, _⟩ := h
  intro j v hv
  match j, hv with
  | 0, hv => cases hv; exact g0
  | 1, hv => cases hv; exact g1
  | 2, hv => cases hv; exact g2
  | 3, hv => cases hv; exact g3
  | 4, hv => cases hv; exact g4
  | 5, hv => cases hv; exact g5
theorem own_ge {w : World} {base : Nat} {e : TypeId} {size : Nat} {v : Value} {n : Nat} {xs : List Value} (h : w.ownsRow base e size v n xs) : ∀ b, v.ownBlock = some b → base ≤ b := fun b hb => (h.lt b hb).1
theorem OwnC.below {base : Nat} {w w' : World} {v : Value} {l : List Cli} {s : List (Value × Value)} (h : OwnC base w v l s) (hb : Below w.heap.size w w') : OwnC base w' v l s :=
  ⟨h.len, bk.own_below h.row hb, fun i hi => bk.own_below (h.to i hi) hb, fun i hi => bk.own_below (h.sc i hi) hb⟩
theorem OwnC.off {base : Nat} {w : World} {v : Value} {l : List Cli} {s : List (Value × Value)} (h : OwnC base w v l s) (a : Addr) (u : Value) (ha : a.block < base) : OwnC base (w.setCell a u) v l s :=
  ⟨h.len, own_off h.row a u (Or.inl ha), fun i hi => own_off (h.to i hi) a u (Or.inl ha), fun i hi => own_off (h.sc i hi) a u (Or.inl ha)⟩
/-- one client more -/
theorem ownC_snoc {base : Nat} {w : World} {v : Value} {l : List Cli} {s : List (Value × Value)} {f : Cli} {u : Value × Value} (hlen : l.length = s.length) (hrow : w.ownsRow base 45 6 v (l.length + 1) (cc l s ++ c1 f u)) (ht : ∀ i (h : i < s.length), w.ownsRow base 9 1 s[i].1 (l[i]'(by omega)).to.length (ss.sc (l[i]'(by omega)).to)) (hs : ∀ i (h : i < s.length), w.ownsRow base 9 1 s[i].2 (l[i]'(by omega)).sc.length (ss.sc (l[i]'(by omega)).sc)) (hu : w.ownsRow base 9 1 u.1 f.to.length (ss.sc f.to)) (hv : w.ownsRow base 9 1 u.2 f.sc.length (ss.sc f.sc)) : OwnC base w v (l ++ [f]) (s ++ [u]) := by
  have key : ∀ i (hi : i < (s ++ [u]).length) (P : Cli → Value × Value → Prop), (∀ i (h : i < s.length), P (l[i]'(by omega)) s[i]) → P f u → P ((l ++ [f])[i]'(by simp at hi ⊢; omega)) (s ++ [u])[i] := by
    intro i hi P h1 h2
    by_cases h : i < s.length
    · have e1 : (s ++ [u])[i] = s[i] := List.getElem_append_left h
      have e2 : (l ++ [f])[i]'(by simp; omega) = l[i]'(by omega) := List.getElem_append_left (by omega)
      rw [e1, e2]
      exact h1 i h
    · have hi2 : i = s.length := by simp at hi; omega
      subst hi2
      have e1 : (s ++ [u])[s.length] = u := by simp
      have e2 : (l ++ [f])[s.length]'(by simp; omega) = f := by
        have : ∀ j (hj : j < (l ++ [f]).length), j = l.length → (l ++ [f])[j] = f := by intro j hj e; subst e; simp
        exact this _ _ hlen.symm
      rw [e1, e2]
      exact h2
  refine ⟨by simp [hlen], ?_, fun i hi => key i hi (fun c p => w.ownsRow base 9 1 p.1 c.to.length (ss.sc c.to)) ht hu, fun i hi => key i hi (fun c p => w.ownsRow base 9 1 p.2 c.sc.length (ss.sc c.sc)) hs hv⟩
  rw [cc_snoc f u l s hlen, List.length_append]
  exact hrow
set_option maxRecDepth 100000 in
/-- 'append(nil, l...)' of users -/
theorem append_users (w : World) {ops : Array Oper} {rest : List Oper} {o : Oper} {a : Act} {Q : Exit → Act → World → Prop} (hgd : o.guard = none) (s x : Operand)
    (ho : o.op = .call { callee := .builtin .append, args := #[s, x], argTypes := #[23, 23] }) (base : Nat) (hs : a.eval s = .slice none 0 0) (v : Value) (l : List Usr) (hx : a.eval x = v) (hl : LiesU w v l)
    (hm : l.length ≤ maxLen) (hb : l.length * 48 ≤ 140737488355328) (hbase : base ≤ w.heap.size)
    (h : ∀ v' w', w'.ownsRow base 47 3 v' l.length (uc l) → w.grownBy w' none → wpList Tryz.prog ops Q rest (a.put o.dst v') w') : wpList Tryz.prog ops Q (o :: rest) a w := by
  obtain ⟨i0, hi, hz0, hz1, hz2⟩ := info_parts infoU
  have hl' := hl
  obtain ⟨oa, cap, rfl, hc⟩ := hl
  cases oa with
  | some ad =>
    exact wpList_append_own w hgd s x 23 ho base 47 i0 _ 3 48 Tryz.underlying23 hi hz0 hz1 hz2 rfl (by decide) _ 0 [] hs (World.ownsRow_nil _ _ _ _) ad l.length cap (uc l) hx (uc_len l) hl'.cells (uc_one l) (by rw [Nat.zero_add]; exact hm) (by rw [Nat.zero_add]; exact hb) hbase (fun v' w' h1 h2 _ => h v' w' (by rw [Nat.zero_add, List.nil_append] at h1; exact h1) h2)
  | none =>
    have h0 : l = [] := by
      cases l with
      | nil => rfl
      | cons p r => obtain ⟨b, o, ho, _⟩ := hc 0 (by simp); cases ho
    subst h0
    refine wpList_plain hgd fun K' hK' => ?_
    unfold Oper.wp execOp
    simp only [ho, resolve, invoke, builtin, Sem.run_bind, Sem.run_pure, Result.andThen_ok, List.map_toArray, List.map_cons, List.map_nil, hs, hx]
    simp [Builtin.append_, run_underlying Tryz.underlying23, sizeOf, typeInfo, hi, Builtin.lenOf, Builtin.firstCells]
    exact hK' _ _ (h _ _ (World.ownsRow_nil _ _ _ _) ⟨rfl, rfl, rfl, Nat.le_refl _, fun _ _ _ => rfl⟩)
end Go.Proofs.YtilhfmhjgfmejaaGreatDoor.rg
