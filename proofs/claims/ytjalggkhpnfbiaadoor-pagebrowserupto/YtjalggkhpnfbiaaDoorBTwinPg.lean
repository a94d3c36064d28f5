import Derived.Test.YtjalggkhpnfbiaaDoorBRefAll
namespace Go.Proofs.YtjalggkhpnfbiaaDoor.pg
open Go.ChangeShapes Go.WideShapes Go.ChangeAt Go.RowKit Go.Proofs.YtjalggkhpnfbiaaDoor.common Go.Maps
attribute [local go_sem ↓] Go.wp_at_zero Go.wp_at_succ

end Go.Proofs.YtjalggkhpnfbiaaDoor.pg

namespace Go.Proofs.YtjalggkhpnfbiaaDoor.pg
open Go.ChangeShapes Go.WideShapes Go.ChangeAt Go.RowKit Go.Proofs.YtjalggkhpnfbiaaDoor.common Go.Maps
attribute [local go_sem ↓] Go.wp_at_zero Go.wp_at_succ

/-- the cells of forms that lie one behind the other, with the slices of their inputs -/
def fc : List Frm → List Value → List Value
  | f :: r, v :: s => .string f.act :: v :: .string f.but :: fc r s
  | _, _ => []
theorem fc_snoc (f : Frm) (v : Value) : ∀ (l : List Frm) (s : List Value), l.length = s.length → fc (l ++ [f]) (s ++ [v]) = fc l s ++ [.string f.act, v, .string f.but]
  | [], [], _ => rfl
  | [], _ :: _, h => by simp at h
  | _ :: _, [], h => by simp at h
  | g :: r, u :: s, h => by
    have := fc_snoc f v r s (by simpa using h)
    show _ :: _ :: _ :: fc (r ++ [f]) (s ++ [v]) = _
    rw [this]; rfl
theorem fc_get : ∀ (l : List Frm) (s : List Value) (hls : l.length = s.length) (i : Nat) (h : i < l.length), (fc l s)[i * 3]? = some (.string l[i].act) ∧ (fc l s)[i * 3 + 1]? = some (s[i]'(by omega)) ∧ (fc l s)[i * 3 + 2]? = some (.string l[i].but)
  | [], _, _, i, h => by simp at h
  | _ :: _, [], hls, _, _ => by simp at hls
  | f :: r, v :: s, _, 0, _ => ⟨rfl, rfl, rfl⟩
  | f :: r, v :: s, hls, i + 1, h => by
    have := fc_get r s (by simpa using hls) i (by simpa using h)
    rw [show (i + 1) * 3 = i * 3 + 1 + 1 + 1 by omega]
    exact this

theorem infoF : (Tryd.prog.info? 31).map (fun i => (i.zero, i.size, i.bytes)) = some (some (.agg #[.string ⟨#[]⟩, .slice none 0 0, .string ⟨#[]⟩]), 3, 56) := by kernel_rfl
theorem infoS : (Tryd.prog.info? 9).map (fun i => (i.zero, i.size, i.bytes)) = some (some (.string ⟨#[]⟩), 1, 16) := by kernel_rfl
theorem sizePg : (Tryd.prog.info? 25).map (·.size) = some 3 := by kernel_rfl

theorem liesS_cells {w : World} {ad : Addr} {n cap : Nat} {xs : List ByteArray} (h : LiesS w (.slice (some ad) n cap) xs) : ∀ j u, (xs.map Value.string)[j]? = some u → w.cell? (ad.add j) = some u := by
  obtain ⟨oa, ca, hv, hc⟩ := h
  cases hv
  intro j u hu
  have hj : j < xs.length := by have := (List.getElem?_eq_some_iff.1 hu).1; rwa [List.length_map] at this
  obtain ⟨b, o, ho, _, c0⟩ := hc j hj
  cases ho
  rw [Addr.add_mid, c0]
  rw [List.getElem?_map, List.getElem?_eq_getElem hj] at hu
  simpa using hu
theorem liesS_of_own {w : World} {base : Nat} {e : TypeId} {v : Value} {l : List ByteArray} (h : w.ownsRow base e 1 v l.length (l.map Value.string)) : LiesS w v l := by
  rcases h.2 with ⟨rfl, h0⟩ | ⟨g, cap, cur, rfl, hg, hh, hn, _, hsz, htk⟩
  · obtain rfl := List.eq_nil_of_length_eq_zero h0
    exact ⟨none, 0, rfl, fun i hi => absurd hi (Nat.not_lt_zero _)⟩
  · refine ⟨_, cap, rfl, fun i hi => ⟨g, 0, rfl, (Array.getElem?_eq_some_iff.1 hh).1, ?_⟩⟩
    have : (cur.toList.take (l.length * 1))[i]? = (l.map Value.string)[i]? := by rw [htk]
    rw [Nat.mul_one, List.getElem?_take_of_lt hi, List.getElem?_map, List.getElem?_eq_getElem hi] at this
    rw [Nat.zero_add]
    simp only [World.cell?, hh]
    simpa using this
/-- 'append(nil, l...)' of texts -/
theorem append_strs (w : World) {ops : Array Oper} {rest : List Oper} {o : Oper} {a : Act} {Q : Exit → Act → World → Prop} (hgd : o.guard = none) (s x : Operand)
    (ho : o.op = .call { callee := .builtin .append, args := #[s, x], argTypes := #[22, 22] }) (base : Nat) (hs : a.eval s = .slice none 0 0) (v : Value) (l : List ByteArray) (hx : a.eval x = v) (hl : LiesS w v l)
    (hm : l.length ≤ maxLen) (hb : l.length * 16 ≤ 140737488355328) (hbase : base ≤ w.heap.size)
    (h : ∀ v' w', w'.ownsRow base 9 1 v' l.length (l.map Value.string) → w.grownBy w' none → wpList Tryd.prog ops Q rest (a.put o.dst v') w') : wpList Tryd.prog ops Q (o :: rest) a w := by
  obtain ⟨i0, hi, hz0, hz1, hz2⟩ := info_parts infoS
  have hl' := hl
  obtain ⟨oa, cap, rfl, hc⟩ := hl
  cases oa with
  | some ad =>
    exact wpList_append_own w hgd s x 22 ho base 9 i0 (.string ⟨#[]⟩) 1 16 Tryd.underlying22 hi hz0 hz1 hz2 rfl (by decide) _ 0 [] hs (World.ownsRow_nil _ _ _ _) ad l.length cap (l.map Value.string) hx (by simp) (liesS_cells hl') (by intro u hu; obtain ⟨x, _, rfl⟩ := List.mem_map.1 hu; rfl) (by rw [Nat.zero_add]; exact hm) (by rw [Nat.zero_add]; exact hb) hbase (fun v' w' h1 h2 _ => h v' w' (by rw [Nat.zero_add, List.nil_append] at h1; exact h1) h2)
  | none =>
    have h0 : l = [] := by
      cases l with
      | nil => rfl
      | cons p r => obtain ⟨b, o, ho, _⟩ := hc 0 (by simp); cases ho
    subst h0
    refine wpList_plain hgd fun K' hK' => ?_
    unfold Oper.wp execOp
    simp only [ho, resolve, invoke, builtin, Sem.run_bind, Sem.run_pure, Result.andThen_ok, List.map_toArray, List.map_cons, List.map_nil, hs, hx]
    simp [Builtin.append_, run_underlying Tryd.underlying22, sizeOf, typeInfo, hi, Builtin.lenOf, Builtin.firstCells]
    exact hK' _ _ (h _ _ (World.ownsRow_nil _ _ _ _) ⟨rfl, rfl, rfl, Nat.le_refl _, fun _ _ _ => rfl⟩)

theorem rows_ne {w : World} {base base' : Nat} {e e' : TypeId} {z z' : Nat} {v v' : Value} {n n' : Nat} {xs xs' : List Value} (he : e ≠ e') (h : w.ownsRow base e z v n xs) (h' : w.ownsRow base' e' z' v' n' xs') : v.ownBlock = none ∨ v.ownBlock ≠ v'.ownBlock := by
  rcases h.2 with ⟨rfl, _⟩ | ⟨g, cap, cur, rfl, _, hh, _⟩
  · exact Or.inl rfl
  · refine Or.inr ?_
    rcases h'.2 with ⟨rfl, _⟩ | ⟨g', cap', cur', rfl, _, hh', _⟩
    · intro h; cases h
    · intro h
      simp only [Value.ownBlock, Option.some.injEq] at h
      subst h
      rw [hh] at hh'
      cases hh'
      exact he rfl
theorem grown_cell (w : World) (a : Addr) (u : Value) : w.grownBy (w.setCell a u) (some a.block) :=
  ⟨rfl, rfl, rfl, by simp [World.setCell], fun k _ hk => Below.heap_setCell _ _ _ _ (fun e => hk (by rw [e]))⟩
theorem own_off {w : World} {base : Nat} {e : TypeId} {size : Nat} {v : Value} {n : Nat} {xs : List Value} (h : w.ownsRow base e size v n xs) (a : Addr) (u : Value) (ha : a.block < base ∨ w.heap.size ≤ a.block) : (w.setCell a u).ownsRow base e size v n xs := by
  refine h.kept (grown_cell w a u) ?_
  cases hv : v.ownBlock with
  | none => exact Or.inl rfl
  | some g =>
    refine Or.inr fun e => ?_
    have := h.lt g hv
    cases e
    omega
theorem form_w {w : World} {base : Nat} {e : TypeId} {size : Nat} {v : Value} {n : Nat} {xs : List Value} (h : w.ownsRow base e size v n xs) : ∃ oa cap, v = .slice oa n cap := by
  rcases h.2 with ⟨h, h0⟩ | ⟨g, cap, cur, h, _⟩
  · exact ⟨none, 0, by rw [h, h0]⟩
  · exact ⟨_, cap, h⟩
theorem grown_at {w w' : World} {row : Option Nat} (hg : w.grownBy w' row) {b : Nat} {o : Obj} (h : w.heap[b]? = some o) (hr : ∀ k, row = some k → k ≠ b) : w'.heap[b]? = some o :=
  (hg.block b (Array.getElem?_eq_some_iff.1 h).1 (fun e => hr b e.symm rfl)).trans h
theorem set3 {w : World} {F : Nat} {x y z : Value} {t : TypeId} (h : w.heap[F]? = some (.cells #[x, y, z] t)) (v : Value) : (w.setCell ⟨F, 1, none⟩ v).heap[F]? = some (.cells #[x, v, z] t) ∧ (w.setCell ⟨F, 2, none⟩ v).heap[F]? = some (.cells #[x, y, v] t) := by
  constructor <;> simp [World.setCell, Array.getElem?_modify, h]
theorem range3 {w : World} {F : Nat} {x y z : Value} {t : TypeId} (h : w.heap[F]? = some (.cells #[x, y, z] t)) : w.rangeAt F 0 [x, y, z] := fun j v hv => by
  rw [Nat.zero_add]
  simp only [World.cell?, h]
  simpa using hv

/-- forms that lie in rows of one's own -/
structure OwnF (base : Nat) (w : World) (v : Value) (l : List Frm) (s : List Value) : Prop where
  len : l.length = s.length
  row : w.ownsRow base 31 3 v l.length (fc l s)
  each : ∀ i (h : i < s.length), w.ownsRow base 28 4 s[i] (l[i]'(by omega)).ins.length (ic (l[i]'(by omega)).ins)
theorem OwnF.lies {base : Nat} {w : World} {v : Value} {l : List Frm} {s : List Value} (h : OwnF base w v l s) : LiesF w v l := by
  rcases h.row.2 with ⟨rfl, h0⟩ | ⟨g, cap, cur, rfl, hg, hh, hn, _, hsz, htk⟩
  · obtain rfl := List.eq_nil_of_length_eq_zero h0
    exact ⟨none, 0, rfl, fun i hi => absurd hi (Nat.not_lt_zero _)⟩
  · refine ⟨_, cap, rfl, fun i hi => ?_⟩
    have hc := h.row.cells (g := g) rfl
    obtain ⟨g0, g1, g2⟩ := fc_get l s h.len i hi
    have k0 := hc _ _ g0
    have k1 := hc _ _ g1
    have k2 := hc _ _ g2
    rw [Addr.add_mid, Nat.zero_add] at k0 k1 k2
    exact ⟨g, 0, _, rfl, (Array.getElem?_eq_some_iff.1 hh).1, by first | exact k0 | (rw [Nat.zero_add]; exact k0), by first | exact k1 | (rw [Nat.zero_add]; exact k1), by first | exact k2 | (rw [Nat.zero_add]; exact k2), liesI_of_own (h.each i _)⟩
theorem OwnF.off {base : Nat} {w : World} {v : Value} {l : List Frm} {s : List Value} (h : OwnF base w v l s) (a : Addr) (u : Value) (ha : a.block < base ∨ w.heap.size ≤ a.block) : OwnF base (w.setCell a u) v l s :=
  ⟨h.len, own_off h.row a u ha, fun i hi => own_off (h.each i hi) a u ha⟩
theorem OwnF.below {base : Nat} {w w' : World} {v : Value} {l : List Frm} {s : List Value} (h : OwnF base w v l s) (hb : Below w.heap.size w w') : OwnF base w' v l s :=
  ⟨h.len, own_below h.row hb, fun i hi => own_below (h.each i hi) hb⟩

end Go.Proofs.YtjalggkhpnfbiaaDoor.pg
