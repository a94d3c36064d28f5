import Derived.Test.YtimbhneegphhbaaGreatDoorRcDec
namespace Go.Proofs.YtimbhneegphhbaaGreatDoor.rc
open Go.Proofs.YtimbhneegphhbaaGreatDoor.common

/-- records that may be, as they are read -/
def GoodL (l : List Rec) : Prop := ∀ r ∈ l, mayB r = true ∧ r.Low ∧ r.ss.length ≤ 16
structure UnR (p : List UInt8) (o : Option (List Rec)) : Prop where
  is : ∀ l, o = some l → 0 < l.length ∧ l.length ≤ 4 ∧ GoodL l ∧ numL l.length ++ l.flatMap oneL = p
  on : ∀ y, 0 < y.length → y.length ≤ 4 → GoodL y → numL y.length ++ y.flatMap oneL = p → o = some y
theorem UnR.one {p : List UInt8} {o o' : Option (List Rec)} (h : UnR p o) (h' : UnR p o') : o = o' := by
  cases o with
  | some l => obtain ⟨a, b, c, d⟩ := h.is l rfl; exact (h'.on l a b c d).symm
  | none =>
    cases o' with
    | none => rfl
    | some l => obtain ⟨a, b, c, d⟩ := h'.is l rfl; exact h.on l a b c d
/-- the bytes of a record as a text -/
def rtx (r : Rec) : ByteArray := ⟨(recL r).toArray⟩
theorem one_tx (r : Rec) : oneL r = txL (rtx r) := by
  unfold oneL txL rtx
  have h : (⟨(recL r).toArray⟩ : ByteArray).size = (recL r).length := by show (recL r).toArray.size = _; simp
  rw [h]
/-- what was written is read, record by record: the first i -/
def UOn (i : Nat) (s : St) (xs : List Rec) (s' : St) : Prop := ∀ y t, GoodL y → i ≤ y.length → s = some (y.flatMap oneL ++ t) → xs = y.take i ∧ s' = some ((y.drop i).flatMap oneL ++ t)
theorem uon_zero (s : St) : UOn 0 s [] s := fun y t _ _ e => ⟨by simp, by simpa using e⟩
/-- what the text at the head of them is -/
theorem uon_head {i : Nat} {s s' : St} {xs y : List Rec} {t : List UInt8} (h : UOn i s xs s') (hy : GoodL y) (hi : i < y.length) (e : s = some (y.flatMap oneL ++ t)) : s' = some (txL (rtx y[i]) ++ ((y.drop (i + 1)).flatMap oneL ++ t)) := by
  rw [(h y t hy (by omega) e).2, List.drop_eq_getElem_cons hi, List.flatMap_cons, one_tx, List.append_assoc]
theorem uon_next {i : Nat} {s s1 s2 : St} {xs : List Rec} {x : ByteArray} {r : Rec} (h : UOn i s xs s1) (hx : ∀ y l, y.size ≤ 30000000 → s1 = some (txL y ++ l) → x = y ∧ s2 = some l) (hd : DecR x.data.toList (some r)) : UOn (i + 1) s (xs ++ [r]) s2 := fun y t hy hi e => by
  have hs1 := uon_head h hy (by omega) e
  have hg := hy y[i] (List.getElem_mem (by omega))
  have hsz : (rtx y[i]).size ≤ 30000000 := by
    have h1 : (rtx y[i]).size = (recL y[i]).length := by unfold rtx; show (recL y[i]).toArray.size = _; simp
    rw [h1]
    exact recL_len hg.2.1 hg.2.2
  obtain ⟨a1, a2⟩ := hx _ _ hsz hs1
  have hx1 : x.data.toList = recL y[i] := by rw [a1]; unfold rtx; simp
  have hr := hd.on y[i] hg.1 hg.2.1 hx1.symm
  refine ⟨?_, a2⟩
  rw [(h y t hy (by omega) e).1, List.take_succ_eq_append_getElem (by omega), Option.some.inj hr]
/-- nothing is read where a record is none -/
theorem uon_none {i n : Nat} {p : List UInt8} {s1 s2 : St} {xs : List Rec} {x : ByteArray} (hn : ∀ y, 0 < y.length → y.length ≤ 4 → GoodL y → numL y.length ++ y.flatMap oneL = p → n = y.length ∧ s1 = some (y.flatMap oneL ++ []))
    (h : UOn i s1 xs s2) (hi : i < n) (hx : ∀ y l, y.size ≤ 30000000 → s2 = some (txL y ++ l) → x = y) (hd : DecR x.data.toList none) : UnR p none := by
  refine ⟨fun l hl => (by cases hl), fun y h0 h4 hy e => ?_⟩
  obtain ⟨h1, h2⟩ := hn y h0 h4 hy e
  have hs1 := uon_head h hy (by omega) h2
  have hg := hy y[i] (List.getElem_mem (by omega))
  have hsz : (rtx y[i]).size ≤ 30000000 := by
    have h1 : (rtx y[i]).size = (recL y[i]).length := by unfold rtx; show (recL y[i]).toArray.size = _; simp
    rw [h1]
    exact recL_len hg.2.1 hg.2.2
  have a1 := hx _ _ hsz hs1
  have hx1 : x.data.toList = recL y[i] := by rw [a1]; unfold rtx; simp
  have hr := hd.on y[i] hg.1 hg.2.1 hx1.symm
  cases hr
end Go.Proofs.YtimbhneegphhbaaGreatDoor.rc

namespace Go.Proofs.YtimbhneegphhbaaGreatDoor.rc
open Go.ChangeShapes Go.WideShapes Go.ChangeAt Go.RowKit Go.Proofs.YtimbhneegphhbaaGreatDoor.common Go.Proofs.YtimbhneegphhbaaGreatDoor.dk
attribute [local go_sem ↓] Go.wp_at_zero Go.wp_at_succ

theorem wpList_make_sz (w : World) {P : Program} {ops : Array Oper} {rest : List Oper} {o : Oper} {a : Act} {Q : Exit → Act → World → Prop}
    (hg : o.guard = none) (l c : Operand) (t : TypeId) (hop : o.op = Op.makeSlice t l c)
    (e : TypeId) (i : TypeInfo) (z : Value) (ht : P.underlying t = some (.slice e)) (hi : P.info? e = some i) (hz : i.zero = some z)
    (kl kc : IntKind) (n : Nat) (hl : a.eval l = .int kl (n : Int)) (hc : a.eval c = .int kc (n : Int)) (hbytes : (i.bytes : Int) * (n : Int) ≤ 281474976710656) (h63 : (n : Int) ≤ 9223372036854775807)
    (hK : wpList P ops Q rest (a.put o.dst (.slice (some ⟨w.heap.size, 0, none⟩) n n)) (w.alloc (.cells (madeCells z.cells (n * i.size)) e))) :
    wpList P ops Q (o :: rest) a w := by
  refine wpList_plain hg fun K hK' => ?_
  have hrun := run_make (P := P) w t e i z ht hi hz kl kc n n (Int.natCast_nonneg _) (Int.le_refl _) hbytes h63
  simp only [Int.toNat_natCast] at hrun
  unfold Oper.wp
  simp [execOp, hop, hl, hc, hrun, Result.andThen]
  exact hK' _ _ hK
theorem Lo.wide {K : Nat} {w : World} {v : Value} {l : List UInt8} (h : Lo K w v l) : Lo w.heap.size w v l := by
  obtain ⟨oa, cap, e, hc, h2⟩ := h
  exact ⟨oa, cap, e, hc, fun h0 => by obtain ⟨g, o, e1, _, e3, e4⟩ := h2 h0; exact ⟨g, o, e1, e3, e3, e4⟩⟩
/-- the row of records that is filled, the reader beside it -/
structure Un (P g n : Nat) (w : World) (xs : List Rec) (s : St) (X : World) : Prop where
  rs : Rs w.heap.size P X s
  box : ∃ cur : List Value, X.heap[g]? = some (.cells cur.toArray 26 (0, 0)) ∧ cur.length = n * 9
  each : ∀ j (h : j < xs.length), ∃ vj, X.rangeAt g (j * 9) (rcl9 xs[j] vj) ∧ X.ownsRow (g + 1) 9 1 vj xs[j].ss.length (xs[j].ss.map Value.string)
  low : Below w.heap.size w X
  pg : P < g ∧ w.heap.size ≤ P
theorem Un.lt {P g n : Nat} {w : World} {xs : List Rec} {s : St} {X : World} (h : Un P g n w xs s X) : g < X.heap.size := by
  obtain ⟨cur, h1, _⟩ := h.box
  exact (Array.getElem?_eq_some_iff.1 h1).1
theorem Un.lies {P g n : Nat} {w : World} {xs : List Rec} {s : St} {X : World} (h : Un P g n w xs s X) (cap : Nat) : LiesR X (.slice (some ⟨g, 0, none⟩) xs.length cap) xs := by
  refine ⟨_, cap, rfl, fun i hi => ?_⟩
  obtain ⟨vj, h1, h2⟩ := h.each i hi
  exact ⟨g, 0, vj, rfl, h.lt, by rw [Nat.zero_add]; exact h1, ss.lies_of_own h2⟩
/-- the reader has read on, and what is new lies above -/
theorem Un.step {P g n : Nat} {w : World} {xs : List Rec} {s s' : St} {X Y Z : World} (h : Un P g n w xs s X) (hf : Fr [P] X Y) (hr : Rs w.heap.size P Y s') (hb : Below Y.heap.size Y Z) : Un P g n w xs s' Z := by
  have hpg := h.pg
  have hgX := h.lt
  have e1 : ∀ k, k < X.heap.size → k ≠ P → Z.heap[k]? = X.heap[k]? := fun k hk hn => (hb.block k (Nat.lt_of_lt_of_le hk hf.size)).trans (hf.block k hk (fun hm => hn (List.mem_singleton.1 hm)))
  refine ⟨hr.keep (fun g' _ hs => hb.block g' hs) (hb.block P hr.lt) hb.size, ?_, fun j hj => ?_, ?_, hpg⟩
  · obtain ⟨cur, h1, h2⟩ := h.box
    exact ⟨cur, (e1 g hgX (by omega)).trans h1, h2⟩
  · obtain ⟨vj, h1, h2⟩ := h.each j hj
    refine ⟨vj, range_block h1 (e1 g hgX (by omega)), ?_⟩
    exact own_below (own_pq h2 (p := P) (q := P) (hf.mono (fun k hk => by rw [List.mem_singleton.1 hk]; exact List.mem_cons_self ..)) (by omega) (by omega)) hb
  · exact (h.low.trans (hf.below (fun k hk => by rw [List.mem_singleton.1 hk]; exact hpg.2) h.low.size)).trans (hb.mono (Nat.le_trans h.low.size hf.size))
/-- a record is laid into the row -/
theorem Un.put {P g n : Nat} {w : World} {xs : List Rec} {s : St} {X : World} (h : Un P g n w xs s X) (r : Rec) (v : Value) (hv : X.ownsRow (g + 1) 9 1 v r.ss.length (r.ss.map Value.string)) (hi : xs.length < n) : Un P g n w (xs ++ [r]) s (X.setCells g (xs.length * 9) (rcl9 r v)) := by
  have hpg := h.pg
  have hgX := h.lt
  obtain ⟨cur, h1, h2⟩ := h.box
  have h9 : (rcl9 r v).length = 9 := rfl
  have hth : X.there g (xs.length * 9) 9 := there_of h1 _ _ (by omega)
  have hb : Below g X (X.setCells g (xs.length * 9) (rcl9 r v)) := ((Fr.refl [g] X).sets g (xs.length * 9) _ (Or.inl (List.mem_singleton.2 rfl))).below (fun k hk => by rw [List.mem_singleton.1 hk]; exact Nat.le_refl _) (by omega)
  have ho : ∀ {z : Value} {m : Nat} {ys : List Value}, X.ownsRow (g + 1) 9 1 z m ys → (X.setCells g (xs.length * 9) (rcl9 r v)).ownsRow (g + 1) 9 1 z m ys := fun hz => own_at hz (fun k hk => sets_other _ _ _ _ _ (by omega))
  refine ⟨h.rs.keep (fun k hk _ => sets_other _ _ _ _ _ (by omega)) (sets_other _ _ _ _ _ (by omega)) hb.size, ?_, fun j hj => ?_, h.low.trans (hb.mono (by omega)), hpg⟩
  · refine ⟨_, sets_here h1 (rcl9 r v) (xs.length * 9) (by omega), ?_⟩
    simp only [List.length_append, List.length_take, List.length_drop]
    omega
  · by_cases hjl : j < xs.length
    · have e : (xs ++ [r])[j] = xs[j] := List.getElem_append_left hjl
      obtain ⟨vj, q1, q2⟩ := h.each j hjl
      rw [e]
      refine ⟨vj, World.rangeAt_setCells_apart q1 _ _ _ (Or.inr (Or.inl ?_)), ho q2⟩
      show j * 9 + 9 ≤ xs.length * 9
      omega
    · have e : j = xs.length := by simp at hj; omega
      subst e
      have e2 : (xs ++ [r])[xs.length] = r := List.getElem_concat_length rfl _
      rw [e2]
      exact ⟨v, World.rangeAt_setCells_same _ _ _ _ (by rw [h9]; exact hth), ho hv⟩
def UnOut (p : List UInt8) (Y N : Value) (w : World) (x : Ending) (w' : World) : Prop :=
  ∃ (o : Option (List Rec)) (v' : Value), x = .returned (.tuple #[v', if o.isSome then Y else N]) ∧ LiesR w' v' (o.getD []) ∧ Below w.heap.size w w' ∧ UnR p o
theorem liesR_nil (w : World) : LiesR w (.slice none 0 0) [] := ⟨none, 0, rfl, fun _ hi => absurd hi (Nat.not_lt_zero _)⟩
end Go.Proofs.YtimbhneegphhbaaGreatDoor.rc

namespace Go.Proofs.YtimbhneegphhbaaGreatDoor.rc
open Go.ChangeShapes Go.WideShapes Go.ChangeAt Go.RowKit Go.Proofs.YtimbhneegphhbaaGreatDoor.common Go.Proofs.YtimbhneegphhbaaGreatDoor.dk
attribute [local go_sem ↓] Go.wp_at_zero Go.wp_at_succ

/-- what the number says of a transaction's bytes -/
theorem num_on {p : List UInt8} {n : Nat} {s : St} (h : NStep (some p) n s) : ∀ y : List Rec, 0 < y.length → y.length ≤ 4 → GoodL y → numL y.length ++ y.flatMap oneL = p → n = y.length ∧ s = some (y.flatMap oneL ++ []) := fun y _ h4 _ e => by
  have := h.on y.length (y.flatMap oneL) (by show _ < _; omega) (by rw [e])
  rw [List.append_nil]
  exact this
theorem un_few {p : List UInt8} {n : Nat} (h : ∀ y : List Rec, 0 < y.length → y.length ≤ 4 → GoodL y → numL y.length ++ y.flatMap oneL = p → n = y.length) (hn : n < 1 ∨ 4 < n) : UnR p none :=
  ⟨fun l hl => (by cases hl), fun y h0 h4 hy e => (by have := h y h0 h4 hy e; omega)⟩
/-- what was read so far is what lies there -/
def UBack (s1 : St) (xs : List Rec) (s : St) : Prop := s = none ∨ ∃ t, s1 = some (xs.flatMap oneL ++ t) ∧ s = some t
theorem uback_next {s1 s s' : St} {xs : List Rec} {x : ByteArray} {r : Rec} (h : UBack s1 xs s) (ht : TStep s x s') (hd : DecR x.data.toList (some r)) : UBack s1 (xs ++ [r]) s' := by
  rcases ht.back with h0 | ⟨t, a1, a2⟩
  · exact Or.inl h0
  · rcases h with h0 | ⟨t', b1, b2⟩
    · rw [h0] at a1; cases a1
    · rw [b2] at a1
      cases a1
      refine Or.inr ⟨t, ?_, a2⟩
      have hr := (hd.is r rfl).2.2.2
      have hx : x = rtx r := by
        unfold rtx
        rw [hr]
      rw [b1, List.flatMap_append, List.flatMap_cons, List.flatMap_nil, List.append_nil, one_tx, ← hx, List.append_assoc]
theorem un_yes {p : List UInt8} {n : Nat} {s1 s : St} {xs : List Rec} (hn : NStep (some p) n s1) (hb : UBack s1 xs s) (ho : UOn n s1 xs s) (hx : xs.length = n) (hg : GoodL xs) (h1 : 0 < n) (h4 : n ≤ 4) (he : isEnd s = true) : UnR p (some xs) := by
  refine ⟨fun l hl => ?_, fun y y0 y4 hy e => ?_⟩
  · cases hl
    refine ⟨by omega, by omega, hg, ?_⟩
    rcases hb with h0 | ⟨t, a1, a2⟩
    · rw [h0] at he; cases he
    · rw [a2] at he
      cases t with
      | cons _ _ => cases he
      | nil =>
        rcases hn.back with h0 | ⟨l2, b1, b2⟩
        · rw [h0] at a1; cases a1
        · rw [b2] at a1
          cases a1
          rw [hx, Option.some.inj b1, List.append_nil]
  · obtain ⟨e1, e2⟩ := num_on hn y y0 y4 hy e
    rw [(ho y [] hy (by omega) e2).1, List.take_of_length_le (by omega)]
theorem un_no {p : List UInt8} {n : Nat} {s1 s : St} {xs : List Rec} (hn : NStep (some p) n s1) (ho : UOn n s1 xs s) (he : isEnd s = false) : UnR p none := by
  refine ⟨fun l hl => (by cases hl), fun y y0 y4 hy e => ?_⟩
  obtain ⟨e1, e2⟩ := num_on hn y y0 y4 hy e
  have := (ho y [] hy (by omega) e2).2
  rw [List.drop_eq_nil_of_le (by omega)] at this
  rw [this] at he
  cases he
theorem t_on {s s' : St} {x : ByteArray} (h : TStep s x s') : ∀ y l, y.size ≤ 30000000 → s = some (txL y ++ l) → x = y ∧ s' = some l := fun y l hy e => h.on y l (by show _ < _; omega) e
theorem ba_list (l : List UInt8) : (⟨l.toArray⟩ : ByteArray).data.toList = l := by simp

set_option maxRecDepth 100000 in
set_option maxHeartbeats 12800000 in
theorem unpack_any (l : List UInt8) (v : Value) (ea em : Addr) (e : Nat → Addr) (w : World) (hv : Lo w.heap.size w v l) (hl : l.length ≤ 1048576) (he : Env ea em (errw.E e 0) w) (ht : w.cell? ⟨2, 0, none⟩ = some (errw.E e 1)) :
    Calls Tryz.prog 17 #[v] w (UnOut l .nilIface (errw.E e 1) w) := by
  obtain ⟨i0, hi, hz0, hz1, hz2⟩ := info_parts infoRc
  obtain ⟨ov, cv, hvv⟩ : ∃ ov cv, v = .slice ov l.length cv := by obtain ⟨a, b, h, _⟩ := hv; exact ⟨a, b, h⟩
  obtain ⟨W, hW⟩ : ∃ W, W = (w.alloc (.cells #[v, .bool false] 55)).alloc (.cells #[.int .i64 0] 3) := ⟨_, rfl⟩
  have hbW : Below w.heap.size w W := by rw [hW]; exact ((Below.refl _ _).alloc (Nat.le_refl _) _).alloc (by simp) _
  have hzW : W.heap.size = w.heap.size + 2 := by rw [hW]; simp
  have h0 : W.heap[w.heap.size]? = some (.cells #[v, .bool false] 55 (0, 0)) := by
    rw [hW]
    exact (heap_alloc_old _ _ (by simp)).trans (heap_alloc_new w _)
  have h1 : W.heap[w.heap.size + 1]? = some (.cells #[.int .i64 0] 3 (0, 0)) := by
    rw [hW]
    have := heap_alloc_new (w.alloc (.cells #[v, .bool false] 55)) (.cells #[.int .i64 0] 3 (0, 0))
    rw [World.size_alloc] at this
    exact this
  have hrs : Rs w.heap.size w.heap.size W (some l) := ⟨hl, v, h0, hv.keep (fun g hg _ => hbW.block g hg) hbW.size⟩
  have HNU := hide (number_any w.heap.size w.heap.size (w.heap.size + 1) 0 #[.int .i64 0] 3 0 (some l) W hrs h1 rfl (by omega) (Nat.le_refl _) (by omega))
  have HENV : Hid (∀ X, Below w.heap.size w X → Env ea em (errw.E e 0) X ∧ X.cell? ⟨2, 0, none⟩ = some (errw.E e 1)) := fun X hX => ⟨he.below hX, (hX.cell (p := ⟨2, 0, none⟩) (World.block_lt_of_cell? w _ ht)).trans ht⟩
  have HBW := hide hbW
  have HZW := hide hzW
  have HW := hide hW
  subst hvv
  clear hv he ht hbW h0 h1 hrs hW hzW
  go_enter Tryz.func17, Tryz.ntmps17
  go_wp2_with fail
  rw [← HW.out]
  refine HNU.out.mono ?_
  rintro x w1 ⟨rfl, n, s1, hst, -, hR, hc, hF1⟩
  have c0 : w1.cell? ⟨w.heap.size + 1, 0, none⟩ = some (.int .i64 (n : Int)) := cell_of hc 0
  have HB1 : Hid (Below w.heap.size w w1) := HBW.out.trans (hF1.below (fun k hk => by
    rcases List.mem_cons.1 hk with h | h
    · omega
    · have := List.mem_singleton.1 h; omega) HBW.out.size)
  have HST := hide hst
  have HR := hide hR
  have hs1 : w.heap.size + 2 ≤ w1.heap.size := by rw [← HZW.out]; exact hF1.size
  have ct := (HENV.out w1 HB1.out).2
  clear hst hR hc hF1 HNU
  by_cases hn1 : n < 1
  · have k1 : (n : Int) < 1 := by omega
    have k1b : decide ((n : Int) < 1) = true := decide_eq_true k1
    have HUN := hide (un_few (fun y a b c d => (num_on HST.out y a b c d).1) (Or.inl hn1))
    go_wp2_with fail
    go_quiet (fail)
    go_wp2_with fail
    go_ret2
    unfold UnOut
    exact ⟨none, .slice none 0 0, rfl, liesR_nil _, bdN HB1.out _, HUN.out⟩
  have k1 : ¬ (n : Int) < 1 := by omega
  have k1b : decide ((n : Int) < 1) = false := decide_eq_false k1
  by_cases hn4 : 4 < n
  · have k2 : (4 : Int) < (n : Int) := by omega
    have k2b : decide ((4 : Int) < (n : Int)) = true := decide_eq_true k2
    have HUN := hide (un_few (fun y a b c d => (num_on HST.out y a b c d).1) (Or.inr hn4))
    go_wp2_with fail
    go_quiet (fail)
    go_wp2_with fail
    go_ret2
    unfold UnOut
    exact ⟨none, .slice none 0 0, rfl, liesR_nil _, bdN HB1.out _, HUN.out⟩
  have k2 : ¬ (4 : Int) < (n : Int) := by omega
  have k2b : decide ((4 : Int) < (n : Int)) = false := decide_eq_false k2
  have hN4 : n ≤ 4 := by omega
  have hN1 : 0 < n := by omega
  obtain ⟨X, hX⟩ : ∃ X, X = w1.alloc (.cells (madeCells zrec (n * i0.size)) 26) := ⟨_, rfl⟩
  have HU0 : Hid (Un w.heap.size w1.heap.size n w [] s1 X) := by
    have bX : Below w1.heap.size w1 X := by rw [hX]; exact (Below.refl _ _).alloc (Nat.le_refl _) _
    refine ⟨HR.out.keep (fun k _ hs => bX.block k hs) (bX.block _ HR.out.lt) bX.size, ⟨(madeCells zrec (n * i0.size)).toList, ?_, ?_⟩, fun j hj => absurd hj (Nat.not_lt_zero _), keepW HB1.out bX, by omega, Nat.le_refl _⟩
    · rw [hX, Array.toArray_toList]; exact heap_alloc_new w1 _
    · rw [Array.length_toList, size_madeCells, hz1]
  have HX : Hid (X = w1.alloc (.cells (madeCells (Value.agg zrec).cells (n * i0.size)) 26)) := hX
  have HXa : Hid (X = w1.alloc (.cells (madeCells zrec (n * 9)) 26)) := by show _ = _; rw [hX, hz1]
  clear hX ct
  go_wp2_with (refine wpList_make_sz _ rfl _ _ 22 rfl 26 i0 (.agg zrec) Tryz.underlying22 hi hz0 .i64 .i64 n ?c1 ?c2 ?c3 ?c4 ?_)
  case c1 => rfl
  case c2 => rfl
  case c3 => rw [hz2]; omega
  case c4 => omega
  first | rw [← HX.out] | rw [← HXa.out]
  obtain ⟨g, hg⟩ : ∃ g, g = w1.heap.size := ⟨_, rfl⟩
  rw [← hg] at HU0 ⊢
  clear hg
  go_loopw [24] (fun i wr => ∃ (xs : List Rec) (s : St), xs.length ≤ n ∧ i = .int .i64 (xs.length : Int) ∧ Un w.heap.size g n w xs s wr ∧ GoodL xs ∧ UBack s1 xs s ∧ UOn xs.length s1 xs s) (fun i _ => n - (intOf i).toNat)
  case atStart => exact ⟨[], s1, Nat.zero_le _, rfl, HU0.out, (fun r hr => by cases hr), by
    cases s1 with
    | none => exact Or.inl rfl
    | some t => exact Or.inr ⟨t, rfl, rfl⟩, uon_zero _⟩
  case round =>
    obtain ⟨xs, s, hxn, rfl, hun, hgood, hback, hon⟩ := hrel
    have HU := hide hun
    have HG := hide hgood
    have HBK := hide hback
    have HON := hide hon
    clear hun hgood hback hon
    obtain ⟨L, hL⟩ : ∃ L, L = xs.length := ⟨_, rfl⟩
    rw [← hL] at hxn ⊢
    have HLL := hide hL
    clear hL
    by_cases hlt : L < n
    · have j0 : (0 : Int) ≤ (L : Int) := Int.natCast_nonneg _
      have j1 : (L : Int) < (n : Int) := by omega
      have HPC := hide (piece_any w.heap.size w.heap.size s wr HU.out.rs (Nat.le_refl _))
      go_wp2_with fail
      refine HPC.out.mono ?_
      rintro x y1 ⟨vp, lp, s', rfl, hlo, hR1, hts, hll, hF1⟩
      obtain ⟨op, cp, rfl⟩ := Rd.len hlo.rd
      have HB1' : Hid (Below w.heap.size w y1) := HU.out.low.trans (hF1.below (fun k hk => by rw [List.mem_singleton.1 hk]; exact Nat.le_refl _) HU.out.low.size)
      have HDE := hide (decode_any lp _ ea em e y1 hlo.wide hll (HENV.out y1 HB1'.out).1 (HENV.out y1 HB1'.out).2)
      unfold DecOut at HDE
      have HR1 := hide hR1
      have HTS := hide hts
      have HF1 := hide hF1
      clear hlo hR1 hts hll hF1 HPC
      go_wp2_with fail
      refine HDE.out.mono ?_
      rintro x y2 ⟨o, v1, rfl, own1, b2, hd⟩
      obtain ⟨oo1, cc1, rfl⟩ := own_slice own1
      cases o with
      | none =>
        have hd' : DecR (⟨lp.toArray⟩ : ByteArray).data.toList none := by rw [ba_list]; exact hd
        have HUN := hide (uon_none (n := n) (num_on HST.out) HON.out (by rw [← HLL.out]; exact hlt) (fun y l a b => (t_on HTS.out y l a b).1) hd')
        have HBZ : Hid (Below w.heap.size w (y2.alloc (.cells (rcs zR (.slice oo1 zR.ss.length cc1)) 26))) := keepW (keepW HB1'.out b2) ((Below.refl _ _).alloc (Nat.le_refl _) _)
        clear own1 b2 hd hd'
        go_wp2_with fail
        go_ret2
        unfold UnOut
        exact ⟨none, .slice none 0 0, rfl, liesR_nil _, HBZ.out, HUN.out⟩
      | some r =>
        have bA : Below y2.heap.size y2 (y2.alloc (.cells (rcs r (.slice oo1 r.ss.length cc1)) 26)) := (Below.refl _ _).alloc (Nat.le_refl _) _
        have hun3 := HU.out.step HF1.out HR1.out (keepW b2 bA)
        have own3 : (y2.alloc (.cells (rcs r (.slice oo1 r.ss.length cc1)) 26)).ownsRow (g + 1) 9 1 (.slice oo1 r.ss.length cc1) r.ss.length (r.ss.map Value.string) := own_least (own_below own1 bA) (Nat.le_trans HU.out.lt HF1.out.size)
        have HTH : Hid ((y2.alloc (.cells (rcs r (.slice oo1 r.ss.length cc1)) 26)).there g (L * 9) 9) := by
          obtain ⟨cur, h1, h2⟩ := hun3.box
          exact there_of h1 _ _ (by omega)
        have HRL : Hid ((y2.alloc (.cells (rcs r (.slice oo1 r.ss.length cc1)) 26)).rangeAt y2.heap.size 0 (rcl9 r (.slice oo1 r.ss.length cc1))) := range_of (t := 26) (heap_alloc_new y2 _)
        have HUP : Hid (Un w.heap.size g n w (xs ++ [r]) s' ((y2.alloc (.cells (rcs r (.slice oo1 r.ss.length cc1)) 26)).setCells g (L * 9) (rcl9 r (.slice oo1 r.ss.length cc1)))) := by
          show Un _ _ _ _ _ _ _
          rw [HLL.out]
          exact hun3.put r _ own3 (by rw [← HLL.out]; exact hlt)
        have hd' : DecR (⟨lp.toArray⟩ : ByteArray).data.toList (some r) := by rw [ba_list]; exact hd
        have HNX : Hid (∃ xs' : List Rec, xs'.length = L + 1 ∧ Un w.heap.size g n w xs' s' ((y2.alloc (.cells (rcs r (.slice oo1 r.ss.length cc1)) 26)).setCells g (L * 9) (rcl9 r (.slice oo1 r.ss.length cc1))) ∧ GoodL xs' ∧ UBack s1 xs' s' ∧ UOn xs'.length s1 xs' s') := by
          have hl2 : (xs ++ [r]).length = L + 1 := by rw [List.length_append, HLL.out]; rfl
          refine ⟨xs ++ [r], hl2, HUP.out, fun q hq => ?_, uback_next HBK.out HTS.out hd', ?_⟩
          · rcases List.mem_append.1 hq with h | h
            · exact HG.out q h
            · rw [List.mem_singleton.1 h]
              obtain ⟨a1, a2, a3, _⟩ := hd.is r rfl
              exact ⟨a1, a2, a3⟩
          · rw [hl2, HLL.out]; exact uon_next HON.out (t_on HTS.out) hd'
        obtain ⟨Z, hZ⟩ : ∃ Z, Z = (y2.alloc (.cells (rcs r (.slice oo1 r.ss.length cc1)) 26)).setCells g (L * 9) (rcs r (.slice oo1 r.ss.length cc1)).toList := ⟨_, rfl⟩
        have HZ := hide hZ
        have HNZ : Hid (∃ xs' : List Rec, xs'.length = L + 1 ∧ Un w.heap.size g n w xs' s' Z ∧ GoodL xs' ∧ UBack s1 xs' s' ∧ UOn xs'.length s1 xs' s') := by
          rw [hZ]; exact HNX.out
        clear own1 b2 hd hd' bA hun3 own3 HUP HDE hZ HNX
        go_wp2_with (first
          | (refine wpList_load_mid rfl 26 (.tmp 8) rfl y2.heap.size 0 rfl _ _ HRL.out Tryz.underlying26 rfl sizeRec ?_)
          | (refine wpList_store_mid rfl 26 (.tmp 38) (.tmp 37) rfl g (L * 9) (rcs r (.slice oo1 r.ss.length cc1)) rfl rfl HTH.out sizeRec (rcs_one _ _ _ _) ?_; rw [← HZ.out]))
        obtain ⟨xs', hl3, e1, e2, e3, e4⟩ := HNZ.out
        refine ⟨⟨xs', s', by omega, ?_, e1, e2, e3, e4⟩, ?_⟩
        · rw [hl3]; go_num
        · simp [intOf]; omega
    · have j1 : ¬ (L : Int) < (n : Int) := by omega
      have hLn : L = n := by omega
      have HDN := hide (isDone_any _ _ s wr HU.out.rs)
      have HLI := hide (HU.out.lies n)
      have HBL := hide HU.out.low
      have ct := (HENV.out wr HU.out.low).2
      have HONn : Hid (UOn n s1 xs s) := by rw [← hLn, HLL.out]; exact HON.out
      have HXN : Hid (xs.length = n) := by rw [← HLL.out]; exact hLn
      rw [HXN.out] at HLI
      clear hLn
      cases hE : isEnd s with
      | false =>
        rw [hE] at HDN
        have HUN := hide (un_no HST.out HONn.out hE)
        clear hE
        go_wp2_with (go_at_call 26; refine HDN.out.mono ?_; rintro x w9 ⟨rfl, h9⟩; obtain rfl := h9.symm)
        go_quiet (fail)
        go_wp2_with fail
        go_ret2
        unfold UnOut
        exact ⟨none, .slice none 0 0, rfl, liesR_nil _, bdN HBL.out _, HUN.out⟩
      | true =>
        rw [hE] at HDN
        have HUY := hide (un_yes HST.out HBK.out HONn.out HXN.out HG.out hN1 hN4 hE)
        clear hE
        go_wp2_with (go_at_call 26; refine HDN.out.mono ?_; rintro x w9 ⟨rfl, h9⟩; obtain rfl := h9.symm)
        go_ret2
        unfold UnOut
        exact ⟨some xs, _, rfl, HLI.out, HBL.out, HUY.out⟩
end Go.Proofs.YtimbhneegphhbaaGreatDoor.rc
