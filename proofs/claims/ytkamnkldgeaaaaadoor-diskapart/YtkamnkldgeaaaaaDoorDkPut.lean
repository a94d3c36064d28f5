import Derived.Test.YtkamnkldgeaaaaaDoorDkCut
import Derived.Test.YtkamnkldgeaaaaaDoorErrWalks
namespace Go.Proofs.YtkamnkldgeaaaaaDoor.dk
open Go.ChangeShapes Go.WideShapes Go.ChangeAt Go.RowKit Go.Proofs.YtkamnkldgeaaaaaDoor.common

/-- the refusals lie below K -/
structure Er (w : World) (K : Nat) (e : Nat → Addr) : Prop where
  errs : errw.Errs w e
  size : K ≤ w.heap.size
  lt : ∀ i, i < 13 → errw.errG.getD i 0 < K ∧ (e i).block < K
theorem er_of {w : World} {e : Nat → Addr} (h : errw.Errs w e) : Er w w.heap.size e :=
  ⟨h, Nat.le_refl _, fun i hi => ⟨World.block_lt_of_cell? w _ (h.cell i hi), by obtain ⟨c, t, hr⟩ := h.row i hi; exact (Array.getElem?_eq_some_iff.1 hr).1⟩⟩
theorem Er.fr {w w' : World} {K : Nat} {e : Nat → Addr} {F : List Nat} (h : Er w K e) (hf : Fr F w w') (hF : ∀ k ∈ F, K ≤ k) : Er w' K e := by
  have hk : ∀ k, k < K → w'.heap[k]? = w.heap[k]? := fun k hk => hf.block k (Nat.lt_of_lt_of_le hk h.size) (fun hm => by have := hF k hm; omega)
  refine ⟨⟨fun i hi => ?_, h.errs.ne, fun i hi => ?_⟩, Nat.le_trans h.size hf.size, h.lt⟩
  · rw [← h.errs.cell i hi]
    exact World.cell?_of_block (hk _ (h.lt i hi).1)
  · obtain ⟨c, t, hr⟩ := h.errs.row i hi
    exact ⟨c, t, (hk _ (h.lt i hi).2).trans hr⟩
theorem Er.below {w w' : World} {K : Nat} {e : Nat → Addr} (h : Er w K e) (hb : Below w.heap.size w w') : Er w' K e := h.fr (F := []) (Fr.of hb) (fun k hk => by cases hk)
theorem Rd.keepL {w w' : World} {v : Value} {l : List UInt8} (h : Rd w v l) (hb : 0 < l.length → ∀ oa n cap, v = .slice (some oa) n cap → w'.heap[oa.block]? = w.heap[oa.block]?) (hs : w.heap.size ≤ w'.heap.size) : Rd w' v l := by
  obtain ⟨oa, cap, rfl, h⟩ := h
  refine ⟨oa, cap, rfl, fun hl => ?_⟩
  obtain ⟨g, o, rfl, hg, hr⟩ := h hl
  exact ⟨g, o, rfl, by omega, range_block hr (hb hl _ _ _ rfl)⟩
/-- two of the refusals, ErrArg and ErrDead, lie below K -/
structure Ed (w : World) (K : Nat) (e : Nat → Addr) : Prop where
  arg : w.cell? ⟨0, 0, none⟩ = some (errw.E e 0)
  dead : w.cell? ⟨7, 0, none⟩ = some (errw.E e 9)
  size : K ≤ w.heap.size
  lt : 0 < K ∧ 7 < K
theorem Ed.fr {w w' : World} {K : Nat} {e : Nat → Addr} {F : List Nat} (h : Ed w K e) (hf : Fr F w w') (hF : ∀ k ∈ F, K ≤ k) : Ed w' K e := by
  have hk : ∀ k, k < K → w'.heap[k]? = w.heap[k]? := fun k hk => hf.block k (Nat.lt_of_lt_of_le hk h.size) (fun hm => by have := hF k hm; omega)
  refine ⟨?_, ?_, Nat.le_trans h.size hf.size, h.lt⟩
  · rw [← h.arg]
    exact World.cell?_of_block (hk _ h.lt.1)
  · rw [← h.dead]
    exact World.cell?_of_block (hk _ h.lt.2)
theorem Ed.below {w w' : World} {K : Nat} {e : Nat → Addr} (h : Ed w K e) (hb : Below w.heap.size w w') : Ed w' K e := h.fr (F := []) (Fr.of hb) (fun k hk => by cases hk)
theorem Er.full {w : World} {K : Nat} {e : Nat → Addr} (h : Er w K e) : w.cell? ⟨8, 0, none⟩ = some (errw.E e 8) := h.errs.cell 8 (by decide)
theorem Er.dead {w : World} {K : Nat} {e : Nat → Addr} (h : Er w K e) : w.cell? ⟨7, 0, none⟩ = some (errw.E e 9) := h.errs.cell 9 (by decide)
theorem Er.arg {w : World} {K : Nat} {e : Nat → Addr} (h : Er w K e) : w.cell? ⟨0, 0, none⟩ = some (errw.E e 0) := h.errs.cell 0 (by decide)
theorem Er.ed {w : World} {K : Nat} {e : Nat → Addr} (h : Er w K e) : Ed w K e := ⟨h.arg, h.dead, h.size, (h.lt 0 (by decide)).1, (h.lt 9 (by decide)).1⟩

theorem wpList_append_run {P : Program} {w : World} {ops : Array Oper} {rest : List Oper} {o : Oper} {a : Act} {Q : Exit → Act → World → Prop} (hgd : o.guard = none) (s x : Operand) (t tx : TypeId)
    (ho : o.op = .call { callee := .builtin .append, args := #[s, x], argTypes := #[t, tx] }) (vs vx : Value) (hs : a.eval s = vs) (hx : a.eval x = vx) (v' : Value) (w' : World)
    (hr : (Builtin.append_ #[t, tx] o.type #[vs, vx]).run P w = .ok v' w') (h : wpList P ops Q rest (a.put o.dst v') w') : wpList P ops Q (o :: rest) a w := by
  refine wpList_plain hgd fun K hK => ?_
  unfold Oper.wp execOp
  simp only [ho, resolve, invoke, builtin, Sem.run_bind, Sem.run_pure, Result.andThen_ok, List.map_toArray, List.map_cons, List.map_nil, hs, hx, hr]
  exact hK _ _ h
theorem zeros_size (k : Nat) : (Builtin.zeroCells (Value.int .u8 0).cells k).size = k := by rw [size_zeroCells]; simp [Value.cells]

/-- Grow where there is no room: the append -/
theorem grow_run (w : World) (gb : Option Nat) (ao : Option Addr) (n cap m : Nat) (xs : List Value) (h : Ln w 5 1 gb (.slice ao n cap) n xs) (hc : cap < n + m) (hm : n + m ≤ 140737488355328) :
    ∃ cap' W', (Builtin.append_ #[25, 3] 25 #[.slice ao cap cap, .int .i64 ((m : Int) - ((cap : Int) - (n : Int)))]).run Tryd.prog w = .ok (.slice (some ⟨w.heap.size, 0, none⟩) (n + m) cap') W' ∧ n + m ≤ cap' ∧
      Ln W' 5 1 (some w.heap.size) (.slice (some ⟨w.heap.size, 0, none⟩) n cap') n xs ∧ Below w.heap.size w W' := by
  obtain ⟨i0, hi, hz0, hz1, hz2⟩ := info_parts info8
  have hcn := h.cap
  have hl := h.1
  obtain ⟨k, hk⟩ : ∃ k : Nat, cap + k = n + m := ⟨n + m - cap, by omega⟩
  have ek : (m : Int) - ((cap : Int) - (n : Int)) = (k : Int) := by omega
  have hold : ∃ olds : List Value, olds.length = cap ∧ olds.take n = xs ∧ (Builtin.firstCells i0.size cap (.slice ao cap cap)).run Tryd.prog w.drew = .ok olds.toArray w.drew := by
    rcases h.2 with ⟨_, h0, ao', hv⟩ | ⟨g, o, c, _, hv, _, _, _, _, h4, h5⟩
    · cases hv
      refine ⟨[], rfl, ?_, ?_⟩
      · have : xs = [] := List.eq_nil_of_length_eq_zero (by omega)
        rw [this]; simp
      · cases ao with
        | none => exact run_firstCells_none w.drew i0.size 0 0 0
        | some a => exact run_firstCells_some w.drew i0.size 0 a 0 0 [] (by simp) (by simp)
    · cases hv
      refine ⟨(List.range cap).map fun j => (w.cell? ⟨g, o + j, none⟩).getD (.int .u8 0), by simp, ?_, ?_⟩
      · apply List.ext_getElem
        · simp; omega
        · intro j h1 h2
          have h6 := h5 j xs[j] (List.getElem?_eq_getElem h2)
          simp [h6]
      · refine run_firstCells_some w.drew i0.size cap _ cap cap _ (by simp [hz1]) (fun j u hu => ?_)
        rw [Addr.add_mid]
        have hj : j < cap := by have := (List.getElem?_eq_some_iff.1 hu).1; simpa using this
        have h6 := (h4 j (by omega)).1
        obtain ⟨y, hy⟩ := Option.isSome_iff_exists.1 h6
        have e1 : ((List.range cap).map fun j => (w.cell? ⟨g, o + j, none⟩).getD (.int .u8 0))[j]? = some y := by simp [hj, hy]
        rw [e1] at hu
        cases hu
        exact hy
  obtain ⟨olds, o1, o2, o3⟩ := hold
  have hrun := Lib.run_append_grow_zeros (P := Tryd.prog) w 25 3 25 5 i0 (.int .u8 0) .i64 .i64 Tryd.underlying25 Tryd.underlying3 hi hz0 ao cap cap olds o3 k (by omega) (by omega) (by omega) (by omega) (by rw [hz2]; omega) (growslice_fits (by omega) (by rw [hz2]; omega))
  rw [← ek, hk] at hrun
  have hge := grownCap_ge w (n + m) cap 5
  have hnew := heap_alloc_new w.drew (.cells (olds.toArray ++ Builtin.zeroCells (Value.int .u8 0).cells k ++ Builtin.zeroCells (Value.int .u8 0).cells (grownCap w (n + m) cap 5 - (n + m))) 5)
  refine ⟨_, _, hrun, hge, ⟨hl, Or.inr ⟨w.heap.size, 0, _, rfl, rfl, ⟨_, hnew⟩, by omega, by omega, grownCap_le_maxLen w (n + m) cap _ (by unfold maxLen; omega), fun j hj => ?_, fun j u hu => ?_⟩⟩, ?_⟩
  · generalize grownCap w (n + m) cap 5 = C at *
    have hsz : (olds.toArray ++ Builtin.zeroCells (Value.int .u8 0).cells k ++ Builtin.zeroCells (Value.int .u8 0).cells (C - (n + m))).size = C := by
      rw [Array.size_append, Array.size_append, zeros_size, zeros_size, List.size_toArray, o1]; omega
    generalize olds.toArray ++ Builtin.zeroCells (Value.int .u8 0).cells k ++ Builtin.zeroCells (Value.int .u8 0).cells (C - (n + m)) = A at *
    generalize w.drew.alloc (.cells A 5) = Y at *
    have hnew' : Y.heap[w.heap.size]? = some (.cells A 5 (0, 0)) := hnew
    have : 0 + j < A.size := by omega
    exact ⟨by simp only [World.cell?, hnew', Array.getElem?_eq_getElem this]; rfl, by simp [World.frozen?, hnew']⟩
  · generalize grownCap w (n + m) cap 5 = C at *
    have hj := (List.getElem?_eq_some_iff.1 hu).1
    have hu2 : (olds.toArray ++ Builtin.zeroCells (Value.int .u8 0).cells k ++ Builtin.zeroCells (Value.int .u8 0).cells (C - (n + m)))[0 + j]? = some u := by
      rw [← o2, List.getElem?_take] at hu
      split at hu
      · rw [Array.append_assoc, Array.getElem?_append_left (by rw [List.size_toArray]; omega), Nat.zero_add, List.getElem?_toArray]
        exact hu
      · cases hu
    generalize olds.toArray ++ Builtin.zeroCells (Value.int .u8 0).cells k ++ Builtin.zeroCells (Value.int .u8 0).cells (C - (n + m)) = A at *
    generalize w.drew.alloc (.cells A 5) = Y at *
    have hnew' : Y.heap[w.heap.size]? = some (.cells A 5 (0, 0)) := hnew
    simp only [World.cell?, hnew', hu2]
    rfl
  · exact (((Fr.refl [] w).drew).alloc _).below (fun k hk => by cases hk) (Nat.le_refl _)

set_option maxRecDepth 100000 in
set_option maxHeartbeats 800000 in
theorem grow_any (w : World) (gb : Option Nat) (ao : Option Addr) (n cap m : Nat) (xs : List Value) (h : Ln w 5 1 gb (.slice ao n cap) n xs) (hm : n + m ≤ 140737488355328) :
    Calls Tryd.prog 45 #[.slice ao n cap, .int .i64 (m : Int)] w fun e w' => ∃ gb' ao' cap', e = .returned (.slice ao' n cap') ∧ n + m ≤ cap' ∧ Ln w' 5 1 gb' (.slice ao' n cap') n xs ∧ (gb' = gb ∨ gb' = some w.heap.size) ∧ Below w.heap.size w w' := by
  have hcn := h.cap
  have hcm := h.capm
  unfold maxLen at hcm
  by_cases hc : cap < n + m
  · obtain ⟨cap', W', hrun, h1, h2, h3⟩ := grow_run w gb ao n cap m xs h hc hm
    have H2 := hide h2
    have H3 := hide h3
    clear h h2 h3
    go_enter Tryd.func45, Tryd.ntmps45
    go_wp2_with (at_builtin; refine wpList_append_run rfl _ _ 25 3 rfl _ _ rfl rfl _ _ hrun ?_)
    go_ret
    exact ⟨some w.heap.size, _, cap', rfl, h1, H2.out, Or.inr rfl, H3.out⟩
  · have HH := hide h
    clear h
    go_enter Tryd.func45, Tryd.ntmps45
    go_wp2
    go_ret
    exact ⟨gb, _, cap, rfl, by omega, HH.out, Or.inl rfl, Below.refl _ _⟩

/-- bytes put into the room of a line -/
theorem Ln.fill {w : World} {e : TypeId} {g o n cap : Nat} {xs : List Value} (h : Ln w e 1 (some g) (.slice (some ⟨g, o, none⟩) n cap) n xs) (news : List Value) (hr : n + news.length ≤ cap) :
    Ln (w.setCells g (o + n) news) e 1 (some g) (.slice (some ⟨g, o, none⟩) (n + news.length) cap) (n + news.length) (xs ++ news) := by
  have hl := h.1
  refine ⟨by rw [List.length_append]; omega, ?_⟩
  rcases h.2 with ⟨h0, _⟩ | ⟨g', o', cap', h0, hv, ⟨cur, hc⟩, h2, h3, hm, h4, h5⟩
  · cases h0
  cases h0
  cases hv
  have ht : w.there g (o + n) news.length := fun j hj => by
    have := h4 (n + j) (by omega)
    rwa [← Nat.add_assoc] at this
  refine Or.inr ⟨g, o, cap, rfl, rfl, cells_sets g _ _ _ _ hc, by omega, by omega, hm, World.there_setCells h4 _ _ _, ?_⟩
  have r1 : (w.setCells g (o + n) news).rangeAt g o xs := World.rangeAt_setCells_apart h5 g (o + n) news (Or.inr (Or.inl (by omega)))
  have r2 := World.rangeAt_setCells_same w g (o + n) news ht
  intro j u hu
  by_cases hj : j < xs.length
  · rw [List.getElem?_append_left hj] at hu
    exact r1 j u hu
  · rw [List.getElem?_append_right (by omega)] at hu
    have := r2 (j - xs.length) u hu
    have e1 : o + n + (j - xs.length) = o + j := by omega
    rwa [e1] at this
theorem Ln.at {w : World} {e : TypeId} {size : Nat} {gb : Option Nat} {ao : Option Addr} {n cap : Nat} {xs : List Value} (h : Ln w e size gb (.slice ao n cap) n xs) (hc : 0 < cap) : ∃ g o, gb = some g ∧ ao = some ⟨g, o, none⟩ ∧ w.there g o (cap * size) := by
  rcases h.2 with ⟨_, _, _, hv⟩ | ⟨g, o, c, h0, hv, _, _, _, _, h4, _⟩
  · cases hv; omega
  · cases hv; exact ⟨g, o, h0, rfl, h4⟩
theorem put_fits {x : St} {l : List UInt8} (h : x.b.length + l.length ≤ x.r) : x.put l = ⟨x.b ++ l, x.s, x.r, x.a, x.d⟩ ∧ x.fits l = true := by
  have : x.fits l = true := decide_eq_true h
  exact ⟨by unfold St.put; rw [if_pos this], this⟩
theorem put_full {x : St} {l : List UInt8} (h : ¬ x.b.length + l.length ≤ x.r) : x.put l = x ∧ x.fits l = false := by
  have : x.fits l = false := decide_eq_false h
  exact ⟨by unfold St.put; rw [this]; rfl, this⟩
/-- what put answers -/
def putV (e : Nat → Addr) (x : St) (l : List UInt8) : Value := if x.fits l then .nilIface else errw.E e 8
/-- bytes that lie apart from a disk -/
def Rd' (w : World) (F : List Nat) (v : Value) (l : List UInt8) : Prop := Rd w v l ∧ ∀ a n c, v = .slice (some a) n c → a.block ∉ F
set_option maxRecDepth 100000 in
set_option maxHeartbeats 1600000 in
theorem put_any (w : World) (K p : Nat) (F : List Nat) (x : St) (h : Dk w p F x) (v : Value) (l : List UInt8) (hv : Rd w v l) (hvF : 0 < l.length → ∀ a n c, v = .slice (some a) n c → a.block ∉ F) (e : Nat → Addr) (he : Er w K e) (hr : x.r ≤ 1073741824) (hb : x.b.length ≤ 140737488355328) (hl : l.length ≤ 9223372036854775807) :
    Calls Tryd.prog 23 #[ptr p, v] w fun r w' => r = .returned (putV e x l) ∧ Mv w p F (x.put l) w' := by
  obtain ⟨gb, ga, vb, va, rfl, h⟩ := h
  obtain ⟨oa, c, rfl, hv⟩ := hv
  obtain ⟨ao, cap, rfl⟩ := h.bytes.len
  have c0 : w.cell? ⟨p, 0, none⟩ = some (.slice ao x.b.length cap) := cell_of h.cell 0
  have c2 : w.cell? ⟨p, 2, none⟩ = some (.int .i64 (x.r : Int)) := cell_of h.cell 2
  have HK := hide h
  by_cases hf : x.b.length + l.length ≤ x.r
  · obtain ⟨e1, e2⟩ := put_fits hf
    unfold putV
    rw [e1, e2, if_pos rfl]
    have hc : decide ((x.r : Int) - (x.b.length : Int) < (l.length : Int)) = false := by rw [decide_eq_false_iff_not]; omega
    have hc2 : ¬ ((x.r : Int) - (x.b.length : Int) < (l.length : Int)) := by omega
    have HV := hide hv
    have HVF := hide hvF
    clear h e1 e2 he hv hvF
    go_enter Tryd.func23, Tryd.ntmps23
    go_wp2_with fail
    go_quiet (fail)
    have c0' : (w.drewN nq).cell? ⟨p, 0, none⟩ = some (.slice ao x.b.length cap) := c0
    go_wp2_with fail
    refine (grow_any (w.drewN nq) gb ao x.b.length cap l.length (x.b.map B) (HK.out.drewN nq).bytes (by omega)).mono ?_
    rintro r w1 ⟨gb', ao', cap', rfl, hcap, hln, hgb, hb1⟩
    have hk1 := (HK.out.drewN nq).below hb1
    have d0 : w1.cell? ⟨p, 0, none⟩ = some (.slice ao x.b.length cap) := cell_of hk1.cell 0
    have f0 : w1.frozen? ⟨p, 0, none⟩ = false := free_of hk1.cell 0
    have HF1 : Hid (Fr (fp p gb ga) w w1) := ((Fr.refl (fp p gb ga) w).drewN nq).next hb1
    have hpl : p < w1.heap.size := hk1.lt p (fp_p _ _ _)
    have HSUB : Hid (∀ k ∈ fp p gb' ga, k ∈ fp p gb ga ∨ w.heap.size ≤ k) := fun k hk => by
      rcases fp_cases hk with rfl | h | h
      · exact Or.inl (fp_p _ _ _)
      · rcases hgb with e | e
        · exact Or.inl (fp_b (e ▸ h))
        · rw [e] at h
          cases h
          exact Or.inr (Nat.le_refl _)
      · exact Or.inl (fp_a h)
    have hne := ne_of_type hk1.cell hln (by decide)
    have hcm := hln.capm
    unfold maxLen at hcm
    by_cases hm0 : l.length = 0
    · obtain rfl : l = [] := List.eq_nil_of_length_eq_zero hm0
      have HK2 : Hid (∀ c', c' = cap' → Lk (w1.setCell ⟨p, 0, none⟩ (.slice ao' x.b.length c')) p gb' ga (.slice ao' x.b.length c') va ⟨x.b, x.s, x.r, x.a, x.d⟩) := fun c' e => by subst e; exact hk1.at0 x.b hln
      have hcp : ∀ W d dl dc, (Builtin.copy_ #[25, 25] 3 #[.slice d dl dc, .slice oa 0 c]).run Tryd.prog W = .ok (goInt 0) W := fun W d dl dc => run_copy_none (P := Tryd.prog) W 25 25 3 5 _ _ _ _ _ _ Tryd.underlying25 size8 (Nat.zero_min _)
      have hl0 : ([] : List UInt8).length = 0 := rfl
      rw [hl0] at *
      have g0 : (w1.setCell ⟨p, 0, none⟩ (.slice ao' x.b.length cap')).cell? ⟨p, 0, none⟩ = some (.slice ao' x.b.length cap') := cell_of (HK2.out _ rfl).cell 0
      have HFF : Hid (∀ c', Fr (fp p gb ga) w (w1.setCell ⟨p, 0, none⟩ (.slice ao' x.b.length c'))) := fun c' => HF1.out.set ⟨p, 0, none⟩ _ (Or.inl (fp_p _ _ _))
      have hbl := hln.cap
      clear hln hk1 hgb hb1 hne HF1
      go_wp2
      all_goals
        go_ret
        first
          | exact ⟨rfl, fp p gb' ga, ⟨gb', ga, _, va, rfl, HK2.out _ rfl⟩, HFF.out _, HSUB.out⟩
          | exact ⟨rfl, fp p gb' ga, ⟨gb', ga, _, va, rfl, HK2.out _ (by omega)⟩, HFF.out _, HSUB.out⟩
    · have hcap0 : ¬ cap' = x.b.length := by omega
      obtain ⟨g', o', rfl, rfl, hth⟩ := hln.at (by omega)
      have hgp := hne g' rfl
      have hk2 := hk1.at0 x.b hln
      have hlw : Ln (w1.setCell ⟨p, 0, none⟩ (.slice (some ⟨g', o', none⟩) (x.b.length + l.length) cap')) 5 1 (some g') (.slice (some ⟨g', o', none⟩) x.b.length cap') x.b.length (x.b.map B) := hln.keep fun k hk => set_other _ _ _ _ (by show k ≠ p; cases hk; exact hgp)
      have hlf := hlw.fill (l.map B) (by rw [List.length_map]; omega)
      rw [List.length_map] at hlf
      have hcp := copy_run (w1.setCell ⟨p, 0, none⟩ (.slice (some ⟨g', o', none⟩) (x.b.length + l.length) cap')) g' (o' + x.b.length) l.length (cap' - x.b.length) oa c l (fun h0 => by
        obtain ⟨gs, os, rfl, hgs, hrs⟩ := HV.out h0
        have hnF := HVF.out h0 _ _ _ rfl
        have e1 : (w1.setCell ⟨p, 0, none⟩ (.slice (some ⟨g', o', none⟩) (x.b.length + l.length) cap')).heap[gs]? = w.heap[gs]? := by
          rw [set_other _ _ _ _ (fun e => hnF (by show gs ∈ _; rw [show gs = p from e]; exact fp_p _ _ _))]
          exact HF1.out.block gs hgs hnF
        exact ⟨gs, os, rfl, by rw [size_set]; have := HF1.out.size; omega, range_block hrs e1⟩) (Nat.le_refl _) (fun j hj => by
        have := there_block hth (w' := w1.setCell ⟨p, 0, none⟩ (.slice (some ⟨g', o', none⟩) (x.b.length + l.length) cap')) (set_other _ _ _ _ hgp) (x.b.length + j) (by omega)
        rwa [← Nat.add_assoc] at this)
      have hLK : Lk ((w1.setCell ⟨p, 0, none⟩ (.slice (some ⟨g', o', none⟩) (x.b.length + l.length) cap')).setCells g' (o' + x.b.length) (l.map B)) p (some g') ga (.slice (some ⟨g', o', none⟩) (x.b.length + l.length) cap') va ⟨x.b ++ l, x.s, x.r, x.a, x.d⟩ := by
        have ha : ∀ k, ga = some k → k ≠ p ∧ k ≠ g' := fun k hk => ⟨hk1.ne.2.1 k hk, fun e => by
          obtain ⟨_, c1, hc1⟩ := hln.lt g' rfl
          obtain ⟨_, c2, hc2⟩ := hk1.arms.lt k hk
          rw [e, hc1] at hc2
          simp at hc2⟩
        refine ⟨?_, ?_, hk1.arms.keep fun k hk => ?_⟩
        · rw [sets_other _ _ _ _ _ (Ne.symm hgp)]
          exact set_of hk1.cell 0 _
        · show Ln _ _ _ _ _ (x.b ++ l).length ((x.b ++ l).map B)
          rw [List.length_append, List.map_append]
          exact hlf
        · rw [sets_other _ _ _ _ _ (ha k hk).2, set_other _ _ _ _ (ha k hk).1]
      have HKK := hide hLK
      have HFF := hide ((HF1.out.set ⟨p, 0, none⟩ (.slice (some ⟨g', o', none⟩) (x.b.length + l.length) cap') (Or.inl (fp_p _ _ _))).sets g' (o' + x.b.length) (l.map B) (by
        rcases hgb with e | e
        · exact Or.inl (fp_b e.symm)
        · cases e
          exact Or.inr (Nat.le_refl _)))
      have g0 : (w1.setCell ⟨p, 0, none⟩ (.slice (some ⟨g', o', none⟩) (x.b.length + l.length) cap')).cell? ⟨p, 0, none⟩ = some (.slice (some ⟨g', o', none⟩) (x.b.length + l.length) cap') := cell_of (set_of hk1.cell 0 _) 0
      clear hln hk1 hgb hb1 hne HF1 hk2 hlw hlf hLK hth
      go_wp2
      go_ret
      exact ⟨rfl, fp p (some g') ga, ⟨some g', ga, _, va, rfl, HKK.out⟩, HFF.out, HSUB.out⟩
  · obtain ⟨e1, e2⟩ := put_full hf
    unfold putV
    rw [e1, e2, if_neg (by decide)]
    have hc : decide ((x.r : Int) - (x.b.length : Int) < (l.length : Int)) = true := by rw [decide_eq_true_iff]; omega
    have hc2 : (x.r : Int) - (x.b.length : Int) < (l.length : Int) := by omega
    have cE := he.full
    clear h e1 e2 he hv hvF
    go_enter Tryd.func23, Tryd.ntmps23
    go_wp2_with fail
    go_quiet (fail)
    go_wp2
    go_ret
    exact ⟨rfl, fp p gb ga, ⟨gb, ga, _, va, rfl, HK.out.drewN nq⟩, (Fr.refl _ _).drewN nq, fun k hk => Or.inl hk⟩
end Go.Proofs.YtkamnkldgeaaaaaDoor.dk
