import Derived.Test.YtocpikgcbibcoaaGreatDoorMRdSameD
import Derived.Test.YtocpikgcbibcoaaGreatDoorMRcRows
namespace Go.Proofs.YtocpikgcbibcoaaGreatDoor.rc
open Go.ChangeShapes Go.WideShapes Go.ChangeAt Go.RowKit Go.Proofs.YtocpikgcbibcoaaGreatDoor.common Go.Proofs.YtocpikgcbibcoaaGreatDoor.dk

/-- lists in blocks of their own, rising -/
def Rise (vs : List Value) : Prop := vs.Pairwise (fun a b => ∀ k m, a.ownBlock = some k → b.ownBlock = some m → k < m)
/-- the row of records that is filled, with the slices of their scopes -/
structure Uo (P g n : Nat) (w : World) (xs : List Rec) (vs : List Value) (s : St) (X : World) : Prop where
  un : Un P g n w xs s X
  len : xs.length = vs.length
  rows : ∀ j (h : j < vs.length), X.rangeAt g (j * 9) (rcl9 (xs[j]'(by omega)) vs[j]) ∧ X.ownsRow (g + 1) 9 1 vs[j] (xs[j]'(by omega)).ss.length ((xs[j]'(by omega)).ss.map Value.string)
  ap : Rise vs
theorem uo_nil {P g n : Nat} {w : World} {s : St} {X : World} (h : Un P g n w [] s X) : Uo P g n w [] [] s X := ⟨h, rfl, fun _ hj => absurd hj (Nat.not_lt_zero _), List.Pairwise.nil⟩
theorem Uo.step {P g n : Nat} {w : World} {xs : List Rec} {vs : List Value} {s s' : St} {X Y Z : World} (h : Uo P g n w xs vs s X) (hf : Fr [P] X Y) (hr : Rs w.heap.size P Y s') (hb : Below Y.heap.size Y Z) : Uo P g n w xs vs s' Z ∧ ∀ v ∈ vs, ∀ k, v.ownBlock = some k → k < Y.heap.size := by
  have hpg := h.un.pg
  have hgX := h.un.lt
  have e1 : ∀ k, k < X.heap.size → k ≠ P → Z.heap[k]? = X.heap[k]? := fun k hk hn => (hb.block k (Nat.lt_of_lt_of_le hk hf.size)).trans (hf.block k hk (fun hm => hn (List.mem_singleton.1 hm)))
  refine ⟨⟨h.un.step hf hr hb, h.len, fun j hj => ?_, h.ap⟩, fun v hv k hk => ?_⟩
  · obtain ⟨h1, h2⟩ := h.rows j hj
    refine ⟨range_block h1 (e1 g hgX (by omega)), ?_⟩
    exact own_below (own_pq h2 (p := P) (q := P) (hf.mono (fun k hk => by rw [List.mem_singleton.1 hk]; exact List.mem_cons_self ..)) (by omega) (by omega)) hb
  · obtain ⟨j, hj, rfl⟩ := List.getElem_of_mem hv
    have := ((h.rows j hj).2.lt k hk).2
    have := hf.size
    omega
theorem Uo.put {P g n B0 : Nat} {w : World} {xs : List Rec} {vs : List Value} {s : St} {X : World} (h : Uo P g n w xs vs s X) (r : Rec) (v : Value) (hB : ∀ u ∈ vs, ∀ k, u.ownBlock = some k → k < B0) (hgB : g + 1 ≤ B0) (hv : X.ownsRow B0 9 1 v r.ss.length (r.ss.map Value.string)) (hi : xs.length < n) :
    Uo P g n w (xs ++ [r]) (vs ++ [v]) s (X.setCells g (xs.length * 9) (rcl9 r v)) := by
  have hgX := h.un.lt
  have hl := h.len
  obtain ⟨cur, h1, h2⟩ := h.un.box
  have h9 : (rcl9 r v).length = 9 := rfl
  have hth : X.there g (xs.length * 9) 9 := there_of h1 _ _ (by omega)
  have hv' := own_least hv hgB
  have ho : ∀ {z : Value} {m : Nat} {ys : List Value}, X.ownsRow (g + 1) 9 1 z m ys → (X.setCells g (xs.length * 9) (rcl9 r v)).ownsRow (g + 1) 9 1 z m ys := fun hz => own_at hz (fun k hk => sets_other _ _ _ _ _ (by omega))
  refine ⟨h.un.put r v hv' hi, by simp [hl], fun j hj => ?_, ?_⟩
  · by_cases hjl : j < vs.length
    · have e : (xs ++ [r])[j]'(by simp; omega) = xs[j]'(by omega) := List.getElem_append_left (by omega)
      have e' : (vs ++ [v])[j] = vs[j] := List.getElem_append_left hjl
      obtain ⟨q1, q2⟩ := h.rows j hjl
      rw [e, e']
      refine ⟨World.rangeAt_setCells_apart q1 _ _ _ (Or.inr (Or.inl ?_)), ho q2⟩
      show j * 9 + 9 ≤ xs.length * 9
      omega
    · have e : j = vs.length := by simp at hj; omega
      subst e
      have e2 : (xs ++ [r])[vs.length]'(by simp; omega) = r := by simp [← hl]
      have e3 : (vs ++ [v])[vs.length] = v := List.getElem_concat_length rfl _
      rw [e2, e3, ← hl]
      exact ⟨World.rangeAt_setCells_same _ _ _ _ (by rw [h9]; exact hth), ho hv'⟩
  · unfold Rise
    rw [List.pairwise_append]
    refine ⟨h.ap, List.pairwise_singleton .., fun a ha b hb k m hk hm => ?_⟩
    rw [List.mem_singleton.1 hb] at hm
    have h3 := hB a ha k hk
    have h4 := (hv.lt m hm).1
    omega
theorem Uo.own {P g n : Nat} {w : World} {xs : List Rec} {vs : List Value} {s : St} {X : World} (h : Uo P g n w xs vs s X) (hn : xs.length = n) (h4 : n ≤ 4) : OwnR w.heap.size X (.slice (some ⟨g, 0, none⟩) n n) xs vs := by
  obtain ⟨cur, h1, h2⟩ := h.un.box
  have hpg := h.un.pg
  have hl := h.len
  have hlen := rcc_len xs vs hl
  have hcur : cur = rcc xs vs := by
    apply List.ext_getElem?
    intro i
    by_cases hi : i < n * 9
    · have hj : i / 9 < xs.length := by omega
      have h3 := (h.rows (i / 9) (by omega)).1
      have hr9 : i % 9 < (rcl9 (xs[i / 9]'hj) (vs[i / 9]'(by omega))).length := Nat.mod_lt _ (by decide)
      obtain ⟨x, hx⟩ : ∃ x, (rcl9 (xs[i / 9]'hj) (vs[i / 9]'(by omega)))[i % 9]? = some x := ⟨_, List.getElem?_eq_getElem hr9⟩
      have h5 := h3 (i % 9) x hx
      have h6 := rcc_get xs vs hl (i / 9) hj (i % 9) x hx
      have e : i / 9 * 9 + i % 9 = i := by omega
      rw [e] at h5 h6
      rw [h6]
      simp only [World.cell?, h1] at h5
      simpa using h5
    · rw [List.getElem?_eq_none (by omega), List.getElem?_eq_none (by omega)]
  refine ⟨hl, ⟨hlen, Or.inr ⟨g, n, cur.toArray, by rw [hn], by omega, h1, by omega, by unfold maxLen; omega, ?_, ?_⟩⟩, fun i hi => own_least (h.rows i hi).2 (by omega)⟩
  · simp [h2]
  · rw [hn, List.take_of_length_le (by simp [h2]), ← hcur]
def UnOut2 (p : List UInt8) (Y N : Value) (w : World) (x : Ending) (w' : World) : Prop :=
  ∃ (o : Option (List Rec)) (v' : Value) (vs : List Value), x = .returned (.tuple #[v', if o.isSome then Y else N]) ∧ OwnR w.heap.size w' v' (o.getD []) vs ∧ Rise vs ∧ Below w.heap.size w w' ∧ UnR p o
end Go.Proofs.YtocpikgcbibcoaaGreatDoor.rc

namespace Go.Proofs.YtocpikgcbibcoaaGreatDoor.rc
open Go.ChangeShapes Go.WideShapes Go.ChangeAt Go.RowKit Go.Proofs.YtocpikgcbibcoaaGreatDoor.common Go.Proofs.YtocpikgcbibcoaaGreatDoor.dk
attribute [local go_sem ↓] Go.wp_at_zero Go.wp_at_succ

set_option maxRecDepth 100000 in
set_option maxHeartbeats 12800000 in
theorem unpackO_any (l : List UInt8) (v : Value) (ea em : Addr) (e : Nat → Addr) (w : World) (hv : Lo w.heap.size w v l) (hl : l.length ≤ 1048576) (he : Env ea em (errw.E e 0) w) (ht : w.cell? ⟨2, 0, none⟩ = some (errw.E e 1)) :
    Calls Tryz.prog 9 #[v] w (UnOut2 l .nilIface (errw.E e 1) w) := by
  obtain ⟨i0, hi, hz0, hz1, hz2⟩ := info_parts infoRc
  obtain ⟨ov, cv, hvv⟩ : ∃ ov cv, v = .slice ov l.length cv := by obtain ⟨a, b, h, _⟩ := hv; exact ⟨a, b, h⟩
  obtain ⟨W, hW⟩ : ∃ W, W = (w.alloc (.cells #[v, .bool false] 55)).alloc (.cells #[.int .i64 0] 3) := ⟨_, rfl⟩
  have hbW : Below w.heap.size w W := by rw [hW]; exact ((Below.refl _ _).alloc (Nat.le_refl _) _).alloc (by simp) _
  have hzW : W.heap.size = w.heap.size + 2 := by rw [hW]; simp
  have h0 : W.heap[w.heap.size]? = some (.cells #[v, .bool false] 55 (0, 0)) := by
    rw [hW]
    exact (heap_alloc_old _ _ (by simp)).trans (heap_alloc_new w _)
  have h1 : W.heap[w.heap.size + 1]? = some (.cells #[.int .i64 0] 3 (0, 0)) := by
    rw [hW]
    have := heap_alloc_new (w.alloc (.cells #[v, .bool false] 55)) (.cells #[.int .i64 0] 3 (0, 0))
    rw [World.size_alloc] at this
    exact this
  have hrs : Rs w.heap.size w.heap.size W (some l) := ⟨hl, v, h0, hv.keep (fun g hg _ => hbW.block g hg) hbW.size⟩
  have HNU := hide (number_any w.heap.size w.heap.size (w.heap.size + 1) 0 #[.int .i64 0] 3 0 (some l) W hrs h1 rfl (by omega) (Nat.le_refl _) (by omega))
  have HENV : Hid (∀ X, Below w.heap.size w X → Env ea em (errw.E e 0) X ∧ X.cell? ⟨2, 0, none⟩ = some (errw.E e 1)) := fun X hX => ⟨he.below hX, (hX.cell (p := ⟨2, 0, none⟩) (World.block_lt_of_cell? w _ ht)).trans ht⟩
  have HBW := hide hbW
  have HZW := hide hzW
  have HW := hide hW
  subst hvv
  clear hv he ht hbW h0 h1 hrs hW hzW
  go_enter Tryz.func9, Tryz.ntmps9
  go_wp2_with fail
  rw [← HW.out]
  refine HNU.out.mono ?_
  rintro x w1 ⟨rfl, n, s1, hst, -, hR, hc, hF1⟩
  have c0 : w1.cell? ⟨w.heap.size + 1, 0, none⟩ = some (.int .i64 (n : Int)) := cell_of hc 0
  have HB1 : Hid (Below w.heap.size w w1) := HBW.out.trans (hF1.below (fun k hk => by
    rcases List.mem_cons.1 hk with h | h
    · omega
    · have := List.mem_singleton.1 h; omega) HBW.out.size)
  have HST := hide hst
  have HR := hide hR
  have hs1 : w.heap.size + 2 ≤ w1.heap.size := by rw [← HZW.out]; exact hF1.size
  have ct := (HENV.out w1 HB1.out).2
  clear hst hR hc hF1 HNU
  by_cases hn1 : n < 1
  · have k1 : (n : Int) < 1 := by omega
    have k1b : decide ((n : Int) < 1) = true := decide_eq_true k1
    have HUN := hide (un_few (fun y a b c d => (num_on HST.out y a b c d).1) (Or.inl hn1))
    go_wp2_with fail
    go_quiet (fail)
    go_wp2_with fail
    go_ret2
    unfold UnOut2
    exact ⟨none, .slice none 0 0, [], rfl, OwnR.nil _ _, List.Pairwise.nil, bdN HB1.out _, HUN.out⟩
  have k1 : ¬ (n : Int) < 1 := by omega
  have k1b : decide ((n : Int) < 1) = false := decide_eq_false k1
  by_cases hn4 : 4 < n
  · have k2 : (4 : Int) < (n : Int) := by omega
    have k2b : decide ((4 : Int) < (n : Int)) = true := decide_eq_true k2
    have HUN := hide (un_few (fun y a b c d => (num_on HST.out y a b c d).1) (Or.inr hn4))
    go_wp2_with fail
    go_quiet (fail)
    go_wp2_with fail
    go_ret2
    unfold UnOut2
    exact ⟨none, .slice none 0 0, [], rfl, OwnR.nil _ _, List.Pairwise.nil, bdN HB1.out _, HUN.out⟩
  have k2 : ¬ (4 : Int) < (n : Int) := by omega
  have k2b : decide ((4 : Int) < (n : Int)) = false := decide_eq_false k2
  have hN4 : n ≤ 4 := by omega
  have hN1 : 0 < n := by omega
  obtain ⟨X, hX⟩ : ∃ X, X = w1.alloc (.cells (madeCells zrec (n * i0.size)) 26) := ⟨_, rfl⟩
  have HU0 : Hid (Un w.heap.size w1.heap.size n w [] s1 X) := by
    have bX : Below w1.heap.size w1 X := by rw [hX]; exact (Below.refl _ _).alloc (Nat.le_refl _) _
    refine ⟨HR.out.keep (fun k _ hs => bX.block k hs) (bX.block _ HR.out.lt) bX.size, ⟨(madeCells zrec (n * i0.size)).toList, ?_, ?_⟩, fun j hj => absurd hj (Nat.not_lt_zero _), keepW HB1.out bX, by omega, Nat.le_refl _⟩
    · rw [hX, Array.toArray_toList]; exact heap_alloc_new w1 _
    · rw [Array.length_toList, size_madeCells, hz1]
  have HX : Hid (X = w1.alloc (.cells (madeCells (Value.agg zrec).cells (n * i0.size)) 26)) := hX
  have HXa : Hid (X = w1.alloc (.cells (madeCells zrec (n * 9)) 26)) := by show _ = _; rw [hX, hz1]
  clear hX ct
  go_wp2_with (refine wpList_make_sz _ rfl _ _ 22 rfl 26 i0 (.agg zrec) Tryz.underlying22 hi hz0 .i64 .i64 n ?c1 ?c2 ?c3 ?c4 ?_)
  case c1 => rfl
  case c2 => rfl
  case c3 => rw [hz2]; omega
  case c4 => omega
  first | rw [← HX.out] | rw [← HXa.out]
  obtain ⟨g, hg⟩ : ∃ g, g = w1.heap.size := ⟨_, rfl⟩
  rw [← hg] at HU0 ⊢
  clear hg
  go_loopw [24] (fun i wr => ∃ (xs : List Rec) (vs : List Value) (s : St), xs.length ≤ n ∧ i = .int .i64 (xs.length : Int) ∧ Uo w.heap.size g n w xs vs s wr ∧ GoodL xs ∧ UBack s1 xs s ∧ UOn xs.length s1 xs s) (fun i _ => n - (intOf i).toNat)
  case atStart => exact ⟨[], [], s1, Nat.zero_le _, rfl, uo_nil HU0.out, (fun r hr => by cases hr), by
    cases s1 with
    | none => exact Or.inl rfl
    | some t => exact Or.inr ⟨t, rfl, rfl⟩, uon_zero _⟩
  case round =>
    obtain ⟨xs, vs, s, hxn, rfl, hun, hgood, hback, hon⟩ := hrel
    have HU := hide hun
    have HG := hide hgood
    have HBK := hide hback
    have HON := hide hon
    clear hun hgood hback hon
    obtain ⟨L, hL⟩ : ∃ L, L = xs.length := ⟨_, rfl⟩
    rw [← hL] at hxn ⊢
    have HLL := hide hL
    clear hL
    by_cases hlt : L < n
    · have j0 : (0 : Int) ≤ (L : Int) := Int.natCast_nonneg _
      have j1 : (L : Int) < (n : Int) := by omega
      have HPC := hide (piece_any w.heap.size w.heap.size s wr HU.out.un.rs (Nat.le_refl _))
      go_wp2_with fail
      refine HPC.out.mono ?_
      rintro x y1 ⟨vp, lp, s', rfl, hlo, hR1, hts, hll, hF1⟩
      obtain ⟨op, cp, rfl⟩ := Rd.len hlo.rd
      have HB1' : Hid (Below w.heap.size w y1) := HU.out.un.low.trans (hF1.below (fun k hk => by rw [List.mem_singleton.1 hk]; exact Nat.le_refl _) HU.out.un.low.size)
      have HDE := hide (decode_any lp _ ea em e y1 hlo.wide hll (HENV.out y1 HB1'.out).1 (HENV.out y1 HB1'.out).2)
      unfold DecOut at HDE
      have HR1 := hide hR1
      have HTS := hide hts
      have HF1 := hide hF1
      clear hlo hR1 hts hll hF1 HPC
      go_wp2_with fail
      refine HDE.out.mono ?_
      rintro x y2 ⟨o, v1, rfl, own1, b2, hd⟩
      obtain ⟨oo1, cc1, rfl⟩ := own_slice own1
      cases o with
      | none =>
        have hd' : DecR (⟨lp.toArray⟩ : ByteArray).data.toList none := by rw [ba_list]; exact hd
        have HUN := hide (uon_none (n := n) (num_on HST.out) HON.out (by rw [← HLL.out]; exact hlt) (fun y l a b => (t_on HTS.out y l a b).1) hd')
        have HBZ : Hid (Below w.heap.size w (y2.alloc (.cells (rcs zR (.slice oo1 zR.ss.length cc1)) 26))) := keepW (keepW HB1'.out b2) ((Below.refl _ _).alloc (Nat.le_refl _) _)
        clear own1 b2 hd hd'
        go_wp2_with fail
        go_ret2
        unfold UnOut2
        exact ⟨none, .slice none 0 0, [], rfl, OwnR.nil _ _, List.Pairwise.nil, HBZ.out, HUN.out⟩
      | some r =>
        have bA : Below y2.heap.size y2 (y2.alloc (.cells (rcs r (.slice oo1 r.ss.length cc1)) 26)) := (Below.refl _ _).alloc (Nat.le_refl _) _
        obtain ⟨hun3, hB3⟩ := HU.out.step HF1.out HR1.out (keepW b2 bA)
        have own3 := own_below own1 bA
        have hgB : g + 1 ≤ y1.heap.size := Nat.le_trans HU.out.un.lt HF1.out.size
        have HTH : Hid ((y2.alloc (.cells (rcs r (.slice oo1 r.ss.length cc1)) 26)).there g (L * 9) 9) := by
          obtain ⟨cur, h1, h2⟩ := hun3.un.box
          exact there_of h1 _ _ (by omega)
        have HRL : Hid ((y2.alloc (.cells (rcs r (.slice oo1 r.ss.length cc1)) 26)).rangeAt y2.heap.size 0 (rcl9 r (.slice oo1 r.ss.length cc1))) := range_of (t := 26) (heap_alloc_new y2 _)
        have HUP : Hid (Uo w.heap.size g n w (xs ++ [r]) (vs ++ [.slice oo1 r.ss.length cc1]) s' ((y2.alloc (.cells (rcs r (.slice oo1 r.ss.length cc1)) 26)).setCells g (L * 9) (rcl9 r (.slice oo1 r.ss.length cc1)))) := by
          show Uo _ _ _ _ _ _ _ _
          rw [HLL.out]
          exact hun3.put r _ hB3 hgB own3 (by rw [← HLL.out]; exact hlt)
        have hd' : DecR (⟨lp.toArray⟩ : ByteArray).data.toList (some r) := by rw [ba_list]; exact hd
        have HNX : Hid (∃ (xs' : List Rec) (vs' : List Value), xs'.length = L + 1 ∧ Uo w.heap.size g n w xs' vs' s' ((y2.alloc (.cells (rcs r (.slice oo1 r.ss.length cc1)) 26)).setCells g (L * 9) (rcl9 r (.slice oo1 r.ss.length cc1))) ∧ GoodL xs' ∧ UBack s1 xs' s' ∧ UOn xs'.length s1 xs' s') := by
          have hl2 : (xs ++ [r]).length = L + 1 := by rw [List.length_append, HLL.out]; rfl
          refine ⟨xs ++ [r], _, hl2, HUP.out, fun q hq => ?_, uback_next HBK.out HTS.out hd', ?_⟩
          · rcases List.mem_append.1 hq with h | h
            · exact HG.out q h
            · rw [List.mem_singleton.1 h]
              obtain ⟨a1, a2, a3, _⟩ := hd.is r rfl
              exact ⟨a1, a2, a3⟩
          · rw [hl2, HLL.out]; exact uon_next HON.out (t_on HTS.out) hd'
        obtain ⟨Z, hZ⟩ : ∃ Z, Z = (y2.alloc (.cells (rcs r (.slice oo1 r.ss.length cc1)) 26)).setCells g (L * 9) (rcs r (.slice oo1 r.ss.length cc1)).toList := ⟨_, rfl⟩
        have HZ := hide hZ
        have HNZ : Hid (∃ (xs' : List Rec) (vs' : List Value), xs'.length = L + 1 ∧ Uo w.heap.size g n w xs' vs' s' Z ∧ GoodL xs' ∧ UBack s1 xs' s' ∧ UOn xs'.length s1 xs' s') := by
          rw [hZ]; exact HNX.out
        clear own1 b2 hd hd' bA hun3 hB3 hgB own3 HUP HDE hZ HNX
        go_wp2_with (first
          | (refine wpList_load_mid rfl 26 (.tmp 8) rfl y2.heap.size 0 rfl _ _ HRL.out Tryz.underlying26 rfl sizeRec ?_)
          | (refine wpList_store_mid rfl 26 (.tmp 38) (.tmp 37) rfl g (L * 9) (rcs r (.slice oo1 r.ss.length cc1)) rfl rfl HTH.out sizeRec (rcs_one _ _ _ _) ?_; rw [← HZ.out]))
        obtain ⟨xs', vs', hl3, e1, e2, e3, e4⟩ := HNZ.out
        refine ⟨⟨xs', vs', s', by omega, ?_, e1, e2, e3, e4⟩, ?_⟩
        · rw [hl3]; go_num
        · simp [intOf]; omega
    · have j1 : ¬ (L : Int) < (n : Int) := by omega
      have hLn : L = n := by omega
      have HDN := hide (isDone_any _ _ s wr HU.out.un.rs)
      have HBL := hide HU.out.un.low
      have ct := (HENV.out wr HU.out.un.low).2
      have HONn : Hid (UOn n s1 xs s) := by rw [← hLn, HLL.out]; exact HON.out
      have HXN : Hid (xs.length = n) := by rw [← HLL.out]; exact hLn
      have HLI := hide (HU.out.own HXN.out hN4)
      clear hLn
      cases hE : isEnd s with
      | false =>
        rw [hE] at HDN
        have HUN := hide (un_no HST.out HONn.out hE)
        clear hE
        go_wp2_with (go_at_call 25; refine HDN.out.mono ?_; rintro x w9 ⟨rfl, h9⟩; obtain rfl := h9.symm)
        go_quiet (fail)
        go_wp2_with fail
        go_ret2
        unfold UnOut2
        exact ⟨none, .slice none 0 0, [], rfl, OwnR.nil _ _, List.Pairwise.nil, bdN HBL.out _, HUN.out⟩
      | true =>
        rw [hE] at HDN
        have HUY := hide (un_yes HST.out HBK.out HONn.out HXN.out HG.out hN1 hN4 hE)
        clear hE
        go_wp2_with (go_at_call 25; refine HDN.out.mono ?_; rintro x w9 ⟨rfl, h9⟩; obtain rfl := h9.symm)
        go_ret2
        unfold UnOut2
        exact ⟨some xs, _, vs, rfl, HLI.out, HU.out.ap, HBL.out, HUY.out⟩
end Go.Proofs.YtocpikgcbibcoaaGreatDoor.rc
