import Derived.Test.YtocpikgcbibcoaaGreatDoorMRcUn
import Derived.Test.YtocpikgcbibcoaaGreatDoorMRcRows
namespace Go.Proofs.YtocpikgcbibcoaaGreatDoor.rc
open Go.ChangeShapes Go.WideShapes Go.ChangeAt Go.RowKit Go.Proofs.YtocpikgcbibcoaaGreatDoor.common Go.Proofs.YtocpikgcbibcoaaGreatDoor.dk
attribute [local go_sem ↓] Go.wp_at_zero Go.wp_at_succ

/-- what the number says of a transaction's bytes -/
theorem num_on {p : List UInt8} {n : Nat} {s : St} (h : NStep (some p) n s) : ∀ y : List Rec, 0 < y.length → y.length ≤ 4 → GoodL y → numL y.length ++ y.flatMap oneL = p → n = y.length ∧ s = some (y.flatMap oneL ++ []) := fun y _ h4 _ e => by
  have := h.on y.length (y.flatMap oneL) (by show _ < _; omega) (by rw [e])
  rw [List.append_nil]
  exact this
theorem un_few {p : List UInt8} {n : Nat} (h : ∀ y : List Rec, 0 < y.length → y.length ≤ 4 → GoodL y → numL y.length ++ y.flatMap oneL = p → n = y.length) (hn : n < 1 ∨ 4 < n) : UnR p none :=
  ⟨fun l hl => (by cases hl), fun y h0 h4 hy e => (by have := h y h0 h4 hy e; omega)⟩
/-- what was read so far is what lies there -/
def UBack (s1 : St) (xs : List Rec) (s : St) : Prop := s = none ∨ ∃ t, s1 = some (xs.flatMap oneL ++ t) ∧ s = some t
theorem uback_next {s1 s s' : St} {xs : List Rec} {x : ByteArray} {r : Rec} (h : UBack s1 xs s) (ht : TStep s x s') (hd : DecR x.data.toList (some r)) : UBack s1 (xs ++ [r]) s' := by
  rcases ht.back with h0 | ⟨t, a1, a2⟩
  · exact Or.inl h0
  · rcases h with h0 | ⟨t', b1, b2⟩
    · rw [h0] at a1; cases a1
    · rw [b2] at a1
      cases a1
      refine Or.inr ⟨t, ?_, a2⟩
      have hr := (hd.is r rfl).2.2.2
      have hx : x = rtx r := by
        unfold rtx
        rw [hr]
      rw [b1, List.flatMap_append, List.flatMap_cons, List.flatMap_nil, List.append_nil, one_tx, ← hx, List.append_assoc]
theorem un_yes {p : List UInt8} {n : Nat} {s1 s : St} {xs : List Rec} (hn : NStep (some p) n s1) (hb : UBack s1 xs s) (ho : UOn n s1 xs s) (hx : xs.length = n) (hg : GoodL xs) (h1 : 0 < n) (h4 : n ≤ 4) (he : isEnd s = true) : UnR p (some xs) := by
  refine ⟨fun l hl => ?_, fun y y0 y4 hy e => ?_⟩
  · cases hl
    refine ⟨by omega, by omega, hg, ?_⟩
    rcases hb with h0 | ⟨t, a1, a2⟩
    · rw [h0] at he; cases he
    · rw [a2] at he
      cases t with
      | cons _ _ => cases he
      | nil =>
        rcases hn.back with h0 | ⟨l2, b1, b2⟩
        · rw [h0] at a1; cases a1
        · rw [b2] at a1
          cases a1
          rw [hx, Option.some.inj b1, List.append_nil]
  · obtain ⟨e1, e2⟩ := num_on hn y y0 y4 hy e
    rw [(ho y [] hy (by omega) e2).1, List.take_of_length_le (by omega)]
theorem un_no {p : List UInt8} {n : Nat} {s1 s : St} {xs : List Rec} (hn : NStep (some p) n s1) (ho : UOn n s1 xs s) (he : isEnd s = false) : UnR p none := by
  refine ⟨fun l hl => (by cases hl), fun y y0 y4 hy e => ?_⟩
  obtain ⟨e1, e2⟩ := num_on hn y y0 y4 hy e
  have := (ho y [] hy (by omega) e2).2
  rw [List.drop_eq_nil_of_le (by omega)] at this
  rw [this] at he
  cases he
theorem t_on {s s' : St} {x : ByteArray} (h : TStep s x s') : ∀ y l, y.size ≤ 30000000 → s = some (txL y ++ l) → x = y ∧ s' = some l := fun y l hy e => h.on y l (by show _ < _; omega) e
theorem ba_list (l : List UInt8) : (⟨l.toArray⟩ : ByteArray).data.toList = l := by simp

set_option maxRecDepth 100000 in
set_option maxHeartbeats 12800000 in
theorem unpack_any (l : List UInt8) (v : Value) (ea em : Addr) (e : Nat → Addr) (w : World) (hv : Lo w.heap.size w v l) (hl : l.length ≤ 1048576) (he : Env ea em (errw.E e 0) w) (ht : w.cell? ⟨2, 0, none⟩ = some (errw.E e 1)) :
    Calls Tryz.prog 9 #[v] w (UnOut l .nilIface (errw.E e 1) w) := by
  obtain ⟨i0, hi, hz0, hz1, hz2⟩ := info_parts infoRc
  obtain ⟨ov, cv, hvv⟩ : ∃ ov cv, v = .slice ov l.length cv := by obtain ⟨a, b, h, _⟩ := hv; exact ⟨a, b, h⟩
  obtain ⟨W, hW⟩ : ∃ W, W = (w.alloc (.cells #[v, .bool false] 55)).alloc (.cells #[.int .i64 0] 3) := ⟨_, rfl⟩
  have hbW : Below w.heap.size w W := by rw [hW]; exact ((Below.refl _ _).alloc (Nat.le_refl _) _).alloc (by simp) _
  have hzW : W.heap.size = w.heap.size + 2 := by rw [hW]; simp
  have h0 : W.heap[w.heap.size]? = some (.cells #[v, .bool false] 55 (0, 0)) := by
    rw [hW]
    exact (heap_alloc_old _ _ (by simp)).trans (heap_alloc_new w _)
  have h1 : W.heap[w.heap.size + 1]? = some (.cells #[.int .i64 0] 3 (0, 0)) := by
    rw [hW]
    have := heap_alloc_new (w.alloc (.cells #[v, .bool false] 55)) (.cells #[.int .i64 0] 3 (0, 0))
    rw [World.size_alloc] at this
    exact this
  have hrs : Rs w.heap.size w.heap.size W (some l) := ⟨hl, v, h0, hv.keep (fun g hg _ => hbW.block g hg) hbW.size⟩
  have HNU := hide (number_any w.heap.size w.heap.size (w.heap.size + 1) 0 #[.int .i64 0] 3 0 (some l) W hrs h1 rfl (by omega) (Nat.le_refl _) (by omega))
  have HENV : Hid (∀ X, Below w.heap.size w X → Env ea em (errw.E e 0) X ∧ X.cell? ⟨2, 0, none⟩ = some (errw.E e 1)) := fun X hX => ⟨he.below hX, (hX.cell (p := ⟨2, 0, none⟩) (World.block_lt_of_cell? w _ ht)).trans ht⟩
  have HBW := hide hbW
  have HZW := hide hzW
  have HW := hide hW
  subst hvv
  clear hv he ht hbW h0 h1 hrs hW hzW
  go_enter Tryz.func9, Tryz.ntmps9
  go_wp2_with fail
  rw [← HW.out]
  refine HNU.out.mono ?_
  rintro x w1 ⟨rfl, n, s1, hst, -, hR, hc, hF1⟩
  have c0 : w1.cell? ⟨w.heap.size + 1, 0, none⟩ = some (.int .i64 (n : Int)) := cell_of hc 0
  have HB1 : Hid (Below w.heap.size w w1) := HBW.out.trans (hF1.below (fun k hk => by
    rcases List.mem_cons.1 hk with h | h
    · omega
    · have := List.mem_singleton.1 h; omega) HBW.out.size)
  have HST := hide hst
  have HR := hide hR
  have hs1 : w.heap.size + 2 ≤ w1.heap.size := by rw [← HZW.out]; exact hF1.size
  have ct := (HENV.out w1 HB1.out).2
  clear hst hR hc hF1 HNU
  by_cases hn1 : n < 1
  · have k1 : (n : Int) < 1 := by omega
    have k1b : decide ((n : Int) < 1) = true := decide_eq_true k1
    have HUN := hide (un_few (fun y a b c d => (num_on HST.out y a b c d).1) (Or.inl hn1))
    go_wp2_with fail
    go_quiet (fail)
    go_wp2_with fail
    go_ret2
    unfold UnOut
    exact ⟨none, .slice none 0 0, rfl, liesR_nil _, bdN HB1.out _, HUN.out⟩
  have k1 : ¬ (n : Int) < 1 := by omega
  have k1b : decide ((n : Int) < 1) = false := decide_eq_false k1
  by_cases hn4 : 4 < n
  · have k2 : (4 : Int) < (n : Int) := by omega
    have k2b : decide ((4 : Int) < (n : Int)) = true := decide_eq_true k2
    have HUN := hide (un_few (fun y a b c d => (num_on HST.out y a b c d).1) (Or.inr hn4))
    go_wp2_with fail
    go_quiet (fail)
    go_wp2_with fail
    go_ret2
    unfold UnOut
    exact ⟨none, .slice none 0 0, rfl, liesR_nil _, bdN HB1.out _, HUN.out⟩
  have k2 : ¬ (4 : Int) < (n : Int) := by omega
  have k2b : decide ((4 : Int) < (n : Int)) = false := decide_eq_false k2
  have hN4 : n ≤ 4 := by omega
  have hN1 : 0 < n := by omega
  obtain ⟨X, hX⟩ : ∃ X, X = w1.alloc (.cells (madeCells zrec (n * i0.size)) 26) := ⟨_, rfl⟩
  have HU0 : Hid (Un w.heap.size w1.heap.size n w [] s1 X) := by
    have bX : Below w1.heap.size w1 X := by rw [hX]; exact (Below.refl _ _).alloc (Nat.le_refl _) _
    refine ⟨HR.out.keep (fun k _ hs => bX.block k hs) (bX.block _ HR.out.lt) bX.size, ⟨(madeCells zrec (n * i0.size)).toList, ?_, ?_⟩, fun j hj => absurd hj (Nat.not_lt_zero _), keepW HB1.out bX, by omega, Nat.le_refl _⟩
    · rw [hX, Array.toArray_toList]; exact heap_alloc_new w1 _
    · rw [Array.length_toList, size_madeCells, hz1]
  have HX : Hid (X = w1.alloc (.cells (madeCells (Value.agg zrec).cells (n * i0.size)) 26)) := hX
  have HXa : Hid (X = w1.alloc (.cells (madeCells zrec (n * 9)) 26)) := by show _ = _; rw [hX, hz1]
  clear hX ct
  go_wp2_with (refine wpList_make_sz _ rfl _ _ 22 rfl 26 i0 (.agg zrec) Tryz.underlying22 hi hz0 .i64 .i64 n ?c1 ?c2 ?c3 ?c4 ?_)
  case c1 => rfl
  case c2 => rfl
  case c3 => rw [hz2]; omega
  case c4 => omega
  first | rw [← HX.out] | rw [← HXa.out]
  obtain ⟨g, hg⟩ : ∃ g, g = w1.heap.size := ⟨_, rfl⟩
  rw [← hg] at HU0 ⊢
  clear hg
  go_loopw [24] (fun i wr => ∃ (xs : List Rec) (s : St), xs.length ≤ n ∧ i = .int .i64 (xs.length : Int) ∧ Un w.heap.size g n w xs s wr ∧ GoodL xs ∧ UBack s1 xs s ∧ UOn xs.length s1 xs s) (fun i _ => n - (intOf i).toNat)
  case atStart => exact ⟨[], s1, Nat.zero_le _, rfl, HU0.out, (fun r hr => by cases hr), by
    cases s1 with
    | none => exact Or.inl rfl
    | some t => exact Or.inr ⟨t, rfl, rfl⟩, uon_zero _⟩
  case round =>
    obtain ⟨xs, s, hxn, rfl, hun, hgood, hback, hon⟩ := hrel
    have HU := hide hun
    have HG := hide hgood
    have HBK := hide hback
    have HON := hide hon
    clear hun hgood hback hon
    obtain ⟨L, hL⟩ : ∃ L, L = xs.length := ⟨_, rfl⟩
    rw [← hL] at hxn ⊢
    have HLL := hide hL
    clear hL
    by_cases hlt : L < n
    · have j0 : (0 : Int) ≤ (L : Int) := Int.natCast_nonneg _
      have j1 : (L : Int) < (n : Int) := by omega
      have HPC := hide (piece_any w.heap.size w.heap.size s wr HU.out.rs (Nat.le_refl _))
      go_wp2_with fail
      refine HPC.out.mono ?_
      rintro x y1 ⟨vp, lp, s', rfl, hlo, hR1, hts, hll, hF1⟩
      obtain ⟨op, cp, rfl⟩ := Rd.len hlo.rd
      have HB1' : Hid (Below w.heap.size w y1) := HU.out.low.trans (hF1.below (fun k hk => by rw [List.mem_singleton.1 hk]; exact Nat.le_refl _) HU.out.low.size)
      have HDE := hide (decode_any lp _ ea em e y1 hlo.wide hll (HENV.out y1 HB1'.out).1 (HENV.out y1 HB1'.out).2)
      unfold DecOut at HDE
      have HR1 := hide hR1
      have HTS := hide hts
      have HF1 := hide hF1
      clear hlo hR1 hts hll hF1 HPC
      go_wp2_with fail
      refine HDE.out.mono ?_
      rintro x y2 ⟨o, v1, rfl, own1, b2, hd⟩
      obtain ⟨oo1, cc1, rfl⟩ := own_slice own1
      cases o with
      | none =>
        have hd' : DecR (⟨lp.toArray⟩ : ByteArray).data.toList none := by rw [ba_list]; exact hd
        have HUN := hide (uon_none (n := n) (num_on HST.out) HON.out (by rw [← HLL.out]; exact hlt) (fun y l a b => (t_on HTS.out y l a b).1) hd')
        have HBZ : Hid (Below w.heap.size w (y2.alloc (.cells (rcs zR (.slice oo1 zR.ss.length cc1)) 26))) := keepW (keepW HB1'.out b2) ((Below.refl _ _).alloc (Nat.le_refl _) _)
        clear own1 b2 hd hd'
        go_wp2_with fail
        go_ret2
        unfold UnOut
        exact ⟨none, .slice none 0 0, rfl, liesR_nil _, HBZ.out, HUN.out⟩
      | some r =>
        have bA : Below y2.heap.size y2 (y2.alloc (.cells (rcs r (.slice oo1 r.ss.length cc1)) 26)) := (Below.refl _ _).alloc (Nat.le_refl _) _
        have hun3 := HU.out.step HF1.out HR1.out (keepW b2 bA)
        have own3 : (y2.alloc (.cells (rcs r (.slice oo1 r.ss.length cc1)) 26)).ownsRow (g + 1) 9 1 (.slice oo1 r.ss.length cc1) r.ss.length (r.ss.map Value.string) := own_least (own_below own1 bA) (Nat.le_trans HU.out.lt HF1.out.size)
        have HTH : Hid ((y2.alloc (.cells (rcs r (.slice oo1 r.ss.length cc1)) 26)).there g (L * 9) 9) := by
          obtain ⟨cur, h1, h2⟩ := hun3.box
          exact there_of h1 _ _ (by omega)
        have HRL : Hid ((y2.alloc (.cells (rcs r (.slice oo1 r.ss.length cc1)) 26)).rangeAt y2.heap.size 0 (rcl9 r (.slice oo1 r.ss.length cc1))) := range_of (t := 26) (heap_alloc_new y2 _)
        have HUP : Hid (Un w.heap.size g n w (xs ++ [r]) s' ((y2.alloc (.cells (rcs r (.slice oo1 r.ss.length cc1)) 26)).setCells g (L * 9) (rcl9 r (.slice oo1 r.ss.length cc1)))) := by
          show Un _ _ _ _ _ _ _
          rw [HLL.out]
          exact hun3.put r _ own3 (by rw [← HLL.out]; exact hlt)
        have hd' : DecR (⟨lp.toArray⟩ : ByteArray).data.toList (some r) := by rw [ba_list]; exact hd
        have HNX : Hid (∃ xs' : List Rec, xs'.length = L + 1 ∧ Un w.heap.size g n w xs' s' ((y2.alloc (.cells (rcs r (.slice oo1 r.ss.length cc1)) 26)).setCells g (L * 9) (rcl9 r (.slice oo1 r.ss.length cc1))) ∧ GoodL xs' ∧ UBack s1 xs' s' ∧ UOn xs'.length s1 xs' s') := by
          have hl2 : (xs ++ [r]).length = L + 1 := by rw [List.length_append, HLL.out]; rfl
          refine ⟨xs ++ [r], hl2, HUP.out, fun q hq => ?_, uback_next HBK.out HTS.out hd', ?_⟩
          · rcases List.mem_append.1 hq with h | h
            · exact HG.out q h
            · rw [List.mem_singleton.1 h]
              obtain ⟨a1, a2, a3, _⟩ := hd.is r rfl
              exact ⟨a1, a2, a3⟩
          · rw [hl2, HLL.out]; exact uon_next HON.out (t_on HTS.out) hd'
        obtain ⟨Z, hZ⟩ : ∃ Z, Z = (y2.alloc (.cells (rcs r (.slice oo1 r.ss.length cc1)) 26)).setCells g (L * 9) (rcs r (.slice oo1 r.ss.length cc1)).toList := ⟨_, rfl⟩
        have HZ := hide hZ
        have HNZ : Hid (∃ xs' : List Rec, xs'.length = L + 1 ∧ Un w.heap.size g n w xs' s' Z ∧ GoodL xs' ∧ UBack s1 xs' s' ∧ UOn xs'.length s1 xs' s') := by
          rw [hZ]; exact HNX.out
        clear own1 b2 hd hd' bA hun3 own3 HUP HDE hZ HNX
        go_wp2_with (first
          | (refine wpList_load_mid rfl 26 (.tmp 8) rfl y2.heap.size 0 rfl _ _ HRL.out Tryz.underlying26 rfl sizeRec ?_)
          | (refine wpList_store_mid rfl 26 (.tmp 38) (.tmp 37) rfl g (L * 9) (rcs r (.slice oo1 r.ss.length cc1)) rfl rfl HTH.out sizeRec (rcs_one _ _ _ _) ?_; rw [← HZ.out]))
        obtain ⟨xs', hl3, e1, e2, e3, e4⟩ := HNZ.out
        refine ⟨⟨xs', s', by omega, ?_, e1, e2, e3, e4⟩, ?_⟩
        · rw [hl3]; go_num
        · simp [intOf]; omega
    · have j1 : ¬ (L : Int) < (n : Int) := by omega
      have hLn : L = n := by omega
      have HDN := hide (isDone_any _ _ s wr HU.out.rs)
      have HLI := hide (HU.out.lies n)
      have HBL := hide HU.out.low
      have ct := (HENV.out wr HU.out.low).2
      have HONn : Hid (UOn n s1 xs s) := by rw [← hLn, HLL.out]; exact HON.out
      have HXN : Hid (xs.length = n) := by rw [← HLL.out]; exact hLn
      rw [HXN.out] at HLI
      clear hLn
      cases hE : isEnd s with
      | false =>
        rw [hE] at HDN
        have HUN := hide (un_no HST.out HONn.out hE)
        clear hE
        go_wp2_with (go_at_call 25; refine HDN.out.mono ?_; rintro x w9 ⟨rfl, h9⟩; obtain rfl := h9.symm)
        go_quiet (fail)
        go_wp2_with fail
        go_ret2
        unfold UnOut
        exact ⟨none, .slice none 0 0, rfl, liesR_nil _, bdN HBL.out _, HUN.out⟩
      | true =>
        rw [hE] at HDN
        have HUY := hide (un_yes HST.out HBK.out HONn.out HXN.out HG.out hN1 hN4 hE)
        clear hE
        go_wp2_with (go_at_call 25; refine HDN.out.mono ?_; rintro x w9 ⟨rfl, h9⟩; obtain rfl := h9.symm)
        go_ret2
        unfold UnOut
        exact ⟨some xs, _, rfl, HLI.out, HBL.out, HUY.out⟩
end Go.Proofs.YtocpikgcbibcoaaGreatDoor.rc

namespace Go.Proofs.YtocpikgcbibcoaaGreatDoor.rc
open Go.ChangeShapes Go.WideShapes Go.ChangeAt Go.RowKit Go.Proofs.YtocpikgcbibcoaaGreatDoor.common Go.Proofs.YtocpikgcbibcoaaGreatDoor.ss
attribute [local go_sem ↓] Go.wp_at_zero Go.wp_at_succ

set_option maxRecDepth 100000 in
set_option maxHeartbeats 6400000 in
theorem sameRecs_any (l : List Rec) (va vb : Value) (w : World) (ha : LiesR w va l) (hb : LiesR w vb l) (hs : ∀ r ∈ l, r.ss.length ≤ 4611686018427387904) (hn : l.length ≤ 4611686018427387904) :
    Calls Tryz.prog 15 #[va, vb] w fun e w' => e = .returned (.bool true) ∧ Below w.heap.size w w' := by
  obtain ⟨oa, ca, hva⟩ : ∃ oa ca, va = .slice oa l.length ca := by obtain ⟨a, b, h, _⟩ := ha; exact ⟨a, b, h⟩
  obtain ⟨ob, cb, hvb⟩ : ∃ ob cb, vb = .slice ob l.length cb := by obtain ⟨a, b, h, _⟩ := hb; exact ⟨a, b, h⟩
  have HA : Hid (∀ X, Below w.heap.size w X → LiesR X va l) := fun X hX => ha.below hX
  have HB : Hid (∀ X, Below w.heap.size w X → LiesR X vb l) := fun X hX => hb.below hX
  have HS := hide hs
  clear ha hb hs
  subst hva hvb
  go_enter Tryz.func15, Tryz.ntmps15
  go_wp2_with fail
  go_loopw [5] (fun i wr => ∃ k : Nat, k ≤ l.length ∧ i = .int .i64 k ∧ Below w.heap.size w wr) (fun i _ => l.length - (intOf i).toNat)
  case atStart => exact ⟨0, Nat.zero_le _, rfl, Below.refl _ _⟩
  case round =>
    obtain ⟨k, hk, rfl, hbl⟩ := hrel
    have HBL := hide hbl
    by_cases hlt : k < l.length
    · have j0 : (0 : Int) ≤ (k : Int) := Int.natCast_nonneg _
      have j1 : (k : Int) < (l.length : Int) := by omega
      obtain ⟨_, _, hq, hcc⟩ := HA.out wr hbl
      cases hq
      obtain ⟨g, o, vi, rfl, hg, hrg, hli⟩ := hcc k hlt
      obtain ⟨_, _, hq, hcc2⟩ := HB.out wr hbl
      cases hq
      obtain ⟨g2, o2, vi2, rfl, hg2, hrg2, hli2⟩ := hcc2 k hlt
      obtain ⟨os, cs, rfl⟩ := Lies.len hli
      obtain ⟨os2, cs2, rfl⟩ := Lies.len hli2
      have hsm := HS.out _ (List.getElem_mem hlt)
      generalize l[k]'hlt = r at *
      obtain ⟨f, hf, hg9⟩ := class_of wr
      have HSA : Hid (∀ n, Calls Tryz.prog 16 #[.agg (rcs r (.slice os r.ss.length cs)), .agg (rcs r (.slice os2 r.ss.length cs2))] (f n) fun e w' => e = .returned (.bool true) ∧ ∃ m, w' = f m) := fun n => (sameRec_any r _ _ (f n) (hli.below (hf n)) (hli2.below (hf n)) hsm).mono (fun e w1 h => ⟨h.1, w1, (hg9 _ (keepW (hf n) h.2)).symm⟩)
      have e00 : ∀ n, (f n).cell? ⟨g, o + k * 9, none⟩ = some (.int .i64 r.k) := fun n => ((hf n).cell (p := ⟨g, o + k * 9, none⟩) hg).trans (hrg 0 _ rfl)
      have e01 : ∀ n, (f n).cell? ⟨g, o + k * 9 + 1, none⟩ = some (.string r.id) := fun n => ((hf n).cell (p := ⟨g, o + k * 9 + 1, none⟩) hg).trans (hrg 1 _ rfl)
      have e02 : ∀ n, (f n).cell? ⟨g, o + k * 9 + 2, none⟩ = some (.string r.us) := fun n => ((hf n).cell (p := ⟨g, o + k * 9 + 2, none⟩) hg).trans (hrg 2 _ rfl)
      have e03 : ∀ n, (f n).cell? ⟨g, o + k * 9 + 3, none⟩ = some (.string r.cl) := fun n => ((hf n).cell (p := ⟨g, o + k * 9 + 3, none⟩) hg).trans (hrg 3 _ rfl)
      have e04 : ∀ n, (f n).cell? ⟨g, o + k * 9 + 4, none⟩ = some (.string r.rd) := fun n => ((hf n).cell (p := ⟨g, o + k * 9 + 4, none⟩) hg).trans (hrg 4 _ rfl)
      have e05 : ∀ n, (f n).cell? ⟨g, o + k * 9 + 5, none⟩ = some (.string r.ch) := fun n => ((hf n).cell (p := ⟨g, o + k * 9 + 5, none⟩) hg).trans (hrg 5 _ rfl)
      have e06 : ∀ n, (f n).cell? ⟨g, o + k * 9 + 6, none⟩ = some (.string r.cd) := fun n => ((hf n).cell (p := ⟨g, o + k * 9 + 6, none⟩) hg).trans (hrg 6 _ rfl)
      have e07 : ∀ n, (f n).cell? ⟨g, o + k * 9 + 7, none⟩ = some (.slice os r.ss.length cs) := fun n => ((hf n).cell (p := ⟨g, o + k * 9 + 7, none⟩) hg).trans (hrg 7 _ rfl)
      have e08 : ∀ n, (f n).cell? ⟨g, o + k * 9 + 8, none⟩ = some (.int .i64 r.at_) := fun n => ((hf n).cell (p := ⟨g, o + k * 9 + 8, none⟩) hg).trans (hrg 8 _ rfl)
      have e10 : ∀ n, (f n).cell? ⟨g2, o2 + k * 9, none⟩ = some (.int .i64 r.k) := fun n => ((hf n).cell (p := ⟨g2, o2 + k * 9, none⟩) hg2).trans (hrg2 0 _ rfl)
      have e11 : ∀ n, (f n).cell? ⟨g2, o2 + k * 9 + 1, none⟩ = some (.string r.id) := fun n => ((hf n).cell (p := ⟨g2, o2 + k * 9 + 1, none⟩) hg2).trans (hrg2 1 _ rfl)
      have e12 : ∀ n, (f n).cell? ⟨g2, o2 + k * 9 + 2, none⟩ = some (.string r.us) := fun n => ((hf n).cell (p := ⟨g2, o2 + k * 9 + 2, none⟩) hg2).trans (hrg2 2 _ rfl)
      have e13 : ∀ n, (f n).cell? ⟨g2, o2 + k * 9 + 3, none⟩ = some (.string r.cl) := fun n => ((hf n).cell (p := ⟨g2, o2 + k * 9 + 3, none⟩) hg2).trans (hrg2 3 _ rfl)
      have e14 : ∀ n, (f n).cell? ⟨g2, o2 + k * 9 + 4, none⟩ = some (.string r.rd) := fun n => ((hf n).cell (p := ⟨g2, o2 + k * 9 + 4, none⟩) hg2).trans (hrg2 4 _ rfl)
      have e15 : ∀ n, (f n).cell? ⟨g2, o2 + k * 9 + 5, none⟩ = some (.string r.ch) := fun n => ((hf n).cell (p := ⟨g2, o2 + k * 9 + 5, none⟩) hg2).trans (hrg2 5 _ rfl)
      have e16 : ∀ n, (f n).cell? ⟨g2, o2 + k * 9 + 6, none⟩ = some (.string r.cd) := fun n => ((hf n).cell (p := ⟨g2, o2 + k * 9 + 6, none⟩) hg2).trans (hrg2 6 _ rfl)
      have e17 : ∀ n, (f n).cell? ⟨g2, o2 + k * 9 + 7, none⟩ = some (.slice os2 r.ss.length cs2) := fun n => ((hf n).cell (p := ⟨g2, o2 + k * 9 + 7, none⟩) hg2).trans (hrg2 7 _ rfl)
      have e18 : ∀ n, (f n).cell? ⟨g2, o2 + k * 9 + 8, none⟩ = some (.int .i64 r.at_) := fun n => ((hf n).cell (p := ⟨g2, o2 + k * 9 + 8, none⟩) hg2).trans (hrg2 8 _ rfl)
      have HD : Hid (wr.drew = f wr.drew) := (hg9 _ (Below.refl _ _).drew).symm
      have HFB := hide hf
      haveI : Nonempty World := ⟨w⟩
      clear hbl hcc hrg hli hcc2 hrg2 hli2 hf hg9 hg hg2
      go_wp2_with fail
      refine wp_region_cls f (by kernel_rfl) (by kernel_rfl) _ HD.out ?_
      repeat (go_big_quiet_step (with_reducible exact HSA.out _))
      refine wpQuiet_nil ?_
      rintro _ ⟨nq, rfl⟩
      go_wp2_with fail
      go_roundw
      case rel => exact ⟨k + 1, by omega, by go_num, keepW HBL.out (HFB.out nq)⟩
      case measure => simp [intOf]; omega
    · obtain rfl : k = l.length := by omega
      clear hbl
      have j1 : ¬ (l.length : Int) < (l.length : Int) := by omega
      go_wp2_with fail
      go_ret
      exact ⟨rfl, HBL.out⟩
end Go.Proofs.YtocpikgcbibcoaaGreatDoor.rc

namespace Go.Proofs.YtocpikgcbibcoaaGreatDoor.rc
open Go.ChangeShapes Go.WideShapes Go.ChangeAt Go.RowKit Go.Joins Go.Deep Go.WideElems Go.Maps Go.Proofs.YtocpikgcbibcoaaGreatDoor.common Go.Proofs.YtocpikgcbibcoaaGreatDoor.ss

theorem cellsRc : Tryz.prog.cellsOf 26 = 9 := by kernel_rfl
theorem list9 {α : Type} {l : List α} (h : l.length = 9) : ∃ a b c d e f g i j, l = [a, b, c, d, e, f, g, i, j] := by
  match l, h with
  | [a, b, c, d, e, f, g, i, j], _ => exact ⟨a, b, c, d, e, f, g, i, j, rfl⟩

end Go.Proofs.YtocpikgcbibcoaaGreatDoor.rc

namespace Go.Proofs.YtocpikgcbibcoaaGreatDoor.dk
open Go.ChangeShapes Go.WideShapes Go.ChangeAt Go.RowKit Go.Proofs.YtocpikgcbibcoaaGreatDoor.common

end Go.Proofs.YtocpikgcbibcoaaGreatDoor.dk
