import Derived.Test.YtidccfflpcgkiaaGreatDoorMRcUn
import Derived.Test.YtidccfflpcgkiaaGreatDoorMRcRows
namespace Go.Proofs.YtidccfflpcgkiaaGreatDoor.rc
open Go.ChangeShapes Go.WideShapes Go.ChangeAt Go.RowKit Go.Proofs.YtidccfflpcgkiaaGreatDoor.common Go.Proofs.YtidccfflpcgkiaaGreatDoor.dk
attribute [local go_sem ↓] Go.wp_at_zero Go.wp_at_succ

/-- what the number says of a transaction's bytes -/
theorem num_on {p : List UInt8} {n : Nat} {s : St} (h : NStep (some p) n s) : ∀ y : List Rec, 0 < y.length → y.length ≤ 4 → GoodL y → numL y.length ++ y.flatMap oneL = p → n = y.length ∧ s = some (y.flatMap oneL ++ []) := fun y _ h4 _ e => by
  have := h.on y.length (y.flatMap oneL) (by show _ < _; omega) (by rw [e])
  rw [List.append_nil]
  exact this
theorem un_few {p : List UInt8} {n : Nat} (h : ∀ y : List Rec, 0 < y.length → y.length ≤ 4 → GoodL y → numL y.length ++ y.flatMap oneL = p → n = y.length) (hn : n < 1 ∨ 4 < n) : UnR p none :=
  ⟨fun l hl => (by cases hl), fun y h0 h4 hy e => (by have := h y h0 h4 hy e; omega)⟩
/-- what was read so far is what lies there -/
def UBack (s1 : St) (xs : List Rec) (s : St) : Prop := s = none ∨ ∃ t, s1 = some (xs.flatMap oneL ++ t) ∧ s = some t
theorem uback_next {s1 s s' : St} {xs : List Rec} {x : ByteArray} {r : Rec} (h : UBack s1 xs s) (ht : TStep s x s') (hd : DecR x.data.toList (some r)) : UBack s1 (xs ++ [r]) s' := by
  rcases ht.back with h0 | ⟨t, a1, a2⟩
  · exact Or.inl h0
  · rcases h with h0 | ⟨t', b1, b2⟩
    · rw [h0] at a1; cases a1
    · rw [b2] at a1
      cases a1
      refine Or.inr ⟨t, ?_, a2⟩
      have hr := (hd.is r rfl).2.2.2
      have hx : x = rtx r := by
        unfold rtx
        rw [hr]
      rw [b1, List.flatMap_append, List.flatMap_cons, List.flatMap_nil, List.append_nil, one_tx, ← hx, List.append_assoc]
theorem un_yes {p : List UInt8} {n : Nat} {s1 s : St} {xs : List Rec} (hn : NStep (some p) n s1) (hb : UBack s1 xs s) (ho : UOn n s1 xs s) (hx : xs.length = n) (hg : GoodL xs) (h1 : 0 < n) (h4 : n ≤ 4) (he : isEnd s = true) : UnR p (some xs) := by
  refine ⟨fun l hl => ?_, fun y y0 y4 hy e => ?_⟩
  · cases hl
    refine ⟨by omega, by omega, hg, ?_⟩
    rcases hb with h0 | ⟨t, a1, a2⟩
    · rw [h0] at he; cases he
    · rw [a2] at he
      cases t with
      | cons _ _ => cases he
      | nil =>
        rcases hn.back with h0 | ⟨l2, b1, b2⟩
        · rw [h0] at a1; cases a1
        · rw [b2] at a1
          cases a1
          rw [hx, Option.some.inj b1, List.append_nil]
  · obtain ⟨e1, e2⟩ := num_on hn y y0 y4 hy e
    rw [(ho y [] hy (by omega) e2).1, List.take_of_length_le (by omega)]
theorem un_no {p : List UInt8} {n : Nat} {s1 s : St} {xs : List Rec} (hn : NStep (some p) n s1) (ho : UOn n s1 xs s) (he : isEnd s = false) : UnR p none := by
  refine ⟨fun l hl => (by cases hl), fun y y0 y4 hy e => ?_⟩
  obtain ⟨e1, e2⟩ := num_on hn y y0 y4 hy e
  have := (ho y [] hy (by omega) e2).2
  rw [List.drop_eq_nil_of_le (by omega)] at this
  rw [this] at he
  cases he
theorem t_on {s s' : St} {x : ByteArray} (h : TStep s x s') : ∀ y l, y.size ≤ 30000000 → s = some (txL y ++ l) → x = y ∧ s' = some l := fun y l hy e => h.on y l (by show _ < _; omega) e
theorem ba_list (l : List UInt8) : (⟨l.toArray⟩ : ByteArray).data.toList = l := by simp

set_option maxRecDepth 100000 in
set_option maxHeartbeats 12800000 in
theorem unpack_any (l : List UInt8) (v : Value) (ea em : Addr) (e : Nat → Addr) (w : World) (hv : Lo w.heap.size w v l) (hl : l.length ≤ 1048576) (he : Env ea em (errw.E e 0) w) (ht : w.cell? ⟨1, 0, none⟩ = some (errw.E e 1)) :
    Calls Tryz.prog 19 #[v] w (UnOut l .nilIface (errw.E e 1) w) := by
  obtain ⟨i0, hi, hz0, hz1, hz2⟩ := info_parts infoRc
  obtain ⟨ov, cv, hvv⟩ : ∃ ov cv, v = .slice ov l.length cv := by obtain ⟨a, b, h, _⟩ := hv; exact ⟨a, b, h⟩
  obtain ⟨W, hW⟩ : ∃ W, W = (w.alloc (.cells #[v, .bool false] 63)).alloc (.cells #[.int .i64 0] 3) := ⟨_, rfl⟩
  have hbW : Below w.heap.size w W := by rw [hW]; exact ((Below.refl _ _).alloc (Nat.le_refl _) _).alloc (by simp) _
  have hzW : W.heap.size = w.heap.size + 2 := by rw [hW]; simp
  have h0 : W.heap[w.heap.size]? = some (.cells #[v, .bool false] 63 (0, 0)) := by
    rw [hW]
    exact (heap_alloc_old _ _ (by simp)).trans (heap_alloc_new w _)
  have h1 : W.heap[w.heap.size + 1]? = some (.cells #[.int .i64 0] 3 (0, 0)) := by
    rw [hW]
    have := heap_alloc_new (w.alloc (.cells #[v, .bool false] 63)) (.cells #[.int .i64 0] 3 (0, 0))
    rw [World.size_alloc] at this
    exact this
  have hrs : Rs w.heap.size w.heap.size W (some l) := ⟨hl, v, h0, hv.keep (fun g hg _ => hbW.block g hg) hbW.size⟩
  have HNU := hide (number_any w.heap.size w.heap.size (w.heap.size + 1) 0 #[.int .i64 0] 3 0 (some l) W hrs h1 rfl (by omega) (Nat.le_refl _) (by omega))
  have HENV : Hid (∀ X, Below w.heap.size w X → Env ea em (errw.E e 0) X ∧ X.cell? ⟨1, 0, none⟩ = some (errw.E e 1)) := fun X hX => ⟨he.below hX, (hX.cell (p := ⟨1, 0, none⟩) (World.block_lt_of_cell? w _ ht)).trans ht⟩
  have HBW := hide hbW
  have HZW := hide hzW
  have HW := hide hW
  subst hvv
  clear hv he ht hbW h0 h1 hrs hW hzW
  go_enter Tryz.func19, Tryz.ntmps19
  go_wp2_with fail
  rw [← HW.out]
  refine HNU.out.mono ?_
  rintro x w1 ⟨rfl, n, s1, hst, -, hR, hc, hF1⟩
  have c0 : w1.cell? ⟨w.heap.size + 1, 0, none⟩ = some (.int .i64 (n : Int)) := cell_of hc 0
  have HB1 : Hid (Below w.heap.size w w1) := HBW.out.trans (hF1.below (fun k hk => by
    rcases List.mem_cons.1 hk with h | h
    · omega
    · have := List.mem_singleton.1 h; omega) HBW.out.size)
  have HST := hide hst
  have HR := hide hR
  have hs1 : w.heap.size + 2 ≤ w1.heap.size := by rw [← HZW.out]; exact hF1.size
  have ct := (HENV.out w1 HB1.out).2
  clear hst hR hc hF1 HNU
  by_cases hn1 : n < 1
  · have k1 : (n : Int) < 1 := by omega
    have k1b : decide ((n : Int) < 1) = true := decide_eq_true k1
    have HUN := hide (un_few (fun y a b c d => (num_on HST.out y a b c d).1) (Or.inl hn1))
    go_wp2_with fail
    go_quiet (fail)
    go_wp2_with fail
    go_ret2
    unfold UnOut
    exact ⟨none, .slice none 0 0, rfl, liesR_nil _, bdN HB1.out _, HUN.out⟩
  have k1 : ¬ (n : Int) < 1 := by omega
  have k1b : decide ((n : Int) < 1) = false := decide_eq_false k1
  by_cases hn4 : 4 < n
  · have k2 : (4 : Int) < (n : Int) := by omega
    have k2b : decide ((4 : Int) < (n : Int)) = true := decide_eq_true k2
    have HUN := hide (un_few (fun y a b c d => (num_on HST.out y a b c d).1) (Or.inr hn4))
    go_wp2_with fail
    go_quiet (fail)
    go_wp2_with fail
    go_ret2
    unfold UnOut
    exact ⟨none, .slice none 0 0, rfl, liesR_nil _, bdN HB1.out _, HUN.out⟩
  have k2 : ¬ (4 : Int) < (n : Int) := by omega
  have k2b : decide ((4 : Int) < (n : Int)) = false := decide_eq_false k2
  have hN4 : n ≤ 4 := by omega
  have hN1 : 0 < n := by omega
  obtain ⟨X, hX⟩ : ∃ X, X = w1.alloc (.cells (madeCells zrec (n * i0.size)) 24) := ⟨_, rfl⟩
  have HU0 : Hid (Un w.heap.size w1.heap.size n w [] s1 X) := by
    have bX : Below w1.heap.size w1 X := by rw [hX]; exact (Below.refl _ _).alloc (Nat.le_refl _) _
    refine ⟨HR.out.keep (fun k _ hs => bX.block k hs) (bX.block _ HR.out.lt) bX.size, ⟨(madeCells zrec (n * i0.size)).toList, ?_, ?_⟩, fun j hj => absurd hj (Nat.not_lt_zero _), keepW HB1.out bX, by omega, Nat.le_refl _⟩
    · rw [hX, Array.toArray_toList]; exact heap_alloc_new w1 _
    · rw [Array.length_toList, size_madeCells, hz1]
  have HX : Hid (X = w1.alloc (.cells (madeCells (Value.agg zrec).cells (n * i0.size)) 24)) := hX
  have HXa : Hid (X = w1.alloc (.cells (madeCells zrec (n * 9)) 24)) := by show _ = _; rw [hX, hz1]
  clear hX ct
  go_wp2_with (refine wpList_make_sz _ rfl _ _ 42 rfl 24 i0 (.agg zrec) Tryz.underlying42 hi hz0 .i64 .i64 n ?c1 ?c2 ?c3 ?c4 ?_)
  case c1 => rfl
  case c2 => rfl
  case c3 => rw [hz2]; omega
  case c4 => omega
  first | rw [← HX.out] | rw [← HXa.out]
  obtain ⟨g, hg⟩ : ∃ g, g = w1.heap.size := ⟨_, rfl⟩
  rw [← hg] at HU0 ⊢
  clear hg
  go_loopw [24] (fun i wr => ∃ (xs : List Rec) (s : St), xs.length ≤ n ∧ i = .int .i64 (xs.length : Int) ∧ Un w.heap.size g n w xs s wr ∧ GoodL xs ∧ UBack s1 xs s ∧ UOn xs.length s1 xs s) (fun i _ => n - (intOf i).toNat)
  case atStart => exact ⟨[], s1, Nat.zero_le _, rfl, HU0.out, (fun r hr => by cases hr), by
    cases s1 with
    | none => exact Or.inl rfl
    | some t => exact Or.inr ⟨t, rfl, rfl⟩, uon_zero _⟩
  case round =>
    obtain ⟨xs, s, hxn, rfl, hun, hgood, hback, hon⟩ := hrel
    have HU := hide hun
    have HG := hide hgood
    have HBK := hide hback
    have HON := hide hon
    clear hun hgood hback hon
    obtain ⟨L, hL⟩ : ∃ L, L = xs.length := ⟨_, rfl⟩
    rw [← hL] at hxn ⊢
    have HLL := hide hL
    clear hL
    by_cases hlt : L < n
    · have j0 : (0 : Int) ≤ (L : Int) := Int.natCast_nonneg _
      have j1 : (L : Int) < (n : Int) := by omega
      have HPC := hide (piece_any w.heap.size w.heap.size s wr HU.out.rs (Nat.le_refl _))
      go_wp2_with fail
      refine HPC.out.mono ?_
      rintro x y1 ⟨vp, lp, s', rfl, hlo, hR1, hts, hll, hF1⟩
      obtain ⟨op, cp, rfl⟩ := Rd.len hlo.rd
      have HB1' : Hid (Below w.heap.size w y1) := HU.out.low.trans (hF1.below (fun k hk => by rw [List.mem_singleton.1 hk]; exact Nat.le_refl _) HU.out.low.size)
      have HDE := hide (decode_any lp _ ea em e y1 hlo.wide hll (HENV.out y1 HB1'.out).1 (HENV.out y1 HB1'.out).2)
      unfold DecOut at HDE
      have HR1 := hide hR1
      have HTS := hide hts
      have HF1 := hide hF1
      clear hlo hR1 hts hll hF1 HPC
      go_wp2_with fail
      refine HDE.out.mono ?_
      rintro x y2 ⟨o, v1, rfl, own1, b2, hd⟩
      obtain ⟨oo1, cc1, rfl⟩ := own_slice own1
      cases o with
      | none =>
        have hd' : DecR (⟨lp.toArray⟩ : ByteArray).data.toList none := by rw [ba_list]; exact hd
        have HUN := hide (uon_none (n := n) (num_on HST.out) HON.out (by rw [← HLL.out]; exact hlt) (fun y l a b => (t_on HTS.out y l a b).1) hd')
        have HBZ : Hid (Below w.heap.size w (y2.alloc (.cells (rcs zR (.slice oo1 zR.ss.length cc1)) 24))) := keepW (keepW HB1'.out b2) ((Below.refl _ _).alloc (Nat.le_refl _) _)
        clear own1 b2 hd hd'
        go_wp2_with fail
        go_ret2
        unfold UnOut
        exact ⟨none, .slice none 0 0, rfl, liesR_nil _, HBZ.out, HUN.out⟩
      | some r =>
        have bA : Below y2.heap.size y2 (y2.alloc (.cells (rcs r (.slice oo1 r.ss.length cc1)) 24)) := (Below.refl _ _).alloc (Nat.le_refl _) _
        have hun3 := HU.out.step HF1.out HR1.out (keepW b2 bA)
        have own3 : (y2.alloc (.cells (rcs r (.slice oo1 r.ss.length cc1)) 24)).ownsRow (g + 1) 9 1 (.slice oo1 r.ss.length cc1) r.ss.length (r.ss.map Value.string) := own_least (own_below own1 bA) (Nat.le_trans HU.out.lt HF1.out.size)
        have HTH : Hid ((y2.alloc (.cells (rcs r (.slice oo1 r.ss.length cc1)) 24)).there g (L * 9) 9) := by
          obtain ⟨cur, h1, h2⟩ := hun3.box
          exact there_of h1 _ _ (by omega)
        have HRL : Hid ((y2.alloc (.cells (rcs r (.slice oo1 r.ss.length cc1)) 24)).rangeAt y2.heap.size 0 (rcl9 r (.slice oo1 r.ss.length cc1))) := range_of (t := 24) (heap_alloc_new y2 _)
        have HUP : Hid (Un w.heap.size g n w (xs ++ [r]) s' ((y2.alloc (.cells (rcs r (.slice oo1 r.ss.length cc1)) 24)).setCells g (L * 9) (rcl9 r (.slice oo1 r.ss.length cc1)))) := by
          show Un _ _ _ _ _ _ _
          rw [HLL.out]
          exact hun3.put r _ own3 (by rw [← HLL.out]; exact hlt)
        have hd' : DecR (⟨lp.toArray⟩ : ByteArray).data.toList (some r) := by rw [ba_list]; exact hd
        have HNX : Hid (∃ xs' : List Rec, xs'.length = L + 1 ∧ Un w.heap.size g n w xs' s' ((y2.alloc (.cells (rcs r (.slice oo1 r.ss.length cc1)) 24)).setCells g (L * 9) (rcl9 r (.slice oo1 r.ss.length cc1))) ∧ GoodL xs' ∧ UBack s1 xs' s' ∧ UOn xs'.length s1 xs' s') := by
          have hl2 : (xs ++ [r]).length = L + 1 := by rw [List.length_append, HLL.out]; rfl
          refine ⟨xs ++ [r], hl2, HUP.out, fun q hq => ?_, uback_next HBK.out HTS.out hd', ?_⟩
          · rcases List.mem_append.1 hq with h | h
            · exact HG.out q h
            · rw [List.mem_singleton.1 h]
              obtain ⟨a1, a2, a3, _⟩ := hd.is r rfl
              exact ⟨a1, a2, a3⟩
          · rw [hl2, HLL.out]; exact uon_next HON.out (t_on HTS.out) hd'
        obtain ⟨Z, hZ⟩ : ∃ Z, Z = (y2.alloc (.cells (rcs r (.slice oo1 r.ss.length cc1)) 24)).setCells g (L * 9) (rcs r (.slice oo1 r.ss.length cc1)).toList := ⟨_, rfl⟩
        have HZ := hide hZ
        have HNZ : Hid (∃ xs' : List Rec, xs'.length = L + 1 ∧ Un w.heap.size g n w xs' s' Z ∧ GoodL xs' ∧ UBack s1 xs' s' ∧ UOn xs'.length s1 xs' s') := by
          rw [hZ]; exact HNX.out
        clear own1 b2 hd hd' bA hun3 own3 HUP HDE hZ HNX
        go_wp2_with (first
          | (refine wpList_load_mid rfl 24 (.tmp 8) rfl y2.heap.size 0 rfl _ _ HRL.out Tryz.underlying24 rfl sizeRec ?_)
          | (refine wpList_store_mid rfl 24 (.tmp 38) (.tmp 37) rfl g (L * 9) (rcs r (.slice oo1 r.ss.length cc1)) rfl rfl HTH.out sizeRec (rcs_one _ _ _ _) ?_; rw [← HZ.out]))
        obtain ⟨xs', hl3, e1, e2, e3, e4⟩ := HNZ.out
        refine ⟨⟨xs', s', by omega, ?_, e1, e2, e3, e4⟩, ?_⟩
        · rw [hl3]; go_num
        · simp [intOf]; omega
    · have j1 : ¬ (L : Int) < (n : Int) := by omega
      have hLn : L = n := by omega
      have HDN := hide (isDone_any _ _ s wr HU.out.rs)
      have HLI := hide (HU.out.lies n)
      have HBL := hide HU.out.low
      have ct := (HENV.out wr HU.out.low).2
      have HONn : Hid (UOn n s1 xs s) := by rw [← hLn, HLL.out]; exact HON.out
      have HXN : Hid (xs.length = n) := by rw [← HLL.out]; exact hLn
      rw [HXN.out] at HLI
      clear hLn
      cases hE : isEnd s with
      | false =>
        rw [hE] at HDN
        have HUN := hide (un_no HST.out HONn.out hE)
        clear hE
        go_wp2_with (go_at_call 34; refine HDN.out.mono ?_; rintro x w9 ⟨rfl, h9⟩; obtain rfl := h9.symm)
        go_quiet (fail)
        go_wp2_with fail
        go_ret2
        unfold UnOut
        exact ⟨none, .slice none 0 0, rfl, liesR_nil _, bdN HBL.out _, HUN.out⟩
      | true =>
        rw [hE] at HDN
        have HUY := hide (un_yes HST.out HBK.out HONn.out HXN.out HG.out hN1 hN4 hE)
        clear hE
        go_wp2_with (go_at_call 34; refine HDN.out.mono ?_; rintro x w9 ⟨rfl, h9⟩; obtain rfl := h9.symm)
        go_ret2
        unfold UnOut
        exact ⟨some xs, _, rfl, HLI.out, HBL.out, HUY.out⟩
end Go.Proofs.YtidccfflpcgkiaaGreatDoor.rc

namespace Go.Proofs.YtidccfflpcgkiaaGreatDoor.rc
open Go.ChangeShapes Go.WideShapes Go.ChangeAt Go.RowKit Go.Proofs.YtidccfflpcgkiaaGreatDoor.common Go.Proofs.YtidccfflpcgkiaaGreatDoor.ss
attribute [local go_sem ↓] Go.wp_at_zero Go.wp_at_succ

set_option maxRecDepth 100000 in
set_option maxHeartbeats 6400000 in
theorem sameRecs_any (l : List Rec) (va vb : Value) (w : World) (ha : LiesR w va l) (hb : LiesR w vb l) (hs : ∀ r ∈ l, r.ss.length ≤ 4611686018427387904) (hn : l.length ≤ 4611686018427387904) :
    Calls Tryz.prog 20 #[va, vb] w fun e w' => e = .returned (.bool true) ∧ Below w.heap.size w w' := by
  obtain ⟨oa, ca, hva⟩ : ∃ oa ca, va = .slice oa l.length ca := by obtain ⟨a, b, h, _⟩ := ha; exact ⟨a, b, h⟩
  obtain ⟨ob, cb, hvb⟩ : ∃ ob cb, vb = .slice ob l.length cb := by obtain ⟨a, b, h, _⟩ := hb; exact ⟨a, b, h⟩
  have HA : Hid (∀ X, Below w.heap.size w X → LiesR X va l) := fun X hX => ha.below hX
  have HB : Hid (∀ X, Below w.heap.size w X → LiesR X vb l) := fun X hX => hb.below hX
  have HS := hide hs
  clear ha hb hs
  subst hva hvb
  go_enter Tryz.func20, Tryz.ntmps20
  go_wp2_with fail
  go_loopw [5] (fun i wr => ∃ k : Nat, k ≤ l.length ∧ i = .int .i64 k ∧ Below w.heap.size w wr) (fun i _ => l.length - (intOf i).toNat)
  case atStart => exact ⟨0, Nat.zero_le _, rfl, Below.refl _ _⟩
  case round =>
    obtain ⟨k, hk, rfl, hbl⟩ := hrel
    have HBL := hide hbl
    by_cases hlt : k < l.length
    · have j0 : (0 : Int) ≤ (k : Int) := Int.natCast_nonneg _
      have j1 : (k : Int) < (l.length : Int) := by omega
      obtain ⟨_, _, hq, hcc⟩ := HA.out wr hbl
      cases hq
      obtain ⟨g, o, vi, rfl, hg, hrg, hli⟩ := hcc k hlt
      obtain ⟨_, _, hq, hcc2⟩ := HB.out wr hbl
      cases hq
      obtain ⟨g2, o2, vi2, rfl, hg2, hrg2, hli2⟩ := hcc2 k hlt
      obtain ⟨os, cs, rfl⟩ := Lies.len hli
      obtain ⟨os2, cs2, rfl⟩ := Lies.len hli2
      have hsm := HS.out _ (List.getElem_mem hlt)
      generalize l[k]'hlt = r at *
      obtain ⟨f, hf, hg9⟩ := class_of wr
      have HSA : Hid (∀ n, Calls Tryz.prog 13 #[.agg (rcs r (.slice os r.ss.length cs)), .agg (rcs r (.slice os2 r.ss.length cs2))] (f n) fun e w' => e = .returned (.bool true) ∧ ∃ m, w' = f m) := fun n => (sameRec_any r _ _ (f n) (hli.below (hf n)) (hli2.below (hf n)) hsm).mono (fun e w1 h => ⟨h.1, w1, (hg9 _ (keepW (hf n) h.2)).symm⟩)
      have e00 : ∀ n, (f n).cell? ⟨g, o + k * 9, none⟩ = some (.int .i64 r.k) := fun n => ((hf n).cell (p := ⟨g, o + k * 9, none⟩) hg).trans (hrg 0 _ rfl)
      have e01 : ∀ n, (f n).cell? ⟨g, o + k * 9 + 1, none⟩ = some (.string r.id) := fun n => ((hf n).cell (p := ⟨g, o + k * 9 + 1, none⟩) hg).trans (hrg 1 _ rfl)
      have e02 : ∀ n, (f n).cell? ⟨g, o + k * 9 + 2, none⟩ = some (.string r.us) := fun n => ((hf n).cell (p := ⟨g, o + k * 9 + 2, none⟩) hg).trans (hrg 2 _ rfl)
      have e03 : ∀ n, (f n).cell? ⟨g, o + k * 9 + 3, none⟩ = some (.string r.cl) := fun n => ((hf n).cell (p := ⟨g, o + k * 9 + 3, none⟩) hg).trans (hrg 3 _ rfl)
      have e04 : ∀ n, (f n).cell? ⟨g, o + k * 9 + 4, none⟩ = some (.string r.rd) := fun n => ((hf n).cell (p := ⟨g, o + k * 9 + 4, none⟩) hg).trans (hrg 4 _ rfl)
      have e05 : ∀ n, (f n).cell? ⟨g, o + k * 9 + 5, none⟩ = some (.string r.ch) := fun n => ((hf n).cell (p := ⟨g, o + k * 9 + 5, none⟩) hg).trans (hrg 5 _ rfl)
      have e06 : ∀ n, (f n).cell? ⟨g, o + k * 9 + 6, none⟩ = some (.string r.cd) := fun n => ((hf n).cell (p := ⟨g, o + k * 9 + 6, none⟩) hg).trans (hrg 6 _ rfl)
      have e07 : ∀ n, (f n).cell? ⟨g, o + k * 9 + 7, none⟩ = some (.slice os r.ss.length cs) := fun n => ((hf n).cell (p := ⟨g, o + k * 9 + 7, none⟩) hg).trans (hrg 7 _ rfl)
      have e08 : ∀ n, (f n).cell? ⟨g, o + k * 9 + 8, none⟩ = some (.int .i64 r.at_) := fun n => ((hf n).cell (p := ⟨g, o + k * 9 + 8, none⟩) hg).trans (hrg 8 _ rfl)
      have e10 : ∀ n, (f n).cell? ⟨g2, o2 + k * 9, none⟩ = some (.int .i64 r.k) := fun n => ((hf n).cell (p := ⟨g2, o2 + k * 9, none⟩) hg2).trans (hrg2 0 _ rfl)
      have e11 : ∀ n, (f n).cell? ⟨g2, o2 + k * 9 + 1, none⟩ = some (.string r.id) := fun n => ((hf n).cell (p := ⟨g2, o2 + k * 9 + 1, none⟩) hg2).trans (hrg2 1 _ rfl)
      have e12 : ∀ n, (f n).cell? ⟨g2, o2 + k * 9 + 2, none⟩ = some (.string r.us) := fun n => ((hf n).cell (p := ⟨g2, o2 + k * 9 + 2, none⟩) hg2).trans (hrg2 2 _ rfl)
      have e13 : ∀ n, (f n).cell? ⟨g2, o2 + k * 9 + 3, none⟩ = some (.string r.cl) := fun n => ((hf n).cell (p := ⟨g2, o2 + k * 9 + 3, none⟩) hg2).trans (hrg2 3 _ rfl)
      have e14 : ∀ n, (f n).cell? ⟨g2, o2 + k * 9 + 4, none⟩ = some (.string r.rd) := fun n => ((hf n).cell (p := ⟨g2, o2 + k * 9 + 4, none⟩) hg2).trans (hrg2 4 _ rfl)
      have e15 : ∀ n, (f n).cell? ⟨g2, o2 + k * 9 + 5, none⟩ = some (.string r.ch) := fun n => ((hf n).cell (p := ⟨g2, o2 + k * 9 + 5, none⟩) hg2).trans (hrg2 5 _ rfl)
      have e16 : ∀ n, (f n).cell? ⟨g2, o2 + k * 9 + 6, none⟩ = some (.string r.cd) := fun n => ((hf n).cell (p := ⟨g2, o2 + k * 9 + 6, none⟩) hg2).trans (hrg2 6 _ rfl)
      have e17 : ∀ n, (f n).cell? ⟨g2, o2 + k * 9 + 7, none⟩ = some (.slice os2 r.ss.length cs2) := fun n => ((hf n).cell (p := ⟨g2, o2 + k * 9 + 7, none⟩) hg2).trans (hrg2 7 _ rfl)
      have e18 : ∀ n, (f n).cell? ⟨g2, o2 + k * 9 + 8, none⟩ = some (.int .i64 r.at_) := fun n => ((hf n).cell (p := ⟨g2, o2 + k * 9 + 8, none⟩) hg2).trans (hrg2 8 _ rfl)
      have HD : Hid (wr.drew = f wr.drew) := (hg9 _ (Below.refl _ _).drew).symm
      have HFB := hide hf
      haveI : Nonempty World := ⟨w⟩
      clear hbl hcc hrg hli hcc2 hrg2 hli2 hf hg9 hg hg2
      go_wp2_with fail
      refine wp_region_cls f (by kernel_rfl) (by kernel_rfl) _ HD.out ?_
      repeat (go_big_quiet_step (with_reducible exact HSA.out _))
      refine wpQuiet_nil ?_
      rintro _ ⟨nq, rfl⟩
      go_wp2_with fail
      go_roundw
      case rel => exact ⟨k + 1, by omega, by go_num, keepW HBL.out (HFB.out nq)⟩
      case measure => simp [intOf]; omega
    · obtain rfl : k = l.length := by omega
      clear hbl
      have j1 : ¬ (l.length : Int) < (l.length : Int) := by omega
      go_wp2_with fail
      go_ret
      exact ⟨rfl, HBL.out⟩
end Go.Proofs.YtidccfflpcgkiaaGreatDoor.rc

namespace Go.Proofs.YtidccfflpcgkiaaGreatDoor.rc
open Go.ChangeShapes Go.WideShapes Go.ChangeAt Go.RowKit Go.Joins Go.Deep Go.WideElems Go.Maps Go.Proofs.YtidccfflpcgkiaaGreatDoor.common Go.Proofs.YtidccfflpcgkiaaGreatDoor.ss

theorem cellsRc : Tryz.prog.cellsOf 24 = 9 := by kernel_rfl
theorem bulk_mem {H : Type} : ∀ (l : List (DataW H)) (d : DataW H), d ∈ l → Rows.uptoBulk d ≤ Rows.uptoBulkAll l
  | [], _, h => by cases h
  | x :: r, d, h => by
    rcases List.mem_cons.1 h with rfl | h
    · simp only [Rows.uptoBulkAll]; omega
    · have := bulk_mem r d h; simp only [Rows.uptoBulkAll]; omega
theorem bulk_pos {H : Type} (d : DataW H) : 1 ≤ Rows.uptoBulk d := by
  cases d with
  | lit x => cases x <;> simp [Rows.uptoBulk]
  | _ => simp [Rows.uptoBulk]
theorem bulk_len {H : Type} : ∀ (l : List (DataW H)), l.length ≤ Rows.uptoBulkAll l
  | [] => Nat.zero_le _
  | x :: r => by
    have := bulk_len r
    have := bulk_pos x
    simp only [Rows.uptoBulkAll, List.length_cons]
    omega
theorem list9 {α : Type} {l : List α} (h : l.length = 9) : ∃ a b c d e f g i j, l = [a, b, c, d, e, f, g, i, j] := by
  match l, h with
  | [a, b, c, d, e, f, g, i, j], _ => exact ⟨a, b, c, d, e, f, g, i, j, rfl⟩

set_option maxRecDepth 100000 in
/-- a list of records as an argument -/
theorem recs_of {H : Type} {enc : TypeId × Value → H} {W : World} {fuel : Nat} {v : Value} {d : DataW H} {pl : List MemPlace}
    (h : DataW.trod enc Tryz.prog W 0 (fun _ => true) true fuel 42 [v] = some (d, pl)) (hw : (d.weights Tryz.prog 42).all (· ≤ reachBytes) = true) :
    ∃ l : List Rec, LiesR W v l ∧ l.length ≤ Rows.uptoBulk d ∧ ∀ r ∈ l, r.id.size ≤ Rows.uptoBulk d ∧ r.us.size ≤ Rows.uptoBulk d ∧ r.cl.size ≤ Rows.uptoBulk d ∧ r.rd.size ≤ Rows.uptoBulk d ∧ r.ch.size ≤ Rows.uptoBulk d ∧ r.cd.size ≤ Rows.uptoBulk d ∧ tot r.ss ≤ Rows.uptoBulk d := by
  rcases Deep.open_slice Tryz.underlying42 h with ⟨hcs, hx⟩ | ⟨a, len, cap, m, n, D, Pl, hcs, hb, hl, hm, hmm, hx, hall⟩
  · obtain rfl : v = .slice none 0 0 := by simpa using hcs
    exact ⟨[], ⟨none, 0, rfl, fun i hi => absurd hi (Nat.not_lt_zero _)⟩, Nat.zero_le _, fun x hx => (by cases hx)⟩
  · obtain rfl : v = .slice (some a) len cap := by simpa using hcs
    have hd : d = .slice ((List.range len).map D) ((List.range (m - len)).map fun j => D (len + j)) := (Prod.mk.inj hx).1
    subst hd
    simp only [DataW.weights, Tryz.underlying42, List.all_cons, List.all_append, Bool.and_eq_true] at hw
    have each : ∀ i, ∃ r : Rec, i < len → (∃ b o vi, a = ⟨b, o, none⟩ ∧ b < W.heap.size ∧ W.rangeAt b (o + i * 9) (rcl9 r vi) ∧ Lies W vi r.ss) ∧
        r.id.size ≤ Rows.uptoBulk (D i) ∧ r.us.size ≤ Rows.uptoBulk (D i) ∧ r.cl.size ≤ Rows.uptoBulk (D i) ∧ r.rd.size ≤ Rows.uptoBulk (D i) ∧ r.ch.size ≤ Rows.uptoBulk (D i) ∧ r.cd.size ≤ Rows.uptoBulk (D i) ∧ tot r.ss ≤ Rows.uptoBulk (D i) := by
      intro i
      by_cases hi : i < len
      · obtain ⟨cs', h1, h2⟩ := hall i (by rw [hmm]; simp; omega)
        rw [cellsRc] at h1
        obtain ⟨_, hlen, hcell⟩ := World.cells?_some h1
        obtain ⟨q0, q1, q2, q3, q4, q5, q6, q7, q8, rfl⟩ := list9 hlen
        have hwi := weightsAll_mem _ hw.2.1 (D i) (List.mem_map.2 ⟨i, List.mem_range.2 hi, rfl⟩)
        obtain ⟨r, rfl, rfl, rfl, rfl, rfl, rfl, rfl, rfl, hLs, b1, b2, b3, b4, b5, b6, b7⟩ := rec_of h2 hwi
        have hsp : a.spot = none := by
          obtain ⟨cs0, g1, _⟩ := hall 0 (by rw [hmm]; simp; omega)
          rw [cellsRc] at g1
          obtain ⟨_, hlen0, hcell0⟩ := World.cells?_some g1
          have g2 := hcell0 0 (by decide)
          rw [List.getElem?_eq_getElem (by omega)] at g2
          have := World.cell?_spot g2
          simpa [Addr.add] using this
        obtain ⟨b, o, sp⟩ := a
        simp at hsp
        subst hsp
        have hrg : W.rangeAt b (o + i * 9) (rcl9 r q7) := by
          intro j u hu
          have hj : j < 9 := (List.getElem?_eq_some_iff.1 hu).1
          have := hcell j hj
          rw [Addr.add_mid, Addr.add_mid] at this
          rw [← hu, this]
        have cz : W.cell? ⟨b, o + i * 9, none⟩ = some (.int .i64 r.k) := by
          have := hrg 0 _ rfl
          simpa using this
        exact ⟨r, fun _ => ⟨⟨b, o, q7, rfl, World.block_lt_of_cell? W _ cz, hrg, hLs⟩, b1, b2, b3, b4, b5, b6, b7⟩⟩
      · exact ⟨⟨0, ⟨#[]⟩, ⟨#[]⟩, ⟨#[]⟩, ⟨#[]⟩, ⟨#[]⟩, ⟨#[]⟩, [], 0⟩, fun h => absurd h hi⟩
    obtain ⟨f, hf⟩ := Classical.axiomOfChoice each
    have hlen : ((List.range len).map f).length = len := by simp
    have hB : Rows.uptoBulkAll ((List.range len).map D) ≤ Rows.uptoBulk (.slice ((List.range len).map D) ((List.range (m - len)).map fun j => D (len + j))) := by
      simp only [Rows.uptoBulk]
      omega
    have hl2 := bulk_len ((List.range len).map D)
    rw [List.length_map, List.length_range] at hl2
    refine ⟨(List.range len).map f, ⟨some a, cap, by rw [hlen], fun i hi => ?_⟩, by rw [hlen]; omega, fun r hr => ?_⟩
    · rw [hlen] at hi
      obtain ⟨⟨b, o, vi, rfl, hb, hrg, hLs⟩, _⟩ := hf i hi
      exact ⟨b, o, vi, rfl, hb, by simpa using hrg, by simpa using hLs⟩
    · obtain ⟨i, hi, rfl⟩ := List.mem_map.1 hr
      have hi' := List.mem_range.1 hi
      obtain ⟨_, b1, b2, b3, b4, b5, b6, b7⟩ := hf i hi'
      have hm := bulk_mem ((List.range len).map D) (D i) (List.mem_map.2 ⟨i, hi, rfl⟩)
      exact ⟨by omega, by omega, by omega, by omega, by omega, by omega, by omega⟩
end Go.Proofs.YtidccfflpcgkiaaGreatDoor.rc

namespace Go.Proofs.YtidccfflpcgkiaaGreatDoor.dk
open Go.ChangeShapes Go.WideShapes Go.ChangeAt Go.RowKit Go.Proofs.YtidccfflpcgkiaaGreatDoor.common

theorem take_same {α : Type} {l m : List α} {k : Nat} (h : l.take k = m.take k) (hl : k < l.length) (hm : k < m.length) (he : l[k] = m[k]) : l.take (k + 1) = m.take (k + 1) := by
  rw [List.take_succ_eq_append_getElem hl, List.take_succ_eq_append_getElem hm, h, he]
theorem take_diff {α : Type} {l m : List α} {k : Nat} (hl : k < l.length) (hm : k < m.length) (he : l[k] ≠ m[k]) : l ≠ m := fun e => by subst e; exact he rfl

set_option maxRecDepth 100000 in
set_option maxHeartbeats 1600000 in
theorem sameBytes_dec (w : World) (va vb : Value) (l m : List UInt8) (ha : Rd w va l) (hb : Rd w vb m) (hl : l.length ≤ 4611686018427387904) (_ : m.length ≤ 4611686018427387904) :
    Calls Tryz.prog 16 #[va, vb] w fun r' w' => r' = .returned (.bool (decide (l = m))) ∧ Below w.heap.size w w' := by
  obtain ⟨oa, ca, rfl⟩ := ha.len
  obtain ⟨ob, cb, rfl⟩ := hb.len
  have HA := hide ha
  have HB := hide hb
  clear ha hb
  by_cases hlen : l.length = m.length
  · rw [hlen] at HA hl ⊢
    have HLEN := hide hlen
    clear hlen
    go_enter Tryz.func16, Tryz.ntmps16
    go_wp2
    go_loopw [5] (fun i wr => ∃ k : Nat, k ≤ m.length ∧ i = .int .i64 k ∧ l.take k = m.take k ∧ ∃ n, wr = w.drewN n) (fun i _ => m.length - (intOf i).toNat)
    case atStart => exact ⟨0, Nat.zero_le _, rfl, rfl, 0, rfl⟩
    case round =>
      obtain ⟨k, hk, rfl, htk, n, rfl⟩ := hrel
      have HTK := hide htk
      clear htk
      by_cases hlt : k < m.length
      · have HL1 : Hid (k < l.length) := by show _ < _; rw [HLEN.out]; exact hlt
        have HA' : Hid (Rd w (.slice oa l.length ca) l) := by rw [HLEN.out]; exact HA.out
        obtain ⟨ga, o1, rfl, h1⟩ := HA'.out.cell (Nat.lt_of_le_of_lt (Nat.zero_le _) HL1.out)
        obtain ⟨gb, o2, rfl, h2⟩ := HB.out.cell (by omega)
        have c1 : w.cell? ⟨ga, o1 + k, none⟩ = some (B (l[k]'HL1.out)) := h1 k HL1.out
        have c2 : w.cell? ⟨gb, o2 + k, none⟩ = some (B m[k]) := h2 k hlt
        have k0 : (0 : Int) ≤ (k : Int) := Int.natCast_nonneg _
        have k1 : (k : Int) < (m.length : Int) := by omega
        clear h1 h2 HA'
        by_cases he : l[k]'HL1.out = m[k]
        · have HN := hide (take_same HTK.out HL1.out hlt he)
          rw [he] at c1
          clear he
          generalize m[k] = x at *
          go_wp2_with fail
          go_quiet (fail)
          go_wp2
          go_roundw
          case rel => exact ⟨k + 1, by omega, by go_num, HN.out, _, rfl⟩
          case measure => simp [intOf]; omega
        · have HN : Hid (decide (l = m) = false) := decide_eq_false (take_diff HL1.out hlt he)
          generalize l[k]'HL1.out = x at *
          generalize m[k] = y at *
          have q : ((x.toNat : Int) != (y.toNat : Int)) = true := by
            rw [bne_iff_ne]
            intro e
            exact he (UInt8.toNat_inj.1 (by omega))
          clear he
          go_wp2_with fail
          go_quiet (fail)
          go_wp2
          go_ret
          exact ⟨by rw [HN.out]; rfl, by first | exact bdN (bdN (Below.refl _ _) _) _ | exact bdN (Below.refl _ _) _⟩
      · obtain rfl : k = m.length := by omega
        have HN : Hid (decide (l = m) = true) := decide_eq_true (by
          have h := HTK.out
          rw [List.take_of_length_le (by rw [HLEN.out]; exact Nat.le_refl _), List.take_length] at h
          exact h)
        go_wp2
        go_ret
        exact ⟨by rw [HN.out]; rfl, bdN (Below.refl _ _) _⟩
  · have HN : Hid (decide (l = m) = false) := decide_eq_false (fun e => hlen (by rw [e]))
    have q : ((l.length : Int) != (m.length : Int)) = true := by rw [bne_iff_ne]; omega
    clear hlen
    go_enter Tryz.func16, Tryz.ntmps16
    go_wp2
    go_ret
    exact ⟨by rw [HN.out]; rfl, Below.refl _ _⟩
end Go.Proofs.YtidccfflpcgkiaaGreatDoor.dk
