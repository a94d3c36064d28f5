import Derived.Test.YtobflealcldgnaaGreatDoorRcPack
import Derived.Test.YtobflealcldgnaaGreatDoorRefMeant
import Derived.Test.YtobflealcldgnaaGreatDoorRcOpen
namespace Go.Proofs.YtobflealcldgnaaGreatDoor.rc
open Go.ChangeShapes Go.WideShapes Go.ChangeAt Go.RowKit Go.Proofs.YtobflealcldgnaaGreatDoor.common Go.Proofs.YtobflealcldgnaaGreatDoor.ss

/-- the cells of records that lie one behind the other, with the slices of their scopes -/
def rcc : List Rec → List Value → List Value
  | r :: t, v :: s => rcl9 r v ++ rcc t s
  | _, _ => []
theorem rcc_len : ∀ (l : List Rec) (s : List Value), l.length = s.length → (rcc l s).length = l.length * 9
  | [], [], _ => rfl
  | [], _ :: _, h => by simp at h
  | _ :: _, [], h => by simp at h
  | r :: t, v :: s, h => by
    have := rcc_len t s (by simpa using h)
    show (rcl9 r v ++ rcc t s).length = (t.length + 1) * 9
    rw [List.length_append, this]
    show 9 + _ = _
    omega
theorem rcc_snoc (r : Rec) (v : Value) : ∀ (l : List Rec) (s : List Value), l.length = s.length → rcc (l ++ [r]) (s ++ [v]) = rcc l s ++ rcl9 r v
  | [], [], _ => rfl
  | [], _ :: _, h => by simp at h
  | _ :: _, [], h => by simp at h
  | g :: t, u :: s, h => by
    have := rcc_snoc r v t s (by simpa using h)
    show rcl9 g u ++ rcc (t ++ [r]) (s ++ [v]) = rcl9 g u ++ rcc t s ++ rcl9 r v
    rw [this, List.append_assoc]
theorem rcc_get : ∀ (l : List Rec) (s : List Value) (hls : l.length = s.length) (i : Nat) (h : i < l.length) (j : Nat) (x : Value), (rcl9 l[i] (s[i]'(by omega)))[j]? = some x → (rcc l s)[i * 9 + j]? = some x
  | [], _, _, i, h, _, _, _ => by simp at h
  | _ :: _, [], hls, _, _, _, _, _ => by simp at hls
  | r :: t, v :: s, _, 0, _, j, x, hx => by
    have hx : (rcl9 r v)[j]? = some x := hx
    show (rcl9 r v ++ rcc t s)[0 * 9 + j]? = _
    rw [Nat.zero_mul, Nat.zero_add, List.getElem?_append_left (List.getElem?_eq_some_iff.1 hx).1]
    exact hx
  | r :: t, v :: s, hls, i + 1, h, j, x, hx => by
    have := rcc_get t s (by simpa using hls) i (by simpa using h) j x hx
    show (rcl9 r v ++ rcc t s)[(i + 1) * 9 + j]? = _
    have e9 : (rcl9 r v).length = 9 := rfl
    rw [List.getElem?_append_right (by rw [e9]; omega), e9, show (i + 1) * 9 + j - 9 = i * 9 + j by omega]
    exact this
theorem infoRc : (Tryz.prog.info? 26).map (fun i => (i.zero, i.size, i.bytes)) = some (some (.agg zrec), 9, 136) := by kernel_rfl
theorem rows_ne {w : World} {base base' : Nat} {e e' : TypeId} {z z' : Nat} {v v' : Value} {n n' : Nat} {xs xs' : List Value} (he : e ≠ e') (h : w.ownsRow base e z v n xs) (h' : w.ownsRow base' e' z' v' n' xs') : v.ownBlock = none ∨ v.ownBlock ≠ v'.ownBlock := by
  rcases h.2 with ⟨rfl, _⟩ | ⟨g, cap, cur, rfl, _, hh, _⟩
  · exact Or.inl rfl
  · refine Or.inr ?_
    rcases h'.2 with ⟨rfl, _⟩ | ⟨g', cap', cur', rfl, _, hh', _⟩
    · intro h; cases h
    · intro h
      simp only [Value.ownBlock, Option.some.injEq] at h
      subst h
      rw [hh] at hh'
      cases hh'
      exact he rfl
/-- records that lie in rows of one's own -/
structure OwnR (base : Nat) (w : World) (v : Value) (l : List Rec) (s : List Value) : Prop where
  len : l.length = s.length
  row : w.ownsRow base 26 9 v l.length (rcc l s)
  each : ∀ i (h : i < s.length), w.ownsRow base 9 1 s[i] (l[i]'(by omega)).ss.length (sc (l[i]'(by omega)).ss)
theorem OwnR.below {base : Nat} {w w' : World} {v : Value} {l : List Rec} {s : List Value} (h : OwnR base w v l s) (hb : Below w.heap.size w w') : OwnR base w' v l s :=
  ⟨h.len, dk.own_below h.row hb, fun i hi => dk.own_below (h.each i hi) hb⟩
theorem OwnR.nil (base : Nat) (w : World) : OwnR base w (.slice none 0 0) [] [] := ⟨rfl, World.ownsRow_nil _ _ _ _, fun _ h => absurd h (Nat.not_lt_zero _)⟩
/-- the first n of them -/
theorem OwnR.lies {base : Nat} {w : World} {oa : Option Addr} {m cap : Nat} {l : List Rec} {s : List Value} (h : OwnR base w (.slice oa m cap) l s) (n : Nat) (hn : n ≤ l.length) : LiesR w (.slice oa n cap) (l.take n) := by
  have hl : (l.take n).length = n := by rw [List.length_take]; omega
  rcases h.row.2 with ⟨hq, h0⟩ | ⟨g, cap', cur, hq, hg, hh, _⟩
  · cases hq
    have : n = 0 := by omega
    subst this
    exact ⟨none, 0, by simp, fun i hi => absurd hi (by simp)⟩
  · have hc := h.row.cells (g := g) (by rw [hq]; rfl)
    cases hq
    refine ⟨_, cap, by rw [hl], fun i hi => ?_⟩
    have hi2 : i < l.length := by omega
    have hi3 : i < s.length := by have := h.len; omega
    have hti : (l.take n)[i] = l[i] := List.getElem_take ..
    refine ⟨g, 0, s[i], rfl, (Array.getElem?_eq_some_iff.1 hh).1, ?_, ?_⟩
    · intro j x hx
      rw [hti] at hx
      have := hc _ _ (rcc_get l s h.len i hi2 j x hx)
      rw [Addr.add_mid] at this
      rw [← this, Nat.zero_add, Nat.zero_add]
    · rw [hti]; exact lies_of_own (h.each i hi3)
/-- one more behind them, in whatever room -/
theorem OwnR.snoc {base : Nat} {w w' : World} {v v' : Value} {l : List Rec} {s : List Value} (h : OwnR base w v l s) (r : Rec) (u : Value) (hu : w.ownsRow base 9 1 u r.ss.length (sc r.ss))
    (hr : w'.ownsRow base 26 9 v' (l.length + 1) (rcc l s ++ rcl9 r u)) (hg : w.grownBy w' v.ownBlock) : OwnR base w' v' (l ++ [r]) (s ++ [u]) := by
  refine ⟨by simp [h.len], by rw [rcc_snoc r u l s h.len, List.length_append]; exact hr, fun i hi => ?_⟩
  have hne : (9 : TypeId) ≠ 26 := by decide
  by_cases hlt : i < s.length
  · have e1 : (s ++ [u])[i] = s[i] := List.getElem_append_left hlt
    have e2 : (l ++ [r])[i]'(by simp; have := h.len; omega) = l[i]'(by have := h.len; omega) := List.getElem_append_left (by have := h.len; omega)
    rw [e1, e2]
    exact (h.each i hlt).kept hg (rows_ne hne (h.each i hlt) h.row)
  · have hi' : i = s.length := by simp at hi; omega
    subst hi'
    have e1 : (s ++ [u])[s.length] = u := List.getElem_concat_length rfl _
    have e2 : (l ++ [r])[s.length]'(by simp [h.len]) = r := by
      have := h.len
      simp [← this]
    rw [e1, e2]
    exact hu.kept hg (rows_ne hne hu h.row)
theorem rcl_one (r : Rec) (oa : Option Addr) (n c : Nat) : ∀ u ∈ rcl9 r (.slice oa n c), u.oneCell' = true := by
  intro u hu
  simp only [rcl9, List.mem_cons, List.mem_nil_iff, or_false] at hu
  rcases hu with rfl | rfl | rfl | rfl | rfl | rfl | rfl | rfl | rfl <;> rfl
theorem cells9 (w : World) (r : Rec) (v : Value) (t : TypeId) : ∀ j u, (rcl9 r v)[j]? = some u → (w.alloc (.cells (rcs r v) t)).cell? ((⟨w.heap.size, 0, none⟩ : Addr).add j) = some u := by
  intro j u h
  have h1 := heap_alloc_new w (.cells (rcs r v) t (0, 0))
  rw [Addr.add_mid, Nat.zero_add]
  simp only [World.cell?, h1]
  simpa using h
end Go.Proofs.YtobflealcldgnaaGreatDoor.rc

namespace Go.Proofs.YtobflealcldgnaaGreatDoor.rc
open Go.ChangeShapes Go.WideShapes Go.ChangeAt Go.RowKit Go.Joins Go.Deep Go.WideElems Go.Maps Go.Proofs.YtobflealcldgnaaGreatDoor.common Go.Proofs.YtobflealcldgnaaGreatDoor.ss

theorem cellsRc : Tryz.prog.cellsOf 26 = 9 := by kernel_rfl
theorem bulk_mem {H : Type} : ∀ (l : List (DataW H)) (d : DataW H), d ∈ l → Rows.uptoBulk d ≤ Rows.uptoBulkAll l
  | [], _, h => by cases h
  | x :: r, d, h => by
    rcases List.mem_cons.1 h with rfl | h
    · simp only [Rows.uptoBulkAll]; omega
    · have := bulk_mem r d h; simp only [Rows.uptoBulkAll]; omega
theorem bulk_pos {H : Type} (d : DataW H) : 1 ≤ Rows.uptoBulk d := by
  cases d with
  | lit x => cases x <;> simp [Rows.uptoBulk]
  | _ => simp [Rows.uptoBulk]
theorem bulk_len {H : Type} : ∀ (l : List (DataW H)), l.length ≤ Rows.uptoBulkAll l
  | [] => Nat.zero_le _
  | x :: r => by
    have := bulk_len r
    have := bulk_pos x
    simp only [Rows.uptoBulkAll, List.length_cons]
    omega
theorem list9 {α : Type} {l : List α} (h : l.length = 9) : ∃ a b c d e f g i j, l = [a, b, c, d, e, f, g, i, j] := by
  match l, h with
  | [a, b, c, d, e, f, g, i, j], _ => exact ⟨a, b, c, d, e, f, g, i, j, rfl⟩

set_option maxRecDepth 100000 in
/-- a list of records as an argument -/
theorem recs_of {H : Type} {enc : TypeId × Value → H} {W : World} {fuel : Nat} {v : Value} {d : DataW H} {pl : List MemPlace}
    (h : DataW.trod enc Tryz.prog W 0 (fun _ => true) true fuel 22 [v] = some (d, pl)) (hw : (d.weights Tryz.prog 22).all (· ≤ reachBytes) = true) :
    ∃ l : List Rec, LiesR W v l ∧ l.length ≤ Rows.uptoBulk d ∧ ∀ r ∈ l, r.id.size ≤ Rows.uptoBulk d ∧ r.us.size ≤ Rows.uptoBulk d ∧ r.cl.size ≤ Rows.uptoBulk d ∧ r.rd.size ≤ Rows.uptoBulk d ∧ r.ch.size ≤ Rows.uptoBulk d ∧ r.cd.size ≤ Rows.uptoBulk d ∧ tot r.ss ≤ Rows.uptoBulk d := by
  rcases Deep.open_slice Tryz.underlying22 h with ⟨hcs, hx⟩ | ⟨a, len, cap, m, n, D, Pl, hcs, hb, hl, hm, hmm, hx, hall⟩
  · obtain rfl : v = .slice none 0 0 := by simpa using hcs
    exact ⟨[], ⟨none, 0, rfl, fun i hi => absurd hi (Nat.not_lt_zero _)⟩, Nat.zero_le _, fun x hx => (by cases hx)⟩
  · obtain rfl : v = .slice (some a) len cap := by simpa using hcs
    have hd : d = .slice ((List.range len).map D) ((List.range (m - len)).map fun j => D (len + j)) := (Prod.mk.inj hx).1
    subst hd
    simp only [DataW.weights, Tryz.underlying22, List.all_cons, List.all_append, Bool.and_eq_true] at hw
    have each : ∀ i, ∃ r : Rec, i < len → (∃ b o vi, a = ⟨b, o, none⟩ ∧ b < W.heap.size ∧ W.rangeAt b (o + i * 9) (rcl9 r vi) ∧ Lies W vi r.ss) ∧
        r.id.size ≤ Rows.uptoBulk (D i) ∧ r.us.size ≤ Rows.uptoBulk (D i) ∧ r.cl.size ≤ Rows.uptoBulk (D i) ∧ r.rd.size ≤ Rows.uptoBulk (D i) ∧ r.ch.size ≤ Rows.uptoBulk (D i) ∧ r.cd.size ≤ Rows.uptoBulk (D i) ∧ tot r.ss ≤ Rows.uptoBulk (D i) := by
      intro i
      by_cases hi : i < len
      · obtain ⟨cs', h1, h2⟩ := hall i (by rw [hmm]; simp; omega)
        rw [cellsRc] at h1
        obtain ⟨_, hlen, hcell⟩ := World.cells?_some h1
        obtain ⟨q0, q1, q2, q3, q4, q5, q6, q7, q8, rfl⟩ := list9 hlen
        have hwi := weightsAll_mem _ hw.2.1 (D i) (List.mem_map.2 ⟨i, List.mem_range.2 hi, rfl⟩)
        obtain ⟨r, rfl, rfl, rfl, rfl, rfl, rfl, rfl, rfl, hLs, b1, b2, b3, b4, b5, b6, b7⟩ := rec_of h2 hwi
        have hsp : a.spot = none := by
          obtain ⟨cs0, g1, _⟩ := hall 0 (by rw [hmm]; simp; omega)
          rw [cellsRc] at g1
          obtain ⟨_, hlen0, hcell0⟩ := World.cells?_some g1
          have g2 := hcell0 0 (by decide)
          rw [List.getElem?_eq_getElem (by omega)] at g2
          have := World.cell?_spot g2
          simpa [Addr.add] using this
        obtain ⟨b, o, sp⟩ := a
        simp at hsp
        subst hsp
        have hrg : W.rangeAt b (o + i * 9) (rcl9 r q7) := by
          intro j u hu
          have hj : j < 9 := (List.getElem?_eq_some_iff.1 hu).1
          have := hcell j hj
          rw [Addr.add_mid, Addr.add_mid] at this
          rw [← hu, this]
        have cz : W.cell? ⟨b, o + i * 9, none⟩ = some (.int .i64 r.k) := by
          have := hrg 0 _ rfl
          simpa using this
        exact ⟨r, fun _ => ⟨⟨b, o, q7, rfl, World.block_lt_of_cell? W _ cz, hrg, hLs⟩, b1, b2, b3, b4, b5, b6, b7⟩⟩
      · exact ⟨⟨0, ⟨#[]⟩, ⟨#[]⟩, ⟨#[]⟩, ⟨#[]⟩, ⟨#[]⟩, ⟨#[]⟩, [], 0⟩, fun h => absurd h hi⟩
    obtain ⟨f, hf⟩ := Classical.axiomOfChoice each
    have hlen : ((List.range len).map f).length = len := by simp
    have hB : Rows.uptoBulkAll ((List.range len).map D) ≤ Rows.uptoBulk (.slice ((List.range len).map D) ((List.range (m - len)).map fun j => D (len + j))) := by
      simp only [Rows.uptoBulk]
      omega
    have hl2 := bulk_len ((List.range len).map D)
    rw [List.length_map, List.length_range] at hl2
    refine ⟨(List.range len).map f, ⟨some a, cap, by rw [hlen], fun i hi => ?_⟩, by rw [hlen]; omega, fun r hr => ?_⟩
    · rw [hlen] at hi
      obtain ⟨⟨b, o, vi, rfl, hb, hrg, hLs⟩, _⟩ := hf i hi
      exact ⟨b, o, vi, rfl, hb, by simpa using hrg, by simpa using hLs⟩
    · obtain ⟨i, hi, rfl⟩ := List.mem_map.1 hr
      have hi' := List.mem_range.1 hi
      obtain ⟨_, b1, b2, b3, b4, b5, b6, b7⟩ := hf i hi'
      have hm := bulk_mem ((List.range len).map D) (D i) (List.mem_map.2 ⟨i, hi, rfl⟩)
      exact ⟨by omega, by omega, by omega, by omega, by omega, by omega, by omega⟩
end Go.Proofs.YtobflealcldgnaaGreatDoor.rc

namespace Go.Proofs.YtobflealcldgnaaGreatDoor.rc
open Go.ChangeShapes Go.WideShapes Go.ChangeAt Go.RowKit Go.Proofs.YtobflealcldgnaaGreatDoor.common Go.Proofs.YtobflealcldgnaaGreatDoor.ss
attribute [local go_sem ↓] Go.wp_at_zero Go.wp_at_succ

set_option maxRecDepth 100000 in
set_option maxHeartbeats 6400000 in
theorem twins_any (l : List Rec) (v : Value) (w : World) (hv : LiesR w v l) (hs : ∀ r ∈ l, r.ss.length * 16 ≤ 140737488355328) (hn : (l.length + 4) * 136 ≤ 140737488355328) :
    Calls Tryz.prog 4 #[v] w fun e w' => ∃ v' s, e = .returned v' ∧ OwnR w.heap.size w' v' l s ∧ Below w.heap.size w w' := by
  obtain ⟨i0, hi, hz0, hz1, hz2⟩ := info_parts infoRc
  obtain ⟨ov, cv, hvv⟩ : ∃ ov cv, v = .slice ov l.length cv := by obtain ⟨a, b, h, _⟩ := hv; exact ⟨a, b, h⟩
  have HV : Hid (∀ X, Below w.heap.size w X → LiesR X v l) := fun X hX => hv.below hX
  have HS := hide hs
  clear hv hs
  subst hvv
  go_enter Tryz.func4, Tryz.ntmps4
  go_wp2_with fail
  go_loopw [3, 4] (fun vo i wr => ∃ (k : Nat) (s : List Value), k ≤ l.length ∧ i = .int .i64 k ∧ OwnR w.heap.size wr vo (l.take k) s ∧ Below w.heap.size w wr) (fun _ i _ => l.length - (intOf i).toNat)
  case atStart => exact ⟨0, [], Nat.zero_le _, rfl, by rw [List.take_zero]; exact OwnR.nil _ _, Below.refl _ _⟩
  case round =>
    obtain ⟨k, s, hk, rfl, hown, hbl⟩ := hrel
    have hsz := hbl.size
    have htl : (l.take k).length = k := by rw [List.length_take]; omega
    obtain ⟨oo, co, rfl⟩ := own_slice hown.row
    rw [htl] at hown
    have HO := hide hown
    have HBL := hide hbl
    by_cases hlt : k < l.length
    · have j0 : (0 : Int) ≤ (k : Int) := Int.natCast_nonneg _
      have j1 : (k : Int) < (l.length : Int) := by omega
      obtain ⟨_, _, hq, hcc⟩ := HV.out wr hbl
      cases hq
      obtain ⟨g, o, vi, rfl, hg, hrg, hli⟩ := hcc k hlt
      obtain ⟨os, cs, rfl⟩ := Lies.len hli
      have hsm := HS.out _ (List.getElem_mem hlt)
      have HTK : Hid (l.take (k + 1) = l.take k ++ [l[k]]) := List.take_succ_eq_append_getElem hlt
      generalize l[k]'hlt = r at *
      have HTW := hide (twinR_any r (.slice os r.ss.length cs) wr hli hsm)
      have HRG := hide hrg
      clear hown hbl hcc hrg hli
      go_wp2_with (refine wpList_load_mid rfl 26 (.tmp 14) rfl g (o + k * 9) rfl _ _ HRG.out Tryz.underlying26 rfl sizeRec ?_)
      refine HTW.out.mono ?_
      rintro x w1 ⟨u, rfl, own1, b1⟩
      obtain ⟨ou, cu, rfl⟩ := own_slice own1
      have bX : Below w1.heap.size w1 ((w1.alloc (.cells (rcs r (.slice ou r.ss.length cu)) 26)).alloc (.cells (rcs r (.slice ou r.ss.length cu)) 26)) := ((Below.refl _ _).alloc (Nat.le_refl _) _).alloc (by simp) _
      have HRX : Hid ((w1.alloc (.cells (rcs r (.slice ou r.ss.length cu)) 26)).rangeAt w1.heap.size 0 (rcl9 r (.slice ou r.ss.length cu))) := dk.range_of (t := 26) (heap_alloc_new w1 _)
      have HO2 := hide (HO.out.below (keepW b1 bX))
      have HU2 := hide (own_least (dk.own_below own1 bX) hsz)
      have HBX := hide (keepW HBL.out (keepW b1 bX))
      have HC9 := hide (cells9 (w1.alloc (.cells (rcs r (.slice ou r.ss.length cu)) 26)) r (.slice ou r.ss.length cu) 26)
      have hs1 : w.heap.size ≤ w1.heap.size := Nat.le_trans hsz b1.size
      have HROW := hide HO2.out.row
      rw [htl] at HROW
      clear own1 b1 bX HTW HO
      go_wp2_with (first
        | (refine wpList_load_mid rfl 26 (.tmp 5) rfl w1.heap.size 0 rfl _ _ HRX.out Tryz.underlying26 rfl sizeRec ?_)
        | (at_builtin; refine wpList_append_own _ rfl _ _ 22 rfl w.heap.size 26 i0 (.agg zrec) 9 136 Tryz.underlying22 hi hz0 hz1 hz2 rfl (by decide) _ k _ rfl HROW.out ⟨(w1.alloc (.cells (rcs r (.slice ou r.ss.length cu)) 26)).heap.size, 0, none⟩ 1 1 (rcl9 r (.slice ou r.ss.length cu)) ?c0 rfl HC9.out (rcl_one _ _ _ _) ?c3 ?c4 ?c5 ?_))
      case c0 => first | rfl | (rw [World.size_alloc]; rfl)
      case c3 => unfold maxLen; omega
      case c4 => omega
      case c5 => first | omega | (simp; omega)
      intro v' w2 hown' hgrow _
      have HN : Hid (OwnR w.heap.size w2 v' (l.take (k + 1)) (s ++ [.slice ou r.ss.length cu])) := by
        show OwnR _ _ _ _ _
        rw [HTK.out]
        exact HO2.out.snoc r _ HU2.out (by rw [htl]; exact hown') hgrow
      have HB2 : Hid (Below w.heap.size w w2) := HBX.out.grown hgrow (by simp; omega) (fun b hb => (HROW.out.lt b hb).1)
      clear hown' hgrow HROW HC9 HU2 HO2 HRX HBX
      go_wp2_with fail
      go_roundw
      case rel => exact ⟨k + 1, _, by omega, by go_num, HN.out, HB2.out⟩
      case measure => simp [intOf]; omega
    · obtain rfl : k = l.length := by omega
      rw [List.take_length] at HO
      clear hown hbl
      have j1 : ¬ (l.length : Int) < (l.length : Int) := by omega
      go_wp2_with fail
      go_ret
      exact ⟨_, rfl, ⟨s, HO.out⟩, HBL.out⟩

set_option maxRecDepth 100000 in
set_option maxHeartbeats 6400000 in
theorem sameRecs_any (l : List Rec) (va vb : Value) (w : World) (ha : LiesR w va l) (hb : LiesR w vb l) (hs : ∀ r ∈ l, r.ss.length ≤ 4611686018427387904) (hn : l.length ≤ 4611686018427387904) :
    Calls Tryz.prog 8 #[va, vb] w fun e w' => e = .returned (.bool true) ∧ Below w.heap.size w w' := by
  obtain ⟨oa, ca, hva⟩ : ∃ oa ca, va = .slice oa l.length ca := by obtain ⟨a, b, h, _⟩ := ha; exact ⟨a, b, h⟩
  obtain ⟨ob, cb, hvb⟩ : ∃ ob cb, vb = .slice ob l.length cb := by obtain ⟨a, b, h, _⟩ := hb; exact ⟨a, b, h⟩
  have HA : Hid (∀ X, Below w.heap.size w X → LiesR X va l) := fun X hX => ha.below hX
  have HB : Hid (∀ X, Below w.heap.size w X → LiesR X vb l) := fun X hX => hb.below hX
  have HS := hide hs
  clear ha hb hs
  subst hva hvb
  go_enter Tryz.func8, Tryz.ntmps8
  go_wp2_with fail
  go_loopw [5] (fun i wr => ∃ k : Nat, k ≤ l.length ∧ i = .int .i64 k ∧ Below w.heap.size w wr) (fun i _ => l.length - (intOf i).toNat)
  case atStart => exact ⟨0, Nat.zero_le _, rfl, Below.refl _ _⟩
  case round =>
    obtain ⟨k, hk, rfl, hbl⟩ := hrel
    have HBL := hide hbl
    by_cases hlt : k < l.length
    · have j0 : (0 : Int) ≤ (k : Int) := Int.natCast_nonneg _
      have j1 : (k : Int) < (l.length : Int) := by omega
      obtain ⟨_, _, hq, hcc⟩ := HA.out wr hbl
      cases hq
      obtain ⟨g, o, vi, rfl, hg, hrg, hli⟩ := hcc k hlt
      obtain ⟨_, _, hq, hcc2⟩ := HB.out wr hbl
      cases hq
      obtain ⟨g2, o2, vi2, rfl, hg2, hrg2, hli2⟩ := hcc2 k hlt
      obtain ⟨os, cs, rfl⟩ := Lies.len hli
      obtain ⟨os2, cs2, rfl⟩ := Lies.len hli2
      have hsm := HS.out _ (List.getElem_mem hlt)
      generalize l[k]'hlt = r at *
      obtain ⟨f, hf, hg9⟩ := class_of wr
      have HSA : Hid (∀ n, Calls Tryz.prog 15 #[.agg (rcs r (.slice os r.ss.length cs)), .agg (rcs r (.slice os2 r.ss.length cs2))] (f n) fun e w' => e = .returned (.bool true) ∧ ∃ m, w' = f m) := fun n => (sameRec_any r _ _ (f n) (hli.below (hf n)) (hli2.below (hf n)) hsm).mono (fun e w1 h => ⟨h.1, w1, (hg9 _ (keepW (hf n) h.2)).symm⟩)
      have e00 : ∀ n, (f n).cell? ⟨g, o + k * 9, none⟩ = some (.int .i64 r.k) := fun n => ((hf n).cell (p := ⟨g, o + k * 9, none⟩) hg).trans (hrg 0 _ rfl)
      have e01 : ∀ n, (f n).cell? ⟨g, o + k * 9 + 1, none⟩ = some (.string r.id) := fun n => ((hf n).cell (p := ⟨g, o + k * 9 + 1, none⟩) hg).trans (hrg 1 _ rfl)
      have e02 : ∀ n, (f n).cell? ⟨g, o + k * 9 + 2, none⟩ = some (.string r.us) := fun n => ((hf n).cell (p := ⟨g, o + k * 9 + 2, none⟩) hg).trans (hrg 2 _ rfl)
      have e03 : ∀ n, (f n).cell? ⟨g, o + k * 9 + 3, none⟩ = some (.string r.cl) := fun n => ((hf n).cell (p := ⟨g, o + k * 9 + 3, none⟩) hg).trans (hrg 3 _ rfl)
      have e04 : ∀ n, (f n).cell? ⟨g, o + k * 9 + 4, none⟩ = some (.string r.rd) := fun n => ((hf n).cell (p := ⟨g, o + k * 9 + 4, none⟩) hg).trans (hrg 4 _ rfl)
      have e05 : ∀ n, (f n).cell? ⟨g, o + k * 9 + 5, none⟩ = some (.string r.ch) := fun n => ((hf n).cell (p := ⟨g, o + k * 9 + 5, none⟩) hg).trans (hrg 5 _ rfl)
      have e06 : ∀ n, (f n).cell? ⟨g, o + k * 9 + 6, none⟩ = some (.string r.cd) := fun n => ((hf n).cell (p := ⟨g, o + k * 9 + 6, none⟩) hg).trans (hrg 6 _ rfl)
      have e07 : ∀ n, (f n).cell? ⟨g, o + k * 9 + 7, none⟩ = some (.slice os r.ss.length cs) := fun n => ((hf n).cell (p := ⟨g, o + k * 9 + 7, none⟩) hg).trans (hrg 7 _ rfl)
      have e08 : ∀ n, (f n).cell? ⟨g, o + k * 9 + 8, none⟩ = some (.int .i64 r.at_) := fun n => ((hf n).cell (p := ⟨g, o + k * 9 + 8, none⟩) hg).trans (hrg 8 _ rfl)
      have e10 : ∀ n, (f n).cell? ⟨g2, o2 + k * 9, none⟩ = some (.int .i64 r.k) := fun n => ((hf n).cell (p := ⟨g2, o2 + k * 9, none⟩) hg2).trans (hrg2 0 _ rfl)
      have e11 : ∀ n, (f n).cell? ⟨g2, o2 + k * 9 + 1, none⟩ = some (.string r.id) := fun n => ((hf n).cell (p := ⟨g2, o2 + k * 9 + 1, none⟩) hg2).trans (hrg2 1 _ rfl)
      have e12 : ∀ n, (f n).cell? ⟨g2, o2 + k * 9 + 2, none⟩ = some (.string r.us) := fun n => ((hf n).cell (p := ⟨g2, o2 + k * 9 + 2, none⟩) hg2).trans (hrg2 2 _ rfl)
      have e13 : ∀ n, (f n).cell? ⟨g2, o2 + k * 9 + 3, none⟩ = some (.string r.cl) := fun n => ((hf n).cell (p := ⟨g2, o2 + k * 9 + 3, none⟩) hg2).trans (hrg2 3 _ rfl)
      have e14 : ∀ n, (f n).cell? ⟨g2, o2 + k * 9 + 4, none⟩ = some (.string r.rd) := fun n => ((hf n).cell (p := ⟨g2, o2 + k * 9 + 4, none⟩) hg2).trans (hrg2 4 _ rfl)
      have e15 : ∀ n, (f n).cell? ⟨g2, o2 + k * 9 + 5, none⟩ = some (.string r.ch) := fun n => ((hf n).cell (p := ⟨g2, o2 + k * 9 + 5, none⟩) hg2).trans (hrg2 5 _ rfl)
      have e16 : ∀ n, (f n).cell? ⟨g2, o2 + k * 9 + 6, none⟩ = some (.string r.cd) := fun n => ((hf n).cell (p := ⟨g2, o2 + k * 9 + 6, none⟩) hg2).trans (hrg2 6 _ rfl)
      have e17 : ∀ n, (f n).cell? ⟨g2, o2 + k * 9 + 7, none⟩ = some (.slice os2 r.ss.length cs2) := fun n => ((hf n).cell (p := ⟨g2, o2 + k * 9 + 7, none⟩) hg2).trans (hrg2 7 _ rfl)
      have e18 : ∀ n, (f n).cell? ⟨g2, o2 + k * 9 + 8, none⟩ = some (.int .i64 r.at_) := fun n => ((hf n).cell (p := ⟨g2, o2 + k * 9 + 8, none⟩) hg2).trans (hrg2 8 _ rfl)
      have HD : Hid (wr.drew = f wr.drew) := (hg9 _ (Below.refl _ _).drew).symm
      have HFB := hide hf
      haveI : Nonempty World := ⟨w⟩
      clear hbl hcc hrg hli hcc2 hrg2 hli2 hf hg9 hg hg2
      go_wp2_with fail
      refine wp_region_cls f (by kernel_rfl) (by kernel_rfl) _ HD.out ?_
      repeat (go_big_quiet_step (with_reducible exact HSA.out _))
      refine wpQuiet_nil ?_
      rintro _ ⟨nq, rfl⟩
      go_wp2_with fail
      go_roundw
      case rel => exact ⟨k + 1, by omega, by go_num, keepW HBL.out (HFB.out nq)⟩
      case measure => simp [intOf]; omega
    · obtain rfl : k = l.length := by omega
      clear hbl
      have j1 : ¬ (l.length : Int) < (l.length : Int) := by omega
      go_wp2_with fail
      go_ret
      exact ⟨rfl, HBL.out⟩
end Go.Proofs.YtobflealcldgnaaGreatDoor.rc
