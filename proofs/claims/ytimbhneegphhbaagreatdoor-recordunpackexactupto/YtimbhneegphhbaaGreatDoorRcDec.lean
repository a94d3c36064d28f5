import Derived.Test.YtimbhneegphhbaaGreatDoorRcRefB
import Derived.Test.YtimbhneegphhbaaGreatDoorRefMeant
import Derived.Test.YtimbhneegphhbaaGreatDoorRcWqA
import Derived.Test.YtimbhneegphhbaaGreatDoorRcWqB
import Derived.Test.YtimbhneegphhbaaGreatDoorRcRefT
namespace Go.Proofs.YtimbhneegphhbaaGreatDoor.rc
open Go.ChangeShapes Go.WideShapes Go.ChangeAt Go.RowKit Go.Proofs.YtimbhneegphhbaaGreatDoor.common Go.Proofs.YtimbhneegphhbaaGreatDoor.dk Go.Proofs.YtimbhneegphhbaaGreatDoor.ss

abbrev rcl9 (r : Rec) (v : Value) : List Value := [.int .i64 r.k, .string r.id, .string r.us, .string r.cl, .string r.rd, .string r.ch, .string r.cd, v, .int .i64 r.at_]
/-- a slice of records that reads as l -/
def LiesR (w : World) (v : Value) (l : List Rec) : Prop :=
  ∃ oa cap, v = .slice oa l.length cap ∧ ∀ i (h : i < l.length), ∃ b o vi, oa = some ⟨b, o, none⟩ ∧ b < w.heap.size ∧ w.rangeAt b (o + i * 9) (rcl9 l[i] vi) ∧ Lies w vi l[i].ss
theorem LiesR.below {w w' : World} {v : Value} {l : List Rec} (h : LiesR w v l) (hb : Below w.heap.size w w') : LiesR w' v l := by
  obtain ⟨oa, cap, hv, hc⟩ := h
  refine ⟨oa, cap, hv, fun i hi => ?_⟩
  obtain ⟨b, o, vi, ho, hlt, c0, hl⟩ := hc i hi
  exact ⟨b, o, vi, ho, Nat.lt_of_lt_of_le hlt hb.size, range_block c0 (hb.block _ hlt), hl.below hb⟩
/-- one record of a transaction -/
def oneL (r : Rec) : List UInt8 := numL (recL r).length ++ recL r
def pkOk (l : List Rec) : Bool := l.all mayB
def pkL (l : List Rec) : List UInt8 := if 4 < l.length then [] else if l.length = 0 then [] else if pkOk l then numL l.length ++ l.flatMap oneL else []
def pkE (l : List Rec) : Nat := if 4 < l.length then 3 else if l.length = 0 then 1 else if pkOk l then 0 else 1
def PackOut (l : List Rec) (E : Nat → Value) (w : World) (x : Ending) (w' : World) : Prop :=
  ∃ v', x = .returned (.tuple #[v', E (pkE l)]) ∧ w'.ownsRow w.heap.size 5 1 v' (pkL l).length ((pkL l).map B) ∧ Below w.heap.size w w'
/-- the bytes of one's own and others that were made later: a number and those bytes are put behind -/
theorem far_off {w w1 : World} {b n : Nat} {v vp : Value} {l m : List UInt8} (h : w.ownsRow b 5 1 v l.length (l.map B)) (hp : w1.ownsRow n 5 1 vp m.length (m.map B)) (hn : w.heap.size ≤ n) (k : Nat) (e1 : v.ownBlock = some k) (e2 : vp.ownBlock = some k) : False := by
  have h1 := own_ge hp k e2
  rcases h.2 with ⟨rfl, _⟩ | ⟨g, cap, cur, rfl, _, hh, _⟩
  · cases e1
  · cases e1
    have h2 : n ≤ g := h1
    have := (Array.getElem?_eq_some_iff.1 hh).1
    omega
theorem oneL_len {r : Rec} (hl : r.Low) (hn : r.ss.length ≤ 16) : (oneL r).length ≤ 30000010 := by
  have h1 := recL_len hl hn
  have h2 : (numL (recL r).length).length ≤ 10 := (numF_len 9 _).2
  unfold oneL
  rw [List.length_append]
  omega
theorem flat_one (l : List Rec) (h : ∀ r ∈ l, r.Low ∧ r.ss.length ≤ 16) : (l.flatMap oneL).length ≤ l.length * 30000010 := by
  induction l with
  | nil => simp
  | cons x t ih =>
    have h1 := oneL_len (h x (List.mem_cons_self ..)).1 (h x (List.mem_cons_self ..)).2
    have h2 := ih (fun r hr => h r (List.mem_cons_of_mem _ hr))
    rw [List.flatMap_cons, List.length_append, List.length_cons, Nat.succ_mul]
    omega

end Go.Proofs.YtimbhneegphhbaaGreatDoor.rc

namespace Go.Proofs.YtimbhneegphhbaaGreatDoor.rc
open Go.ChangeShapes Go.WideShapes Go.ChangeAt Go.RowKit Go.Proofs.YtimbhneegphhbaaGreatDoor.common Go.Proofs.YtimbhneegphhbaaGreatDoor.ss

/-- the cells of records that lie one behind the other, with the slices of their scopes -/
def rcc : List Rec → List Value → List Value
  | r :: t, v :: s => rcl9 r v ++ rcc t s
  | _, _ => []
theorem rcc_snoc (r : Rec) (v : Value) : ∀ (l : List Rec) (s : List Value), l.length = s.length → rcc (l ++ [r]) (s ++ [v]) = rcc l s ++ rcl9 r v
  | [], [], _ => rfl
  | [], _ :: _, h => by simp at h
  | _ :: _, [], h => by simp at h
  | g :: t, u :: s, h => by
    have := rcc_snoc r v t s (by simpa using h)
    show rcl9 g u ++ rcc (t ++ [r]) (s ++ [v]) = rcl9 g u ++ rcc t s ++ rcl9 r v
    rw [this, List.append_assoc]
theorem rcc_get : ∀ (l : List Rec) (s : List Value) (hls : l.length = s.length) (i : Nat) (h : i < l.length) (j : Nat) (x : Value), (rcl9 l[i] (s[i]'(by omega)))[j]? = some x → (rcc l s)[i * 9 + j]? = some x
  | [], _, _, i, h, _, _, _ => by simp at h
  | _ :: _, [], hls, _, _, _, _, _ => by simp at hls
  | r :: t, v :: s, _, 0, _, j, x, hx => by
    have hx : (rcl9 r v)[j]? = some x := hx
    show (rcl9 r v ++ rcc t s)[0 * 9 + j]? = _
    rw [Nat.zero_mul, Nat.zero_add, List.getElem?_append_left (List.getElem?_eq_some_iff.1 hx).1]
    exact hx
  | r :: t, v :: s, hls, i + 1, h, j, x, hx => by
    have := rcc_get t s (by simpa using hls) i (by simpa using h) j x hx
    show (rcl9 r v ++ rcc t s)[(i + 1) * 9 + j]? = _
    have e9 : (rcl9 r v).length = 9 := rfl
    rw [List.getElem?_append_right (by rw [e9]; omega), e9, show (i + 1) * 9 + j - 9 = i * 9 + j by omega]
    exact this
theorem infoRc : (Tryz.prog.info? 26).map (fun i => (i.zero, i.size, i.bytes)) = some (some (.agg zrec), 9, 136) := by kernel_rfl
theorem rows_ne {w : World} {base base' : Nat} {e e' : TypeId} {z z' : Nat} {v v' : Value} {n n' : Nat} {xs xs' : List Value} (he : e ≠ e') (h : w.ownsRow base e z v n xs) (h' : w.ownsRow base' e' z' v' n' xs') : v.ownBlock = none ∨ v.ownBlock ≠ v'.ownBlock := by
  rcases h.2 with ⟨rfl, _⟩ | ⟨g, cap, cur, rfl, _, hh, _⟩
  · exact Or.inl rfl
  · refine Or.inr ?_
    rcases h'.2 with ⟨rfl, _⟩ | ⟨g', cap', cur', rfl, _, hh', _⟩
    · intro h; cases h
    · intro h
      simp only [Value.ownBlock, Option.some.injEq] at h
      subst h
      rw [hh] at hh'
      cases hh'
      exact he rfl
/-- records that lie in rows of one's own -/
structure OwnR (base : Nat) (w : World) (v : Value) (l : List Rec) (s : List Value) : Prop where
  len : l.length = s.length
  row : w.ownsRow base 26 9 v l.length (rcc l s)
  each : ∀ i (h : i < s.length), w.ownsRow base 9 1 s[i] (l[i]'(by omega)).ss.length (sc (l[i]'(by omega)).ss)
theorem OwnR.below {base : Nat} {w w' : World} {v : Value} {l : List Rec} {s : List Value} (h : OwnR base w v l s) (hb : Below w.heap.size w w') : OwnR base w' v l s :=
  ⟨h.len, dk.own_below h.row hb, fun i hi => dk.own_below (h.each i hi) hb⟩
theorem OwnR.nil (base : Nat) (w : World) : OwnR base w (.slice none 0 0) [] [] := ⟨rfl, World.ownsRow_nil _ _ _ _, fun _ h => absurd h (Nat.not_lt_zero _)⟩
/-- the first n of them -/
theorem OwnR.lies {base : Nat} {w : World} {oa : Option Addr} {m cap : Nat} {l : List Rec} {s : List Value} (h : OwnR base w (.slice oa m cap) l s) (n : Nat) (hn : n ≤ l.length) : LiesR w (.slice oa n cap) (l.take n) := by
  have hl : (l.take n).length = n := by rw [List.length_take]; omega
  rcases h.row.2 with ⟨hq, h0⟩ | ⟨g, cap', cur, hq, hg, hh, _⟩
  · cases hq
    have : n = 0 := by omega
    subst this
    exact ⟨none, 0, by simp, fun i hi => absurd hi (by simp)⟩
  · have hc := h.row.cells (g := g) (by rw [hq]; rfl)
    cases hq
    refine ⟨_, cap, by rw [hl], fun i hi => ?_⟩
    have hi2 : i < l.length := by omega
    have hi3 : i < s.length := by have := h.len; omega
    have hti : (l.take n)[i] = l[i] := List.getElem_take ..
    refine ⟨g, 0, s[i], rfl, (Array.getElem?_eq_some_iff.1 hh).1, ?_, ?_⟩
    · intro j x hx
      rw [hti] at hx
      have := hc _ _ (rcc_get l s h.len i hi2 j x hx)
      rw [Addr.add_mid] at this
      rw [← this, Nat.zero_add, Nat.zero_add]
    · rw [hti]; exact lies_of_own (h.each i hi3)
/-- one more behind them, in whatever room -/
theorem OwnR.snoc {base : Nat} {w w' : World} {v v' : Value} {l : List Rec} {s : List Value} (h : OwnR base w v l s) (r : Rec) (u : Value) (hu : w.ownsRow base 9 1 u r.ss.length (sc r.ss))
    (hr : w'.ownsRow base 26 9 v' (l.length + 1) (rcc l s ++ rcl9 r u)) (hg : w.grownBy w' v.ownBlock) : OwnR base w' v' (l ++ [r]) (s ++ [u]) := by
  refine ⟨by simp [h.len], by rw [rcc_snoc r u l s h.len, List.length_append]; exact hr, fun i hi => ?_⟩
  have hne : (9 : TypeId) ≠ 26 := by decide
  by_cases hlt : i < s.length
  · have e1 : (s ++ [u])[i] = s[i] := List.getElem_append_left hlt
    have e2 : (l ++ [r])[i]'(by simp; have := h.len; omega) = l[i]'(by have := h.len; omega) := List.getElem_append_left (by have := h.len; omega)
    rw [e1, e2]
    exact (h.each i hlt).kept hg (rows_ne hne (h.each i hlt) h.row)
  · have hi' : i = s.length := by simp at hi; omega
    subst hi'
    have e1 : (s ++ [u])[s.length] = u := List.getElem_concat_length rfl _
    have e2 : (l ++ [r])[s.length]'(by simp [h.len]) = r := by
      have := h.len
      simp [← this]
    rw [e1, e2]
    exact hu.kept hg (rows_ne hne hu h.row)
theorem rcl_one (r : Rec) (oa : Option Addr) (n c : Nat) : ∀ u ∈ rcl9 r (.slice oa n c), u.oneCell' = true := by
  intro u hu
  simp only [rcl9, List.mem_cons, List.mem_nil_iff, or_false] at hu
  rcases hu with rfl | rfl | rfl | rfl | rfl | rfl | rfl | rfl | rfl <;> rfl
theorem cells9 (w : World) (r : Rec) (v : Value) (t : TypeId) : ∀ j u, (rcl9 r v)[j]? = some u → (w.alloc (.cells (rcs r v) t)).cell? ((⟨w.heap.size, 0, none⟩ : Addr).add j) = some u := by
  intro j u h
  have h1 := heap_alloc_new w (.cells (rcs r v) t (0, 0))
  rw [Addr.add_mid, Nat.zero_add]
  simp only [World.cell?, h1]
  simpa using h
end Go.Proofs.YtimbhneegphhbaaGreatDoor.rc

namespace Go.Proofs.YtimbhneegphhbaaGreatDoor.rc
open Go.ChangeShapes Go.WideShapes Go.ChangeAt Go.RowKit Go.Proofs.YtimbhneegphhbaaGreatDoor.common Go.Proofs.YtimbhneegphhbaaGreatDoor.dk
attribute [local go_sem ↓] Go.wp_at_zero Go.wp_at_succ

theorem walkR_any (K p q : Nat) (l : List UInt8) (w : World) (hr : Rs K p w (some l)) (hq : w.heap[q]? = some (.cells zrec 26 (0, 0))) (hT : KTab w) (hG : 21 < K) (hpq : p ≠ q) (hKp : K ≤ p) (hKq : K ≤ q) :
    Calls Tryz.prog 25 #[.pointer (some ⟨q, 0, none⟩), .iface 58 (.pointer (some ⟨p, 0, none⟩))] w (WalkOut K p q l w) := by
  cases l with
  | nil => exact walkR_nil K p q w hr hq hT hG hpq hKp hKq
  | cons b r0 =>
    by_cases hk : 0 < b.toNat ∧ b.toNat < 12
    · have hc : b.toNat = 1 ∨ b.toNat = 2 ∨ b.toNat = 3 ∨ b.toNat = 4 ∨ b.toNat = 5 ∨ b.toNat = 6 ∨ b.toNat = 7 ∨ b.toNat = 8 ∨ b.toNat = 9 ∨ b.toNat = 10 ∨ b.toNat = 11 := by omega
      rcases hc with h | h | h | h | h | h | h | h | h | h | h
      · exact walkR_1 K p q b r0 w h hr hq hT hG hpq hKp hKq
      · exact walkR_2 K p q b r0 w h hr hq hT hG hpq hKp hKq
      · exact walkR_3 K p q b r0 w h hr hq hT hG hpq hKp hKq
      · exact walkR_4 K p q b r0 w h hr hq hT hG hpq hKp hKq
      · exact walkR_5 K p q b r0 w h hr hq hT hG hpq hKp hKq
      · exact walkR_6 K p q b r0 w h hr hq hT hG hpq hKp hKq
      · exact walkR_7 K p q b r0 w h hr hq hT hG hpq hKp hKq
      · exact walkR_8 K p q b r0 w h hr hq hT hG hpq hKp hKq
      · exact walkR_9 K p q b r0 w h hr hq hT hG hpq hKp hKq
      · exact walkR_10 K p q b r0 w h hr hq hT hG hpq hKp hKq
      · exact walkR_11 K p q b r0 w h hr hq hT hG hpq hKp hKq
    · exact walkR_else K p q b r0 w hk hr hq hT hG hpq hKp hKq
/-- what Decode says -/
def zR : Rec := ⟨0, ⟨#[]⟩, ⟨#[]⟩, ⟨#[]⟩, ⟨#[]⟩, ⟨#[]⟩, ⟨#[]⟩, [], 0⟩
structure DecR (l : List UInt8) (o : Option Rec) : Prop where
  is : ∀ r, o = some r → mayB r = true ∧ r.Low ∧ r.ss.length ≤ 16 ∧ recL r = l
  on : ∀ y, mayB y = true → y.Low → recL y = l → o = some y
theorem DecR.one {l : List UInt8} {o o' : Option Rec} (h : DecR l o) (h' : DecR l o') : o = o' := by
  cases o with
  | some r => obtain ⟨a, b, _, c⟩ := h.is r rfl; exact (h'.on r a b c).symm
  | none =>
    cases o' with
    | none => rfl
    | some r => obtain ⟨a, b, _, c⟩ := h'.is r rfl; exact h.on r a b c
theorem dec_yes {l : List UInt8} {r : Rec} {s : St} (h : Fin l r s) (hl : r.Low) (h16 : r.ss.length ≤ 16) (he : isEnd s = true) (hm : mayB r = true) : DecR l (some r) := by
  refine ⟨fun y hy => ?_, fun y a b c => ?_⟩
  · cases hy
    refine ⟨hm, hl, h16, ?_⟩
    have hk : isK r.k = true := by unfold mayB at hm; simp only [Bool.and_eq_true] at hm; exact hm.1
    rcases h.back hk with h0 | ⟨t, h1, h2⟩
    · rw [h0] at he; cases he
    · rw [h1] at he
      cases t with
      | nil => rw [h2, List.append_nil]
      | cons _ _ => cases he
  · rw [(h.on y a b c.symm).1]
theorem dec_no {l : List UInt8} {r : Rec} {s : St} (h : Fin l r s) (hn : isEnd s = false ∨ mayB r = false) : DecR l none := by
  refine ⟨fun y hy => (by cases hy), fun y a b c => ?_⟩
  obtain ⟨h1, h2⟩ := h.on y a b c.symm
  rcases hn with h3 | h3
  · rw [h2] at h3; cases h3
  · rw [h1, a] at h3; cases h3
def DecOut (l : List UInt8) (Y N : Value) (w : World) (x : Ending) (w' : World) : Prop :=
  ∃ (o : Option Rec) (v' : Value), x = .returned (.tuple #[.agg (rcs (o.getD zR) v'), if o.isSome then Y else N]) ∧ w'.ownsRow w.heap.size 9 1 v' (o.getD zR).ss.length ((o.getD zR).ss.map Value.string) ∧ Below w.heap.size w w' ∧ DecR l o
theorem results_ct {fn : Func} {p t : Tmp} {ty : TypeId} {P : Program} {w : World} {b o : Nat} {cs : List Value} {d : TypeDesc} {u : Value} (h : fn.results = #[.cell p ty, .tmp t]) (tmps : Array Value) (hx : tmps.getD p undef = .pointer (some ⟨b, o, none⟩))
    (hu0 : tmps.getD t undef = u) (hc : w.rangeAt b o cs) (hu : P.underlying ty = some d) (hd : d.isRow = true) (hi : (P.info? ty).map (·.size) = some cs.length) : (results fn tmps).run P w = .ok (.tuple #[.agg cs.toArray, u]) w := by
  have hx' : tmps[p]?.getD undef = .pointer (some ⟨b, o, none⟩) := by simpa using hx
  have hu' : tmps[t]?.getD undef = u := by simpa using hu0
  simp [results, h, hx', hu', asAddr, run_loadVar_mid w b o ty cs d hc hu hd hi]

theorem same_set {w : World} {R j : Nat} {u : Value} {cs : Array Value} {t : TypeId} (h : w.heap[R]? = some (.cells cs t (0, 0))) (hj : cs[j]? = some u) : (w.setCell ⟨R, j, none⟩ u).heap[R]? = some (.cells cs t (0, 0)) := by
  have := at_set (j := j) h u
  rwa [set_back hj] at this
/-- zeros over zeros -/
theorem nine_set {w : World} {R : Nat} {t : TypeId} (h : w.heap[R]? = some (.cells zrec t (0, 0))) : (((((((((w.setCell ⟨R, 0, none⟩ (.int .i64 0)).setCell ⟨R, 1, none⟩ (.string ⟨#[]⟩)).setCell ⟨R, 2, none⟩ (.string ⟨#[]⟩)).setCell ⟨R, 3, none⟩ (.string ⟨#[]⟩)).setCell ⟨R, 4, none⟩ (.string ⟨#[]⟩)).setCell ⟨R, 5, none⟩ (.string ⟨#[]⟩)).setCell ⟨R, 6, none⟩ (.string ⟨#[]⟩)).setCell ⟨R, 7, none⟩ (.slice none 0 0)).setCell ⟨R, 8, none⟩ (.int .i64 0)).drew.rangeAt R 0 zrec.toList ∧ Below R w (((((((((w.setCell ⟨R, 0, none⟩ (.int .i64 0)).setCell ⟨R, 1, none⟩ (.string ⟨#[]⟩)).setCell ⟨R, 2, none⟩ (.string ⟨#[]⟩)).setCell ⟨R, 3, none⟩ (.string ⟨#[]⟩)).setCell ⟨R, 4, none⟩ (.string ⟨#[]⟩)).setCell ⟨R, 5, none⟩ (.string ⟨#[]⟩)).setCell ⟨R, 6, none⟩ (.string ⟨#[]⟩)).setCell ⟨R, 7, none⟩ (.slice none 0 0)).setCell ⟨R, 8, none⟩ (.int .i64 0)).drew := by
  have b := Below.refl R w
  have a0 := same_set (j := 0) (u := .int .i64 0) h rfl
  have b0 : Below R w (w.setCell ⟨R, 0, none⟩ (.int .i64 0)) := b.setCell (p := ⟨R, 0, none⟩) (Nat.le_refl _) _
  generalize w.setCell ⟨R, 0, none⟩ (.int .i64 0) = x0 at *
  have a1 := same_set (j := 1) (u := .string ⟨#[]⟩) a0 rfl
  have b1 : Below R w (x0.setCell ⟨R, 1, none⟩ (.string ⟨#[]⟩)) := b0.setCell (p := ⟨R, 1, none⟩) (Nat.le_refl _) _
  generalize x0.setCell ⟨R, 1, none⟩ (.string ⟨#[]⟩) = x1 at *
  have a2 := same_set (j := 2) (u := .string ⟨#[]⟩) a1 rfl
  have b2 : Below R w (x1.setCell ⟨R, 2, none⟩ (.string ⟨#[]⟩)) := b1.setCell (p := ⟨R, 2, none⟩) (Nat.le_refl _) _
  generalize x1.setCell ⟨R, 2, none⟩ (.string ⟨#[]⟩) = x2 at *
  have a3 := same_set (j := 3) (u := .string ⟨#[]⟩) a2 rfl
  have b3 : Below R w (x2.setCell ⟨R, 3, none⟩ (.string ⟨#[]⟩)) := b2.setCell (p := ⟨R, 3, none⟩) (Nat.le_refl _) _
  generalize x2.setCell ⟨R, 3, none⟩ (.string ⟨#[]⟩) = x3 at *
  have a4 := same_set (j := 4) (u := .string ⟨#[]⟩) a3 rfl
  have b4 : Below R w (x3.setCell ⟨R, 4, none⟩ (.string ⟨#[]⟩)) := b3.setCell (p := ⟨R, 4, none⟩) (Nat.le_refl _) _
  generalize x3.setCell ⟨R, 4, none⟩ (.string ⟨#[]⟩) = x4 at *
  have a5 := same_set (j := 5) (u := .string ⟨#[]⟩) a4 rfl
  have b5 : Below R w (x4.setCell ⟨R, 5, none⟩ (.string ⟨#[]⟩)) := b4.setCell (p := ⟨R, 5, none⟩) (Nat.le_refl _) _
  generalize x4.setCell ⟨R, 5, none⟩ (.string ⟨#[]⟩) = x5 at *
  have a6 := same_set (j := 6) (u := .string ⟨#[]⟩) a5 rfl
  have b6 : Below R w (x5.setCell ⟨R, 6, none⟩ (.string ⟨#[]⟩)) := b5.setCell (p := ⟨R, 6, none⟩) (Nat.le_refl _) _
  generalize x5.setCell ⟨R, 6, none⟩ (.string ⟨#[]⟩) = x6 at *
  have a7 := same_set (j := 7) (u := .slice none 0 0) a6 rfl
  have b7 : Below R w (x6.setCell ⟨R, 7, none⟩ (.slice none 0 0)) := b6.setCell (p := ⟨R, 7, none⟩) (Nat.le_refl _) _
  generalize x6.setCell ⟨R, 7, none⟩ (.slice none 0 0) = x7 at *
  have a8 := same_set (j := 8) (u := .int .i64 0) a7 rfl
  have b8 : Below R w (x7.setCell ⟨R, 8, none⟩ (.int .i64 0)) := b7.setCell (p := ⟨R, 8, none⟩) (Nat.le_refl _) _
  generalize x7.setCell ⟨R, 8, none⟩ (.int .i64 0) = x8 at *
  exact ⟨range_of (t := t) (show x8.drew.heap[R]? = some (.cells zrec t (0, 0)) from a8), b8.drew⟩
set_option maxRecDepth 100000 in
set_option maxHeartbeats 12800000 in
theorem decode_any (l : List UInt8) (v : Value) (ea em : Addr) (e : Nat → Addr) (w : World) (hv : Lo w.heap.size w v l) (hl : l.length ≤ 1048576) (he : Env ea em (errw.E e 0) w) (ht : w.cell? ⟨2, 0, none⟩ = some (errw.E e 1)) :
    Calls Tryz.prog 13 #[v] w (DecOut l .nilIface (errw.E e 1) w) := by
  obtain ⟨ov, cv, hvv⟩ : ∃ ov cv, v = .slice ov l.length cv := by obtain ⟨a, b, h, _⟩ := hv; exact ⟨a, b, h⟩
  obtain ⟨W, hW⟩ : ∃ W, W = ((w.alloc (.cells zrec 26)).alloc (.cells #[v, .bool false] 55)).alloc (.cells zrec 26) := ⟨_, rfl⟩
  have hbW : Below w.heap.size w W := by rw [hW]; exact (((Below.refl _ _).alloc (Nat.le_refl _) _).alloc (by simp) _).alloc (by simp; omega) _
  have hzW : W.heap.size = w.heap.size + 3 := by rw [hW]; simp
  have h0 : W.heap[w.heap.size]? = some (.cells zrec 26 (0, 0)) := by
    rw [hW]
    exact ((heap_alloc_old _ _ (by simp; omega)).trans (heap_alloc_old _ _ (by simp))).trans (heap_alloc_new w _)
  have h1 : W.heap[w.heap.size + 1]? = some (.cells #[v, .bool false] 55 (0, 0)) := by
    rw [hW]
    have := heap_alloc_new (w.alloc (.cells zrec 26)) (.cells #[v, .bool false] 55 (0, 0))
    rw [World.size_alloc] at this
    exact (heap_alloc_old _ _ (by simp)).trans this
  have h2 : W.heap[w.heap.size + 1 + 1]? = some (.cells zrec 26 (0, 0)) := by
    rw [hW]
    have := heap_alloc_new ((w.alloc (.cells zrec 26)).alloc (.cells #[v, .bool false] 55)) (.cells zrec 26 (0, 0))
    rw [World.size_alloc, World.size_alloc] at this
    exact this
  have hGl : 21 < w.heap.size := World.block_lt_of_cell? w _ (he.kt 0 (by decide))
  have hrs : Rs w.heap.size (w.heap.size + 1) W (some l) := ⟨hl, v, h1, hv.keep (fun g hg _ => hbW.block g hg) hbW.size⟩
  have HWK := hide (walkR_any w.heap.size (w.heap.size + 1) (w.heap.size + 1 + 1) l W hrs h2 (he.kt.below hbW) hGl (by omega) (by omega) (by omega))
  have HENV : Hid (∀ X, Below w.heap.size w X → Env ea em (errw.E e 0) X ∧ X.cell? ⟨2, 0, none⟩ = some (errw.E e 1)) := fun X hX => ⟨he.below hX, (hX.cell (p := ⟨2, 0, none⟩) (World.block_lt_of_cell? w _ ht)).trans ht⟩
  have hGT : 2 ≠ w.heap.size := Nat.ne_of_lt (World.block_lt_of_cell? w _ ht)
  have HBW := hide hbW
  have HH0 := hide h0
  have HZW := hide hzW
  have HW := hide hW
  subst hvv
  clear hv he ht hbW h0 h1 h2 hrs hW hzW hGl
  unfold DecOut
  go_enter Tryz.func13, Tryz.ntmps13
  go_wp2_with fail
  rw [← HW.out]
  refine HWK.out.mono ?_
  rintro x w1 ⟨rfl, r, vr, s, hq, hown, hR, hF, hlow, hfin⟩
  obtain ⟨osl, csl, rfl⟩ := own_slice hown
  have HB1 : Hid (Below w.heap.size w w1) := HBW.out.trans (hF.below (fun k hk => by
    rcases List.mem_cons.1 hk with h | h
    · omega
    · have := List.mem_singleton.1 h; omega) HBW.out.size)
  have HO1 : Hid (w1.ownsRow W.heap.size 9 1 (.slice osl r.ss.length csl) r.ss.length (r.ss.map Value.string)) := hown
  have HD := hide (isDone_any _ _ s w1 hR)
  have HMY := hide (mayBe_any r (.slice osl r.ss.length csl) ea em (errw.E e 0) w1 (ss.lies_of_own hown) (by
    have := hlow.1
    have hr : 1048576 ≤ reachBytes := by unfold reachBytes; decide
    exact ⟨Nat.le_trans this.id hr, Nat.le_trans this.us hr, Nat.le_trans this.cl hr, Nat.le_trans this.rd hr, Nat.le_trans this.ch hr, Nat.le_trans this.cd hr, by have := hlow.2; omega, fun s hs => by have := hlow.1.ss s hs; omega⟩) (HENV.out w1 HB1.out).1)
  have d0 : w1.cell? ⟨w.heap.size + 1 + 1, 0, none⟩ = some (.int .i64 r.k) := cell_of hq 0
  have d1 : w1.cell? ⟨w.heap.size + 1 + 1, 1, none⟩ = some (.string r.id) := cell_of hq 1
  have d2 : w1.cell? ⟨w.heap.size + 1 + 1, 2, none⟩ = some (.string r.us) := cell_of hq 2
  have d3 : w1.cell? ⟨w.heap.size + 1 + 1, 3, none⟩ = some (.string r.cl) := cell_of hq 3
  have d4 : w1.cell? ⟨w.heap.size + 1 + 1, 4, none⟩ = some (.string r.rd) := cell_of hq 4
  have d5 : w1.cell? ⟨w.heap.size + 1 + 1, 5, none⟩ = some (.string r.ch) := cell_of hq 5
  have d6 : w1.cell? ⟨w.heap.size + 1 + 1, 6, none⟩ = some (.string r.cd) := cell_of hq 6
  have d7 : w1.cell? ⟨w.heap.size + 1 + 1, 7, none⟩ = some (.slice osl r.ss.length csl) := cell_of hq 7
  have d8 : w1.cell? ⟨w.heap.size + 1 + 1, 8, none⟩ = some (.int .i64 r.at_) := cell_of hq 8
  have HQ := hide hq
  have HRQ : Hid (w1.rangeAt (w.heap.size + 1 + 1) 0 (rcl9 r (.slice osl r.ss.length csl))) := range_of (t := 26) hq
  have HH1 : Hid (w1.heap[w.heap.size]? = some (.cells zrec 26 (0, 0))) := (hF.block _ (by have := HZW.out; omega) (fun hm => by
    rcases List.mem_cons.1 hm with h | h
    · omega
    · have := List.mem_singleton.1 h; omega)).trans HH0.out
  have HLOW := hide hlow
  have HFIN := hide hfin
  clear hq hown hR hF hlow hfin HWK
  cases hE : isEnd s with
  | false =>
    rw [hE] at HD
    have HDN := hide (dec_no HFIN.out (Or.inl hE))
    have ct := (HENV.out w1 HB1.out).2
    have HGT : Hid (2 ≠ w.heap.size) := hGT
    have ct2 : (w1.setCell ⟨w.heap.size, 0, none⟩ (.int .i64 0)).cell? ⟨2, 0, none⟩ = some (errw.E e 1) := (World.cell?_of_block (set_other _ _ _ _ HGT.out)).trans ct
    have z0 : w1.cell? ⟨w.heap.size, 0, none⟩ = some (.int .i64 0) := cell_of HH1.out 0
    have zf0 : w1.frozen? ⟨w.heap.size, 0, none⟩ = false := free_of HH1.out 0
    have z1 : w1.cell? ⟨w.heap.size, 1, none⟩ = some (.string ⟨#[]⟩) := cell_of HH1.out 1
    have zf1 : w1.frozen? ⟨w.heap.size, 1, none⟩ = false := free_of HH1.out 1
    have z2 : w1.cell? ⟨w.heap.size, 2, none⟩ = some (.string ⟨#[]⟩) := cell_of HH1.out 2
    have zf2 : w1.frozen? ⟨w.heap.size, 2, none⟩ = false := free_of HH1.out 2
    have z3 : w1.cell? ⟨w.heap.size, 3, none⟩ = some (.string ⟨#[]⟩) := cell_of HH1.out 3
    have zf3 : w1.frozen? ⟨w.heap.size, 3, none⟩ = false := free_of HH1.out 3
    have z4 : w1.cell? ⟨w.heap.size, 4, none⟩ = some (.string ⟨#[]⟩) := cell_of HH1.out 4
    have zf4 : w1.frozen? ⟨w.heap.size, 4, none⟩ = false := free_of HH1.out 4
    have z5 : w1.cell? ⟨w.heap.size, 5, none⟩ = some (.string ⟨#[]⟩) := cell_of HH1.out 5
    have zf5 : w1.frozen? ⟨w.heap.size, 5, none⟩ = false := free_of HH1.out 5
    have z6 : w1.cell? ⟨w.heap.size, 6, none⟩ = some (.string ⟨#[]⟩) := cell_of HH1.out 6
    have zf6 : w1.frozen? ⟨w.heap.size, 6, none⟩ = false := free_of HH1.out 6
    have z7 : w1.cell? ⟨w.heap.size, 7, none⟩ = some (.slice none 0 0) := cell_of HH1.out 7
    have zf7 : w1.frozen? ⟨w.heap.size, 7, none⟩ = false := free_of HH1.out 7
    have z8 : w1.cell? ⟨w.heap.size, 8, none⟩ = some (.int .i64 0) := cell_of HH1.out 8
    have zf8 : w1.frozen? ⟨w.heap.size, 8, none⟩ = false := free_of HH1.out 8
    clear hE d0 d1 d2 d3 d4 d5 d6 d7 d8
    go_wp2_with (go_at_call 26; refine HD.out.mono ?_; rintro x w9 ⟨rfl, h9⟩; obtain rfl := h9.symm)
    go_region
    all_goals
      go_wp2_with fail
      refine bodyPost_ret (results_ct rfl _ rfl rfl (nine_set HH1.out).1 Tryz.underlying26 rfl sizeRec) rfl ?_
      exact ⟨none, .slice none 0 0, rfl, World.ownsRow_nil _ _ _ _, HB1.out.trans (nine_set HH1.out).2, HDN.out⟩
  | true =>
    rw [hE] at HD
    have HEE := hide hE
    cases hm : mayB r with
    | false =>
      rw [hm] at HMY
      have HDN := hide (dec_no HFIN.out (Or.inr hm))
      have HGT : Hid (2 ≠ w.heap.size) := hGT
      clear hE hm
      go_wp2_with (first
        | (go_at_call 26; refine HD.out.mono ?_; rintro x w9 ⟨rfl, h9⟩; obtain rfl := h9.symm)
        | (go_at_call 27; refine HMY.out.mono ?_; rintro x w2 ⟨rfl, b2⟩))
      have hlt2 := World.block_lt_of_cell? w1 _ d0
      have HH2 : Hid (w2.heap[w.heap.size]? = some (.cells zrec 26 (0, 0))) := (b2.block _ (by have : w.heap.size + 1 + 1 < w1.heap.size := hlt2; omega)).trans HH1.out
      have HB2 := hide (keepW HB1.out b2)
      have ct := (HENV.out w2 HB2.out).2
      have ct2 : (w2.setCell ⟨w.heap.size, 0, none⟩ (.int .i64 0)).cell? ⟨2, 0, none⟩ = some (errw.E e 1) := (World.cell?_of_block (set_other _ _ _ _ HGT.out)).trans ct
      have z0 : w2.cell? ⟨w.heap.size, 0, none⟩ = some (.int .i64 0) := cell_of HH2.out 0
      have zf0 : w2.frozen? ⟨w.heap.size, 0, none⟩ = false := free_of HH2.out 0
      have z1 : w2.cell? ⟨w.heap.size, 1, none⟩ = some (.string ⟨#[]⟩) := cell_of HH2.out 1
      have zf1 : w2.frozen? ⟨w.heap.size, 1, none⟩ = false := free_of HH2.out 1
      have z2 : w2.cell? ⟨w.heap.size, 2, none⟩ = some (.string ⟨#[]⟩) := cell_of HH2.out 2
      have zf2 : w2.frozen? ⟨w.heap.size, 2, none⟩ = false := free_of HH2.out 2
      have z3 : w2.cell? ⟨w.heap.size, 3, none⟩ = some (.string ⟨#[]⟩) := cell_of HH2.out 3
      have zf3 : w2.frozen? ⟨w.heap.size, 3, none⟩ = false := free_of HH2.out 3
      have z4 : w2.cell? ⟨w.heap.size, 4, none⟩ = some (.string ⟨#[]⟩) := cell_of HH2.out 4
      have zf4 : w2.frozen? ⟨w.heap.size, 4, none⟩ = false := free_of HH2.out 4
      have z5 : w2.cell? ⟨w.heap.size, 5, none⟩ = some (.string ⟨#[]⟩) := cell_of HH2.out 5
      have zf5 : w2.frozen? ⟨w.heap.size, 5, none⟩ = false := free_of HH2.out 5
      have z6 : w2.cell? ⟨w.heap.size, 6, none⟩ = some (.string ⟨#[]⟩) := cell_of HH2.out 6
      have zf6 : w2.frozen? ⟨w.heap.size, 6, none⟩ = false := free_of HH2.out 6
      have z7 : w2.cell? ⟨w.heap.size, 7, none⟩ = some (.slice none 0 0) := cell_of HH2.out 7
      have zf7 : w2.frozen? ⟨w.heap.size, 7, none⟩ = false := free_of HH2.out 7
      have z8 : w2.cell? ⟨w.heap.size, 8, none⟩ = some (.int .i64 0) := cell_of HH2.out 8
      have zf8 : w2.frozen? ⟨w.heap.size, 8, none⟩ = false := free_of HH2.out 8
      clear b2 d0 d1 d2 d3 d4 d5 d6 d7 d8 hlt2
      go_region
      all_goals
        go_wp2_with fail
        refine bodyPost_ret (results_ct rfl _ rfl rfl (nine_set HH2.out).1 Tryz.underlying26 rfl sizeRec) rfl ?_
        exact ⟨none, .slice none 0 0, rfl, World.ownsRow_nil _ _ _ _, HB2.out.trans (nine_set HH2.out).2, HDN.out⟩
    | true =>
      rw [hm] at HMY
      have HMM := hide hm
      clear hE hm
      go_wp2_with (first
        | (go_at_call 26; refine HD.out.mono ?_; rintro x w9 ⟨rfl, h9⟩; obtain rfl := h9.symm)
        | (go_at_call 27; refine HMY.out.mono ?_; rintro x w2 ⟨rfl, b2⟩; have hlt2 := World.block_lt_of_cell? w1 _ d0; have HQ2 := hide ((b2.block _ hlt2).trans HQ.out); have HRQ2 : Hid (w2.rangeAt (w.heap.size + 1 + 1) 0 (rcl9 r (.slice osl r.ss.length csl))) := range_of (t := 26) HQ2.out; have HH2 : Hid (w2.heap[w.heap.size]? = some (.cells zrec 26 (0, 0))) := (b2.block _ (by have : w.heap.size + 1 + 1 < w1.heap.size := hlt2; omega)).trans HH1.out; have HT2 : Hid (w2.there w.heap.size 0 9) := there_of (cur := zrec.toList) HH2.out 0 9 (by simp); have HB2 := hide (keepW HB1.out b2); have HO2 := hide (own_below HO1.out b2); clear b2 d0 d1 d2 d3 d4 d5 d6 d7 d8)
        | (refine wpList_load_mid rfl 26 (.tmp 5) rfl (w.heap.size + 1 + 1) 0 rfl _ _ HRQ2.out Tryz.underlying26 rfl sizeRec ?_)
        | (refine wpList_store_mid rfl 26 (.tmp 2) (.tmp 19) rfl w.heap.size 0 (rcs r (.slice osl r.ss.length csl)) rfl rfl HT2.out sizeRec (rcs_one _ _ _ _) ?_))
      refine bodyPost_ret (results_ct rfl _ rfl rfl (World.rangeAt_setCells_same _ w.heap.size 0 (rcs r (.slice osl r.ss.length csl)).toList HT2.out) Tryz.underlying26 rfl sizeRec) rfl ?_
      refine ⟨some r, .slice osl r.ss.length csl, rfl, ?_, ?_, dec_yes HFIN.out HLOW.out.1 HLOW.out.2 HEE.out HMM.out⟩
      · exact own_least (own_at HO2.out (fun g hg => sets_other _ _ _ _ _ (by have := HZW.out; omega))) HBW.out.size
      · exact HB2.out.trans (((Fr.refl [w.heap.size] w2).sets w.heap.size 0 _ (Or.inl (List.mem_singleton.2 rfl))).below (fun k hk => by rw [List.mem_singleton.1 hk]; exact Nat.le_refl _) HB2.out.size)
end Go.Proofs.YtimbhneegphhbaaGreatDoor.rc
