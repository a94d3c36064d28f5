import Derived.Test.YtilhfmhjgfmejaaGreatDoorMByteKit
namespace Go.Proofs.YtilhfmhjgfmejaaGreatDoor.ss
open Go.ChangeShapes Go.WideShapes Go.ChangeAt Go.RowKit Go.Proofs.YtilhfmhjgfmejaaGreatDoor.common Go.Maps
attribute [local go_sem ↓] Go.wp_at_zero Go.wp_at_succ

/-- the cells of texts -/
abbrev sc (l : List ByteArray) : List Value := l.map Value.string

/-- a slice of texts that reads as l -/
def Lies (w : World) (v : Value) (l : List ByteArray) : Prop :=
  ∃ oa cap, v = .slice oa l.length cap ∧ ∀ i (h : i < l.length), ∃ b o, oa = some ⟨b, o, none⟩ ∧ b < w.heap.size ∧ w.cell? ⟨b, o + i, none⟩ = some (.string l[i])
theorem Lies.below {w w' : World} {v : Value} {l : List ByteArray} (h : Lies w v l) (hb : Below w.heap.size w w') : Lies w' v l := by
  obtain ⟨oa, cap, hv, hc⟩ := h
  refine ⟨oa, cap, hv, fun i hi => ?_⟩
  obtain ⟨b, o, ho, hlt, c0⟩ := hc i hi
  exact ⟨b, o, ho, Nat.lt_of_lt_of_le hlt hb.size, (hb.cell hlt).trans c0⟩
theorem lies_nil (w : World) : Lies w (.slice none 0 0) [] := ⟨none, 0, rfl, fun _ hi => absurd hi (Nat.not_lt_zero _)⟩

/-- texts that lie in a block of one's own -/
def Row (w : World) (g : Nat) (l : List ByteArray) : Prop := w.there g 0 l.length ∧ w.rangeAt g 0 (sc l)

theorem sc_get (l : List ByteArray) (i : Nat) (h : i < l.length) : (sc l)[i]? = some (.string l[i]) := by
  rw [List.getElem?_map, List.getElem?_eq_getElem h]; rfl
theorem row_of_own {w : World} {base : Nat} {e : TypeId} {v : Value} {l : List ByteArray} (h : w.ownsRow base e 1 v l.length (sc l)) : (v = .slice none 0 0 ∧ l = []) ∨ ∃ g cap, v = .slice (some ⟨g, 0, none⟩) l.length cap ∧ base ≤ g ∧ g < w.heap.size ∧ Row w g l ∧ l.length ≤ cap := by
  rcases h.2 with ⟨hv, h0⟩ | ⟨g, cap, cur, rfl, hg, hh, hn, _, hsz, htk⟩
  · exact Or.inl ⟨hv, List.eq_nil_of_length_eq_zero h0⟩
  · refine Or.inr ⟨g, cap, rfl, hg, (Array.getElem?_eq_some_iff.1 hh).1, ?_, hn⟩
    have hr : w.rangeAt g 0 (sc l) := by
      intro j u hu
      have hj : j < l.length := by have := (List.getElem?_eq_some_iff.1 hu).1; rw [List.length_map] at this; exact this
      have : (cur.toList.take (l.length * 1))[j]? = (sc l)[j]? := by rw [htk]
      rw [List.getElem?_take_of_lt (by omega), hu] at this
      simp only [World.cell?, hh]
      simpa using this
    refine ⟨fun j hj => ⟨?_, by simp [World.frozen?, hh]⟩, hr⟩
    rw [range_cell hr j (by rw [List.length_map]; exact hj)]; rfl
theorem Row.lies {w : World} {g : Nat} {l : List ByteArray} (h : Row w g l) (hg : g < w.heap.size) (n cap : Nat) (hn : n ≤ l.length) : Lies w (.slice (some ⟨g, 0, none⟩) n cap) (l.take n) := by
  have hl : (l.take n).length = n := by rw [List.length_take]; omega
  refine ⟨_, cap, by rw [hl], fun i hi => ?_⟩
  rw [hl] at hi
  have hi2 : i < l.length := by omega
  refine ⟨g, 0, rfl, hg, ?_⟩
  rw [h.2 i _ (sc_get l i hi2)]; simp
theorem lies_of_own {w : World} {base : Nat} {e : TypeId} {v : Value} {l : List ByteArray} (h : w.ownsRow base e 1 v l.length (sc l)) : Lies w v l := by
  rcases row_of_own h with ⟨rfl, rfl⟩ | ⟨g, cap, rfl, _, hg, hr, _⟩
  · exact lies_nil w
  · have := hr.lies hg l.length cap (Nat.le_refl _)
    rwa [List.take_length] at this
theorem Row.head {w : World} {g : Nat} {l r : List ByteArray} (h : Row w g (l ++ r)) (hg : g < w.heap.size) (cap : Nat) : Lies w (.slice (some ⟨g, 0, none⟩) l.length cap) l := by
  have := h.lies hg l.length cap (by rw [List.length_append]; omega)
  rwa [List.take_left] at this
theorem Row.below {w w' : World} {b g : Nat} {l : List ByteArray} (h : Row w g l) (hb : Below b w w') (hg : g < b) : Row w' g l := ⟨there_below h.1 hb hg, range_below h.2 hb hg⟩
theorem Row.drew {w : World} {g : Nat} {l : List ByteArray} (h : Row w g l) : Row w.drew g l := h
theorem Row.set {w : World} {g : Nat} {l : List ByteArray} (h : Row w g l) (i : Nat) (hi : i < l.length) (p : ByteArray) : Row (w.setCell ⟨g, i, none⟩ (.string p)) g (l.set i p) := by
  refine ⟨by rw [List.length_set]; exact there_set h.1 _ _, ?_⟩
  have h1 := range_set h.2 i (by rw [List.length_map]; omega) (.string p)
  rw [Nat.zero_add] at h1
  have e : (sc l).set i (.string p) = sc (l.set i p) := by simp [sc, List.map_set]
  rw [e] at h1
  exact h1
theorem Row.cell {w : World} {g : Nat} {l : List ByteArray} (h : Row w g l) (i : Nat) (hi : i < l.length) : w.cell? ⟨g, i, none⟩ = some (.string l[i]) := by
  have := h.2 _ _ (sc_get l i hi)
  rwa [Nat.zero_add] at this
theorem infoS : (Tryz.prog.info? 9).map (fun i => (i.zero, i.size, i.bytes)) = some (some (.string ⟨#[]⟩), 1, 16) := by kernel_rfl
theorem takeS (l : List ByteArray) (k : Nat) (h : k < l.length) : l.take (k + 1) = l.take k ++ [l[k]] := by
  rw [List.take_succ_eq_append_getElem h]
theorem lies_cells {w : World} {ad : Addr} {n cap : Nat} {xs : List ByteArray} (h : Lies w (.slice (some ad) n cap) xs) : ∀ j u, (sc xs)[j]? = some u → w.cell? (ad.add j) = some u := by
  obtain ⟨oa, ca, hv, hc⟩ := h
  cases hv
  intro j u hu
  have hj : j < xs.length := by have := (List.getElem?_eq_some_iff.1 hu).1; rwa [List.length_map] at this
  obtain ⟨b, o, ho, _, c0⟩ := hc j hj
  cases ho
  rw [Addr.add_mid, c0]
  rw [List.getElem?_map, List.getElem?_eq_getElem hj] at hu
  simpa using hu
set_option maxRecDepth 100000 in
/-- 'append(m, l...)' of texts to a row of one's own -/
theorem append_strs (w : World) {ops : Array Oper} {rest : List Oper} {o : Oper} {a : Act} {Q : Exit → Act → World → Prop} (hgd : o.guard = none) (s x : Operand)
    (ho : o.op = .call { callee := .builtin .append, args := #[s, x], argTypes := #[43, 43] }) (base : Nat) (v0 : Value) (m : List ByteArray) (hs : a.eval s = v0) (hown : w.ownsRow base 9 1 v0 m.length (sc m)) (v : Value) (l : List ByteArray) (hx : a.eval x = v) (hl : Lies w v l)
    (hm : m.length + l.length ≤ maxLen) (hb : (m.length + l.length) * 16 ≤ 140737488355328) (hbase : base ≤ w.heap.size)
    (h : ∀ v' w', w'.ownsRow base 9 1 v' (m ++ l).length (sc (m ++ l)) → w.grownBy w' v0.ownBlock → wpList Tryz.prog ops Q rest (a.put o.dst v') w') : wpList Tryz.prog ops Q (o :: rest) a w := by
  obtain ⟨i0, hi, hz0, hz1, hz2⟩ := info_parts infoS
  have hl' := hl
  obtain ⟨oa, cap, rfl, hc⟩ := hl
  cases oa with
  | some ad =>
    exact wpList_append_own w hgd s x 43 ho base 9 i0 (.string ⟨#[]⟩) 1 16 Tryz.underlying43 hi hz0 hz1 hz2 rfl (by decide) _ m.length (sc m) hs hown ad l.length cap (sc l) hx (by simp) (lies_cells hl') (by intro u hu; obtain ⟨x, _, rfl⟩ := List.mem_map.1 hu; rfl) hm hb hbase (fun v' w' h1 h2 _ => h v' w' (by rw [List.length_append]; simpa [sc] using h1) h2)
  | none =>
    have h0 : l = [] := by
      cases l with
      | nil => rfl
      | cons p r => obtain ⟨b, o, ho, _⟩ := hc 0 (by simp); cases ho
    subst h0
    refine wpList_plain hgd fun K' hK' => ?_
    unfold Oper.wp execOp
    simp only [ho, resolve, invoke, builtin, Sem.run_bind, Sem.run_pure, Result.andThen_ok, List.map_toArray, List.map_cons, List.map_nil, hs, hx]
    rcases hown.2 with ⟨rfl, h0⟩ | ⟨g, cap', cur, rfl, hg, hh, hn, _⟩
    · have hm0 : m = [] := List.eq_nil_of_length_eq_zero h0
      subst hm0
      simp [Builtin.append_, run_underlying Tryz.underlying43, sizeOf, typeInfo, hi, Builtin.lenOf, Builtin.firstCells]
      exact hK' _ _ (h _ _ (World.ownsRow_nil _ _ _ _) ⟨rfl, rfl, rfl, Nat.le_refl _, fun _ _ _ => rfl⟩)
    · simp [Builtin.append_, run_underlying Tryz.underlying43, sizeOf, typeInfo, hi, Builtin.lenOf, Builtin.firstCells, hn, storeCells]
      exact hK' _ _ (h _ _ (by rw [List.append_nil]; exact hown) ⟨rfl, rfl, rfl, Nat.le_refl _, fun _ _ _ => rfl⟩)

end Go.Proofs.YtilhfmhjgfmejaaGreatDoor.ss

namespace Go.Proofs.YtilhfmhjgfmejaaGreatDoor.ss
open Go.ChangeShapes Go.WideShapes Go.ChangeAt Go.RowKit Go.Proofs.YtilhfmhjgfmejaaGreatDoor.common Go.Proofs.YtilhfmhjgfmejaaGreatDoor.bk
attribute [local go_sem ↓] Go.wp_at_zero Go.wp_at_succ

set_option maxRecDepth 100000 in
set_option maxHeartbeats 1600000 in
theorem same_any (va vb : Value) (l : List ByteArray) (w : World) (ha : Lies w va l) (hb : Lies w vb l) (hs : l.length ≤ 4611686018427387904) :
    Calls Tryz.prog 63 #[va, vb] w fun e w' => e = .returned (.bool true) ∧ Below w.heap.size w w' := by
  obtain ⟨oa, ca, rfl, hca⟩ := ha
  obtain ⟨ob, cb, rfl, hcb⟩ := hb
  have HA := hide hca
  have HB := hide hcb
  clear hca hcb
  go_enter Tryz.func63, Tryz.ntmps63
  go_wp2_with fail
  go_loopw [5] (fun i wr => ∃ k : Nat, k ≤ l.length ∧ i = .int .i64 k ∧ Below w.heap.size w wr) (fun i _ => l.length - (intOf i).toNat)
  case atStart => exact ⟨0, Nat.zero_le _, rfl, Below.refl _ _⟩
  case round =>
    obtain ⟨k, hk, rfl, hnx⟩ := hrel
    by_cases hlt : k < l.length
    · have hki : (k : Int) < (l.length : Int) := by omega
      obtain ⟨b, o, rfl, hb, c0⟩ := HA.out k hlt
      obtain ⟨b', o', rfl, hb', c0'⟩ := HB.out k hlt
      have d0 := (hnx.cell (p := ⟨b, o + k, none⟩) hb).trans c0
      have d0' := (hnx.cell (p := ⟨b', o' + k, none⟩) hb').trans c0'
      have HX := hide hnx
      clear hnx c0 c0'
      generalize l[k] = p at *
      have k0 : (0 : Int) ≤ (k : Int) := Int.natCast_nonneg _
      go_wp2_with fail
      go_region_held3 (fun W => W.cell? ⟨b, o + k, none⟩ = some (.string p) ∧ W.cell? ⟨b', o' + k, none⟩ = some (.string p)) (go_keep) (fail)
      all_goals
        go_wp2_with fail
        go_roundw
        case rel => exact ⟨k + 1, by omega, by go_num, HX.out.drew⟩
        case measure => simp [intOf]; omega
    · obtain rfl : k = l.length := by omega
      have H2 := hide hnx
      clear hnx
      go_wp2_with fail
      go_ret
      exact ⟨rfl, H2.out⟩

end Go.Proofs.YtilhfmhjgfmejaaGreatDoor.ss

namespace Go.Proofs.YtilhfmhjgfmejaaGreatDoor.rg
open Go.ChangeShapes Go.WideShapes Go.ChangeAt Go.RowKit Go.Proofs.YtilhfmhjgfmejaaGreatDoor.common Go.Maps
attribute [local go_sem ↓] Go.wp_at_zero Go.wp_at_succ

/-- a client: its name, whether it is public, its secret, its addresses and its scopes -/
structure Cli where
  id : ByteArray
  pub : Bool
  salt : ByteArray
  dig : ByteArray
  to : List ByteArray
  sc : List ByteArray
/-- a user -/
structure Usr where
  name : ByteArray
  salt : ByteArray
  dig : ByteArray
/-- the client x lies at cell o of block b, with the slices of its two lists -/
def CAt (w : World) (b o : Nat) (x : Cli) (vR vS : Value) : Prop :=
  w.cell? ⟨b, o, none⟩ = some (.string x.id) ∧ w.cell? ⟨b, o + 1, none⟩ = some (.bool x.pub) ∧ w.cell? ⟨b, o + 2, none⟩ = some (.string x.salt) ∧ w.cell? ⟨b, o + 3, none⟩ = some (.string x.dig) ∧ w.cell? ⟨b, o + 4, none⟩ = some vR ∧ w.cell? ⟨b, o + 5, none⟩ = some vS ∧ ss.Lies w vR x.to ∧ ss.Lies w vS x.sc
theorem CAt.below {w w' : World} {b o : Nat} {x : Cli} {vR vS : Value} (h : CAt w b o x vR vS) (hb : Below w.heap.size w w') (hl : b < w.heap.size) : CAt w' b o x vR vS := by
  obtain ⟨c0, c1, c2, c3, c4, c5, h1, h2⟩ := h
  exact ⟨(hb.cell (p := ⟨b, o, none⟩) hl).trans c0, (hb.cell (p := ⟨b, o + 1, none⟩) hl).trans c1, (hb.cell (p := ⟨b, o + 2, none⟩) hl).trans c2, (hb.cell (p := ⟨b, o + 3, none⟩) hl).trans c3, (hb.cell (p := ⟨b, o + 4, none⟩) hl).trans c4, (hb.cell (p := ⟨b, o + 5, none⟩) hl).trans c5, h1.below hb, h2.below hb⟩
/-- a slice of clients that reads as xs -/
def LiesC (w : World) (v : Value) (xs : List Cli) : Prop :=
  ∃ oa cap, v = .slice oa xs.length cap ∧ ∀ i (h : i < xs.length), ∃ b o vR vS, oa = some ⟨b, o, none⟩ ∧ b < w.heap.size ∧ CAt w b (o + i * 6) xs[i] vR vS
theorem LiesC.below {w w' : World} {v : Value} {l : List Cli} (h : LiesC w v l) (hb : Below w.heap.size w w') : LiesC w' v l := by
  obtain ⟨oa, cap, hv, hc⟩ := h
  refine ⟨oa, cap, hv, fun i hi => ?_⟩
  obtain ⟨b, o, vR, vS, ho, hlt, c⟩ := hc i hi
  exact ⟨b, o, vR, vS, ho, Nat.lt_of_lt_of_le hlt hb.size, c.below hb hlt⟩
theorem liesC_nil (w : World) : LiesC w (.slice none 0 0) [] := ⟨none, 0, rfl, fun _ hi => absurd hi (Nat.not_lt_zero _)⟩
/-- a slice of users that reads as xs -/
def LiesU (w : World) (v : Value) (xs : List Usr) : Prop :=
  ∃ oa cap, v = .slice oa xs.length cap ∧ ∀ i (h : i < xs.length), ∃ b o, oa = some ⟨b, o, none⟩ ∧ b < w.heap.size ∧ w.cell? ⟨b, o + i * 3, none⟩ = some (.string xs[i].name) ∧ w.cell? ⟨b, o + i * 3 + 1, none⟩ = some (.string xs[i].salt) ∧ w.cell? ⟨b, o + i * 3 + 2, none⟩ = some (.string xs[i].dig)
theorem LiesU.below {w w' : World} {v : Value} {l : List Usr} (h : LiesU w v l) (hb : Below w.heap.size w w') : LiesU w' v l := by
  obtain ⟨oa, cap, hv, hc⟩ := h
  refine ⟨oa, cap, hv, fun i hi => ?_⟩
  obtain ⟨b, o, ho, hlt, c0, c1, c2⟩ := hc i hi
  exact ⟨b, o, ho, Nat.lt_of_lt_of_le hlt hb.size, (hb.cell hlt).trans c0, (hb.cell hlt).trans c1, (hb.cell hlt).trans c2⟩
theorem liesU_nil (w : World) : LiesU w (.slice none 0 0) [] := ⟨none, 0, rfl, fun _ hi => absurd hi (Nat.not_lt_zero _)⟩

/-- the cells of users that lie one behind the other -/
def uc : List Usr → List Value
  | [] => []
  | x :: r => .string x.name :: .string x.salt :: .string x.dig :: uc r
theorem uc_len (l : List Usr) : (uc l).length = l.length * 3 := by
  induction l with
  | nil => rfl
  | cons p r ih => show (uc r).length + 3 = _; rw [ih, List.length_cons]; omega
theorem uc_get (l : List Usr) (i : Nat) (h : i < l.length) : (uc l)[i * 3]? = some (.string l[i].name) ∧ (uc l)[i * 3 + 1]? = some (.string l[i].salt) ∧ (uc l)[i * 3 + 2]? = some (.string l[i].dig) := by
  induction l generalizing i with
  | nil => simp at h
  | cons p r ih =>
    cases i with
    | zero => exact ⟨rfl, rfl, rfl⟩
    | succ i =>
      have := ih i (by simpa using h)
      rw [show (i + 1) * 3 = i * 3 + 1 + 1 + 1 by omega]
      exact ⟨this.1, this.2.1, this.2.2⟩
theorem uc_one (l : List Usr) : ∀ u ∈ uc l, u.oneCell' = true := by
  induction l with
  | nil => intro u hu; cases hu
  | cons p r ih =>
    intro u hu
    simp only [uc, List.mem_cons] at hu
    rcases hu with rfl | rfl | rfl | hu
    · rfl
    · rfl
    · rfl
    · exact ih u hu
theorem LiesU.cells {w : World} {ad : Addr} {n cap : Nat} {xs : List Usr} (h : LiesU w (.slice (some ad) n cap) xs) : ∀ j u, (uc xs)[j]? = some u → w.cell? (ad.add j) = some u := by
  obtain ⟨oa, ca, hv, hc⟩ := h
  cases hv
  intro j u hu
  have hj : j < xs.length * 3 := by have := (List.getElem?_eq_some_iff.1 hu).1; rw [uc_len] at this; exact this
  have hi : j / 3 < xs.length := by omega
  obtain ⟨b, o, ho, _, c0, c1, c2⟩ := hc (j / 3) hi
  cases ho
  obtain ⟨g0, g1, g2⟩ := uc_get xs (j / 3) hi
  rw [Addr.add_mid]
  have hm : j % 3 = 0 ∨ j % 3 = 1 ∨ j % 3 = 2 := by omega
  rcases hm with hm | hm | hm
  · have he : j = j / 3 * 3 := by omega
    rw [← he] at c0 g0
    rw [g0] at hu; cases hu; exact c0
  · have he : j = j / 3 * 3 + 1 := by omega
    rw [Nat.add_assoc, ← he] at c1; rw [← he] at g1
    rw [g1] at hu; cases hu; exact c1
  · have he : j = j / 3 * 3 + 2 := by omega
    rw [Nat.add_assoc, ← he] at c2; rw [← he] at g2
    rw [g2] at hu; cases hu; exact c2
theorem liesU_of_own {w : World} {base : Nat} {e : TypeId} {v : Value} {l : List Usr} (h : w.ownsRow base e 3 v l.length (uc l)) : LiesU w v l := by
  rcases h.2 with ⟨rfl, h0⟩ | ⟨g, cap, cur, rfl, hg, hh, hn, _, hsz, htk⟩
  · obtain rfl := List.eq_nil_of_length_eq_zero h0
    exact liesU_nil w
  · refine ⟨_, cap, rfl, fun i hi => ?_⟩
    have hc := h.cells (g := g) rfl
    obtain ⟨g0, g1, g2⟩ := uc_get l i hi
    have k0 := hc _ _ g0
    have k1 := hc _ _ g1
    have k2 := hc _ _ g2
    rw [Addr.add_mid, Nat.zero_add] at k0 k1 k2
    exact ⟨g, 0, rfl, (Array.getElem?_eq_some_iff.1 hh).1, by rw [Nat.zero_add]; exact k0, by rw [Nat.zero_add]; exact k1, by rw [Nat.zero_add]; exact k2⟩

/-- the cells of clients that lie one behind the other, with the slices of their lists -/
def cc : List Cli → List (Value × Value) → List Value
  | x :: r, v :: s => .string x.id :: .bool x.pub :: .string x.salt :: .string x.dig :: v.1 :: v.2 :: cc r s
  | _, _ => []
theorem cc_len : ∀ (l : List Cli) (s : List (Value × Value)), l.length = s.length → (cc l s).length = l.length * 6
  | [], [], _ => rfl
  | [], _ :: _, h => by simp at h
  | _ :: _, [], h => by simp at h
  | f :: r, v :: s, h => by
    have := cc_len r s (by simpa using h)
    show (cc r s).length + 6 = (r.length + 1) * 6
    omega
/-- the cells of one -/
def c1 (x : Cli) (v : Value × Value) : List Value := [.string x.id, .bool x.pub, .string x.salt, .string x.dig, v.1, v.2]
theorem cc_snoc (f : Cli) (v : Value × Value) : ∀ (l : List Cli) (s : List (Value × Value)), l.length = s.length → cc (l ++ [f]) (s ++ [v]) = cc l s ++ c1 f v
  | [], [], _ => rfl
  | [], _ :: _, h => by simp at h
  | _ :: _, [], h => by simp at h
  | g :: r, u :: s, h => by
    have := cc_snoc f v r s (by simpa using h)
    show _ :: _ :: _ :: _ :: _ :: _ :: cc (r ++ [f]) (s ++ [v]) = _
    rw [this]; rfl
theorem cc_get : ∀ (l : List Cli) (s : List (Value × Value)) (hls : l.length = s.length) (i : Nat) (h : i < l.length), (cc l s)[i * 6]? = some (.string l[i].id) ∧ (cc l s)[i * 6 + 1]? = some (.bool l[i].pub) ∧ (cc l s)[i * 6 + 2]? = some (.string l[i].salt) ∧ (cc l s)[i * 6 + 3]? = some (.string l[i].dig) ∧ (cc l s)[i * 6 + 4]? = some (s[i]'(by omega)).1 ∧ (cc l s)[i * 6 + 5]? = some (s[i]'(by omega)).2
  | [], _, _, i, h => by simp at h
  | _ :: _, [], hls, _, _ => by simp at hls
  | f :: r, v :: s, _, 0, _ => ⟨rfl, rfl, rfl, rfl, rfl, rfl⟩
  | f :: r, v :: s, hls, i + 1, h => by
    have := cc_get r s (by simpa using hls) i (by simpa using h)
    rw [show (i + 1) * 6 = i * 6 + 1 + 1 + 1 + 1 + 1 + 1 by omega]
    exact this

theorem infoC : (Tryz.prog.info? 45).map (fun i => (i.zero, i.size, i.bytes)) = some (some (.agg #[.string ⟨#[]⟩, .bool false, .string ⟨#[]⟩, .string ⟨#[]⟩, .slice none 0 0, .slice none 0 0]), 6, 104) := by kernel_rfl
theorem infoU : (Tryz.prog.info? 47).map (fun i => (i.zero, i.size, i.bytes)) = some (some (.agg #[.string ⟨#[]⟩, .string ⟨#[]⟩, .string ⟨#[]⟩]), 3, 48) := by kernel_rfl
theorem sizeCf : (Tryz.prog.info? 25).map (·.size) = some 12 := by kernel_rfl
theorem sizeCl : (Tryz.prog.info? 45).map (·.size) = some 6 := by kernel_rfl
theorem sizeUs : (Tryz.prog.info? 47).map (·.size) = some 3 := by kernel_rfl

/-- clients that lie in rows of one's own -/
structure OwnC (base : Nat) (w : World) (v : Value) (l : List Cli) (s : List (Value × Value)) : Prop where
  len : l.length = s.length
  row : w.ownsRow base 45 6 v l.length (cc l s)
  to : ∀ i (h : i < s.length), w.ownsRow base 9 1 s[i].1 (l[i]'(by omega)).to.length (ss.sc (l[i]'(by omega)).to)
  sc : ∀ i (h : i < s.length), w.ownsRow base 9 1 s[i].2 (l[i]'(by omega)).sc.length (ss.sc (l[i]'(by omega)).sc)
theorem OwnC.lies {base : Nat} {w : World} {v : Value} {l : List Cli} {s : List (Value × Value)} (h : OwnC base w v l s) : LiesC w v l := by
  rcases h.row.2 with ⟨rfl, h0⟩ | ⟨g, cap, cur, rfl, hg, hh, hn, _, hsz, htk⟩
  · obtain rfl := List.eq_nil_of_length_eq_zero h0
    exact liesC_nil w
  · refine ⟨_, cap, rfl, fun i hi => ?_⟩
    have hc := h.row.cells (g := g) rfl
    obtain ⟨g0, g1, g2, g3, g4, g5⟩ := cc_get l s h.len i hi
    have k0 := hc _ _ g0
    have k1 := hc _ _ g1
    have k2 := hc _ _ g2
    have k3 := hc _ _ g3
    have k4 := hc _ _ g4
    have k5 := hc _ _ g5
    rw [Addr.add_mid, Nat.zero_add] at k0 k1 k2 k3 k4 k5
    refine ⟨g, 0, (s[i]'(by have := h.len; omega)).1, (s[i]'(by have := h.len; omega)).2, rfl, (Array.getElem?_eq_some_iff.1 hh).1, ?_⟩
    rw [Nat.zero_add]
    exact ⟨k0, k1, k2, k3, k4, k5, ss.lies_of_own (h.to i (by have := h.len; omega)), ss.lies_of_own (h.sc i (by have := h.len; omega))⟩
end Go.Proofs.YtilhfmhjgfmejaaGreatDoor.rg
