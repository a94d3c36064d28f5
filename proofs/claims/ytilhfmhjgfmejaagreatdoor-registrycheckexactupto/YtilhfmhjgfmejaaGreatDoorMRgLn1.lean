import Derived.Test.YtilhfmhjgfmejaaGreatDoorMRgTwin
import Derived.Test.YtilhfmhjgfmejaaGreatDoorMRgChC
import Derived.Maps.AppendAt
namespace Go.Proofs.YtilhfmhjgfmejaaGreatDoor.rg
open Go.ChangeShapes Go.WideShapes Go.ChangeAt Go.RowKit Go.Proofs.YtilhfmhjgfmejaaGreatDoor.common Go.Maps
attribute [local go_sem ↓] Go.wp_at_zero Go.wp_at_succ

abbrev mkB : ByteArray := ⟨#[109, 97, 114, 107]⟩
/-- a slice but for its last two -/
def hd2 : Value → Value
  | .slice oa n c => .slice oa (n - 2) c
  | v => v
def hdP (u : Value × Value) : Value × Value := (hd2 u.1, hd2 u.2)
/-- pairs as a list -/
def fl : List (Value × Value) → List Value
  | [] => []
  | u :: r => u.1 :: u.2 :: fl r
theorem fl_len : ∀ l : List (Value × Value), (fl l).length = 2 * l.length
  | [] => rfl
  | u :: r => by show (fl r).length + 2 = 2 * (r.length + 1); rw [fl_len r]; omega
theorem fl_app : ∀ l m : List (Value × Value), fl (l ++ m) = fl l ++ fl m
  | [], _ => rfl
  | u :: r, m => by show _ :: _ :: fl (r ++ m) = _; rw [fl_app r m]; rfl
theorem fl_get : ∀ (l : List (Value × Value)) (i : Nat) (v : Value), (fl l)[i]? = some v → ∃ (j : Nat) (u : Value × Value), l[j]? = some u ∧ (v = u.1 ∨ v = u.2)
  | [], i, v, h => by simp [fl] at h
  | u :: r, 0, v, h => ⟨0, u, rfl, Or.inl (by simpa [fl] using h.symm)⟩
  | u :: r, 1, v, h => ⟨0, u, rfl, Or.inr (by simpa [fl] using h.symm)⟩
  | u :: r, i + 2, v, h => by
    obtain ⟨j, x, hx, hv⟩ := fl_get r i v (by simpa [fl] using h)
    exact ⟨j + 1, x, by simpa using hx, hv⟩
theorem ne_box {w : World} {base : Nat} {e : TypeId} {z : Nat} {v : Value} {n : Nat} {xs : List Value} (h : w.ownsRow base e z v n xs) {b : Nat} {a : Array Value} {t : TypeId} (hb : w.heap[b]? = some (.cells a t)) (he : e ≠ t) : v.ownBlock ≠ some b := by
  intro hv
  rcases h.2 with ⟨rfl, _⟩ | ⟨g, cap, cur, rfl, _, hh, _⟩
  · cases hv
  · cases hv
    rw [hb] at hh
    cases hh
    exact he rfl
theorem own_keepI {w w' : World} {base : Nat} {e : TypeId} {size : Nat} {v : Value} {n : Nat} {xs : List Value} (h : w.ownsRow base e size v n xs) (hk : ∀ g, v.ownBlock = some g → w'.heap[g]? = w.heap[g]?) : w'.ownsRow base e size v n xs := by
  refine ⟨h.1, ?_⟩
  rcases h.2 with h1 | ⟨g, cap, cur, rfl, h1, h2, h3⟩
  · exact Or.inl h1
  · exact Or.inr ⟨g, cap, cur, rfl, h1, (hk g rfl).trans h2, h3⟩
theorem own_grown {w w' : World} {base : Nat} {e : TypeId} {size : Nat} {v : Value} {n : Nat} {xs : List Value} (h : w.ownsRow base e size v n xs) {row : Option Nat} (hg : w.grownBy w' row) (hr : ∀ m, v.ownBlock = some m → row ≠ some m) : w'.ownsRow base e size v n xs :=
  own_keepI h (fun g hv => hg.block g (h.lt g hv).2 (fun e => hr g hv e.symm))
theorem own_grownT {w w' : World} {base base' : Nat} {e e' : TypeId} {z z' n n' : Nat} {v v' : Value} {xs xs' : List Value} (h : w.ownsRow base e z v n xs) (h' : w.ownsRow base' e' z' v' n' xs') (he : e ≠ e') (hg : w.grownBy w' v'.ownBlock) : w'.ownsRow base e z v n xs :=
  own_grown h hg (fun m hm hm' => by
    rcases rows_ne he h h' with h0 | h0
    · rw [hm] at h0; cases h0
    · exact h0 (hm.trans hm'.symm))
theorem sc_two (l : List ByteArray) (a b : ByteArray) : ss.sc (l ++ [a, b]) = ss.sc l ++ [.string a, .string b] := by simp [ss.sc]
/-- all but the blocks of E is as it was -/
structure Stp (E : Nat → Prop) (w w' : World) : Prop where
  os : w'.os = w.os
  tape : w'.tape = w.tape
  output : w'.output = w.output
  size : w.heap.size ≤ w'.heap.size
  block : ∀ k, k < w.heap.size → ¬ E k → w'.heap[k]? = w.heap[k]?
theorem Stp.refl (E : Nat → Prop) (w : World) : Stp E w w := ⟨rfl, rfl, rfl, Nat.le_refl _, fun _ _ _ => rfl⟩
theorem Stp.grown {E : Nat → Prop} {a w w' : World} {row : Option Nat} (h : Stp E a w) (hg : w.grownBy w' row) (hr : ∀ m, row = some m → E m ∨ a.heap.size ≤ m) : Stp E a w' :=
  ⟨hg.os.trans h.os, hg.tape.trans h.tape, hg.output.trans h.output, Nat.le_trans h.size hg.size, fun k hk hE => (hg.block k (Nat.lt_of_lt_of_le hk h.size) (fun e => by rcases hr k e.symm with h9 | h9; exact hE h9; omega)).trans (h.block k hk hE)⟩
theorem Stp.below {E : Nat → Prop} {a w w' : World} (h : Stp E a w) (hb : Below w.heap.size w w') : Stp E a w' :=
  ⟨hb.os.trans h.os, hb.tape.trans h.tape, hb.output.trans h.output, Nat.le_trans h.size hb.size, fun k hk hE => (hb.block k (Nat.lt_of_lt_of_le hk h.size)).trans (h.block k hk hE)⟩
theorem Stp.alloc {E : Nat → Prop} {a w : World} (h : Stp E a w) (o : Obj) : Stp E a (w.alloc o) := h.below ((Below.refl _ _).alloc (Nat.le_refl _) o)
theorem Stp.set {E : Nat → Prop} {a w : World} (h : Stp E a w) (p : Addr) (u : Value) (hE : E p.block ∨ a.heap.size ≤ p.block) : Stp E a (w.setCell p u) := h.grown (grown_cell w p u) (fun m hm => by cases hm; exact hE)
theorem Stp.low {E : Nat → Prop} {w w' : World} (h : Stp E w w') {B : Nat} (hE : ∀ m, m < B → ¬ E m) (hB : B ≤ w.heap.size) : Below B w w' := ⟨h.os, h.tape, h.output, h.size, fun k hk => h.block k (by omega) (hE k hk)⟩

/-- the state within lend: k clients are done; the lists of those from q on are as twin made them -/
structure LnS (B0 T : Nat) (cs : List Cli) (s ls : List (Value × Value)) (k q : Nat) (vC vN vL : Value) (w : World) : Prop where
  len : ls.length = k
  slen : cs.length = s.length
  rowC : w.ownsRow B0 45 6 vC cs.length (cc cs s)
  loC : ∀ m, vC.ownBlock = some m → m < T
  rowN : w.ownsRow T 45 6 vN k (cc (cs.take k) (ls.map hdP))
  rowL : w.ownsRow T 43 1 vL (2 * k) (fl ls)
  new : ∀ (j : Nat) x u, cs[j]? = some x → ls[j]? = some u → w.ownsRow B0 9 1 u.1 (x.to.length + 2) (ss.sc (x.to ++ [mkB, mkB])) ∧ w.ownsRow B0 9 1 u.2 (x.sc.length + 2) (ss.sc (x.sc ++ [mkB, mkB]))
  old : ∀ (j : Nat) x u, q ≤ j → cs[j]? = some x → s[j]? = some u → w.ownsRow B0 9 1 u.1 x.to.length (ss.sc x.to) ∧ w.ownsRow B0 9 1 u.2 x.sc.length (ss.sc x.sc)
  loS : ∀ (j : Nat) u, s[j]? = some u → ∀ m, Bk u m → m < T
  ap : ApC s
  far : ∀ (j : Nat) u, ls[j]? = some u → ∀ m, Bk u m → T ≤ m ∨ ∀ (i : Nat) v, q ≤ i → s[i]? = some v → ∀ m', Bk v m' → m < m'
section
variable {B0 T : Nat} {cs : List Cli} {s ls : List (Value × Value)} {k q : Nat} {vC vN vL : Value} {w w' : World}
theorem LnS.below (h : LnS B0 T cs s ls k q vC vN vL w) (hb : Below w.heap.size w w') : LnS B0 T cs s ls k q vC vN vL w' :=
  ⟨h.len, h.slen, bk.own_below h.rowC hb, h.loC, bk.own_below h.rowN hb, bk.own_below h.rowL hb, fun j x u h1 h2 => ⟨bk.own_below (h.new j x u h1 h2).1 hb, bk.own_below (h.new j x u h1 h2).2 hb⟩, fun j x u h0 h1 h2 => ⟨bk.own_below (h.old j x u h0 h1 h2).1 hb, bk.own_below (h.old j x u h0 h1 h2).2 hb⟩, h.loS, h.ap, h.far⟩
/-- one client more: what was written lies in E, the k-th client's lists, and new blocks -/
theorem LnS.next (h : LnS B0 T cs s ls k k vC vN vL w) {x : Cli} {u y : Value × Value} {vN' vL' : Value} (hx : cs[k]? = some x) (hu : s[k]? = some u) {X : Nat} (hXC : vC.ownBlock ≠ some X) (hXS : ∀ (j : Nat) v, s[j]? = some v → ¬ Bk v X) (hXL : ∀ (j : Nat) v, ls[j]? = some v → ¬ Bk v X)
    (hst : Stp (fun m => m = X ∨ Bk u m ∨ vL.ownBlock = some m ∨ vN.ownBlock = some m) w w')
    (hN : w'.ownsRow T 45 6 vN' (k + 1) (cc (cs.take k) (ls.map hdP) ++ c1 x (hdP y))) (hL : w'.ownsRow T 43 1 vL' (2 * (k + 1)) (fl ls ++ [y.1, y.2]))
    (h5 : w'.ownsRow B0 9 1 y.1 (x.to.length + 2) (ss.sc (x.to ++ [mkB, mkB]))) (h7 : w'.ownsRow B0 9 1 y.2 (x.sc.length + 2) (ss.sc (x.sc ++ [mkB, mkB])))
    (hy : ∀ m, Bk y m → Bk u m ∨ T ≤ m) : LnS B0 T cs s (ls ++ [y]) (k + 1) (k + 1) vC vN' vL' w' := by
  have hkl : k < cs.length := (List.getElem?_eq_some_iff.1 hx).1
  have hNb : ∀ m, vN.ownBlock = some m → T ≤ m := fun m hm => (h.rowN.lt m hm).1
  have hLb : ∀ m, vL.ownBlock = some m → T ≤ m := fun m hm => (h.rowL.lt m hm).1
  have key : ∀ (j : Nat) v, (ls ++ [y])[j]? = some v → ls[j]? = some v ∨ (j = k ∧ v = y) := by
    intro j v hv
    by_cases hj : j < ls.length
    · exact Or.inl (by rw [List.getElem?_append_left hj] at hv; exact hv)
    · have hl := (List.getElem?_eq_some_iff.1 hv).1
      have hj2 : j = ls.length := by simp at hl; omega
      subst hj2
      refine Or.inr ⟨h.len, ?_⟩
      simp at hv
      exact hv.symm
  have keep : ∀ {base : Nat} {e : TypeId} {z n : Nat} {v : Value} {xs : List Value}, w.ownsRow base e z v n xs → (∀ m, v.ownBlock = some m → ¬ (m = X ∨ Bk u m ∨ vL.ownBlock = some m ∨ vN.ownBlock = some m)) → w'.ownsRow base e z v n xs := fun ho hE => own_keepI ho (fun g hg => hst.block g (ho.lt g hg).2 (hE g hg))
  have hus : ∀ m, Bk u m → m < T := h.loS k u hu
  refine ⟨by simp [h.len], h.slen, keep h.rowC ?_, h.loC, ?_, ?_, ?_, ?_, h.loS, h.ap, ?_⟩
  · rintro m hm (rfl | hb | hb | hb)
    · exact hXC hm
    · obtain ⟨r1, r2⟩ := h.old k x u (Nat.le_refl _) hx hu
      rcases hb with hb | hb
      · rcases rows_ne (by decide) h.rowC r1 with h0 | h0
        · rw [hm] at h0; cases h0
        · exact h0 (hm.trans hb.symm)
      · rcases rows_ne (by decide) h.rowC r2 with h0 | h0
        · rw [hm] at h0; cases h0
        · exact h0 (hm.trans hb.symm)
    · have := hLb m hb; have := h.loC m hm; omega
    · have := hNb m hb; have := h.loC m hm; omega
  · rw [List.map_append, List.map_cons, List.map_nil, List.take_succ_eq_append_getElem hkl, cc_snoc _ _ _ _ (by rw [List.length_take, List.length_map, h.len]; omega)]
    have hxx : cs[k] = x := by rw [List.getElem?_eq_getElem hkl] at hx; exact Option.some.inj hx
    rw [hxx]
    exact hN
  · rw [fl_app]; exact hL
  · intro j a v ha hv
    rcases key j v hv with hv' | ⟨rfl, rfl⟩
    · obtain ⟨r1, r2⟩ := h.new j a v ha hv'
      have no : ∀ m, Bk v m → ¬ (m = X ∨ Bk u m) := by
        rintro m hm (rfl | hb)
        · exact hXL j v hv' hm
        · rcases h.far j v hv' m hm with h9 | h9
          · have := hus m hb; omega
          · exact absurd (h9 k u (Nat.le_refl _) hu m hb) (Nat.lt_irrefl _)
      refine ⟨keep r1 ?_, keep r2 ?_⟩
      · rintro m hm (hb | hb | hb | hb)
        · exact no m (Or.inl hm) (Or.inl hb)
        · exact no m (Or.inl hm) (Or.inr hb)
        · rcases rows_ne (by decide) r1 h.rowL with h0 | h0
          · rw [hm] at h0; cases h0
          · exact h0 (hm.trans hb.symm)
        · rcases rows_ne (by decide) r1 h.rowN with h0 | h0
          · rw [hm] at h0; cases h0
          · exact h0 (hm.trans hb.symm)
      · rintro m hm (hb | hb | hb | hb)
        · exact no m (Or.inr hm) (Or.inl hb)
        · exact no m (Or.inr hm) (Or.inr hb)
        · rcases rows_ne (by decide) r2 h.rowL with h0 | h0
          · rw [hm] at h0; cases h0
          · exact h0 (hm.trans hb.symm)
        · rcases rows_ne (by decide) r2 h.rowN with h0 | h0
          · rw [hm] at h0; cases h0
          · exact h0 (hm.trans hb.symm)
    · rw [hx] at ha; cases ha
      exact ⟨h5, h7⟩
  · intro j a v hj ha hv
    obtain ⟨r1, r2⟩ := h.old j a v (by omega) ha hv
    have no : ∀ m, Bk v m → ¬ (m = X ∨ Bk u m ∨ vL.ownBlock = some m ∨ vN.ownBlock = some m) := by
      rintro m hm (rfl | hb | hb | hb)
      · exact hXS j v hv hm
      · exact absurd (h.ap.lt k j u v (by omega) hu hv m m hb hm) (Nat.lt_irrefl _)
      · have := hLb m hb; have := h.loS j v hv m hm; omega
      · have := hNb m hb; have := h.loS j v hv m hm; omega
    exact ⟨keep r1 (fun m hm => no m (Or.inl hm)), keep r2 (fun m hm => no m (Or.inr hm))⟩
  · intro j v hv m hm
    rcases key j v hv with hv' | ⟨rfl, rfl⟩
    · rcases h.far j v hv' m hm with h9 | h9
      · exact Or.inl h9
      · exact Or.inr (fun i z hi hz => h9 i z (by omega) hz)
    · rcases hy m hm with h9 | h9
      · exact Or.inr (fun i z hi hz m' hm' => h.ap.lt j i u z (by omega) hu hz m m' h9 hm')
      · exact Or.inl h9
/-- the k-th client as it lies in twin's row -/
theorem LnS.at_ (h : LnS B0 T cs s ls k q vC vN vL w) {x : Cli} {u : Value × Value} {i : Nat} (hx : cs[i]? = some x) (hu : s[i]? = some u) : ∃ g o cap, vC = .slice (some ⟨g, o, none⟩) cs.length cap ∧ w.rangeAt g (o + i * 6) [.string x.id, .bool x.pub, .string x.salt, .string x.dig, u.1, u.2] := by
  have hi : i < cs.length := (List.getElem?_eq_some_iff.1 hx).1
  have hxx : cs[i] = x := by rw [List.getElem?_eq_getElem hi] at hx; exact Option.some.inj hx
  have his : i < s.length := by have := h.slen; omega
  have huu : s[i] = u := by rw [List.getElem?_eq_getElem his] at hu; exact Option.some.inj hu
  rcases h.rowC.2 with ⟨_, h0⟩ | ⟨g, cap, cur, hv, hg, hh, hn, _, hsz, htk⟩
  · omega
  · subst hv
    refine ⟨g, 0, cap, rfl, fun j v hv => ?_⟩
    have hc := h.rowC.cells (g := g) rfl
    obtain ⟨g0, g1, g2, g3, g4, g5⟩ := cc_get cs s h.slen i hi
    rw [hxx] at g0 g1 g2 g3
    rw [huu] at g4 g5
    have k0 := hc _ _ g0
    have k1 := hc _ _ g1
    have k2 := hc _ _ g2
    have k3 := hc _ _ g3
    have k4 := hc _ _ g4
    have k5 := hc _ _ g5
    rw [Addr.add_mid, Nat.zero_add] at k0 k1 k2 k3 k4 k5
    rw [Nat.zero_add]
    match j, hv with
    | 0, hv => cases hv; exact k0
    | 1, hv => cases hv; exact k1
    | 2, hv => cases hv; exact k2
    | 3, hv => cases hv; exact k3
    | 4, hv => cases hv; exact k4
    | 5, hv => cases hv; exact k5
/-- the lists with their marks -/
def Nw (B0 : Nat) (cs : List Cli) (ls : List (Value × Value)) (w : World) : Prop := ∀ (j : Nat) x u, cs[j]? = some x → ls[j]? = some u → w.ownsRow B0 9 1 u.1 (x.to.length + 2) (ss.sc (x.to ++ [mkB, mkB])) ∧ w.ownsRow B0 9 1 u.2 (x.sc.length + 2) (ss.sc (x.sc ++ [mkB, mkB]))
theorem Nw.below (h : Nw B0 cs ls w) (hb : Below w.heap.size w w') : Nw B0 cs ls w' := fun j x u h1 h2 => ⟨bk.own_below (h j x u h1 h2).1 hb, bk.own_below (h j x u h1 h2).2 hb⟩
theorem Nw.alloc (h : Nw B0 cs ls w) (o : Obj) : Nw B0 cs ls (w.alloc o) := h.below ((Below.refl _ _).alloc (Nat.le_refl _) o)
theorem Nw.grown (h : Nw B0 cs ls w) {base' : Nat} {e' : TypeId} {z' n' : Nat} {v' : Value} {xs' : List Value} (h' : w.ownsRow base' e' z' v' n' xs') (he : 9 ≠ e') (hg : w.grownBy w' v'.ownBlock) : Nw B0 cs ls w' := fun j x u h1 h2 => ⟨own_grownT (h j x u h1 h2).1 h' he hg, own_grownT (h j x u h1 h2).2 h' he hg⟩
theorem Nw.off (h : Nw B0 cs ls w) {p : Addr} (u : Value) {a : Array Value} {t : TypeId} (hp : w.heap[p.block]? = some (.cells a t)) (he : 9 ≠ t) : Nw B0 cs ls (w.setCell p u) := fun j x y h1 h2 => ⟨own_off (h j x y h1 h2).1 p u (Or.inr (Or.inr (ne_box (h j x y h1 h2).1 hp he))), own_off (h j x y h1 h2).2 p u (Or.inr (Or.inr (ne_box (h j x y h1 h2).2 hp he)))⟩
/-- what lend hands out: rows of its own from B0 on -/
structure LnO (B0 : Nat) (cs : List Cli) (us : List Usr) (ls : List (Value × Value)) (vN vU vL : Value) (w : World) : Prop where
  len : ls.length = cs.length
  rowN : w.ownsRow B0 45 6 vN (cs.length + 2) (cc cs (ls.map hdP) ++ (c1 ⟨mkB, false, ⟨#[]⟩, ⟨#[]⟩, [], []⟩ (.slice none 0 0, .slice none 0 0) ++ c1 ⟨mkB, false, ⟨#[]⟩, ⟨#[]⟩, [], []⟩ (.slice none 0 0, .slice none 0 0)))
  rowU : w.ownsRow B0 47 3 vU (us.length + 2) (uc us ++ uc [⟨mkB, ⟨#[]⟩, ⟨#[]⟩⟩, ⟨mkB, ⟨#[]⟩, ⟨#[]⟩⟩])
  rowL : w.ownsRow B0 43 1 vL (2 * cs.length) (fl ls)
  new : ∀ (j : Nat) x u, cs[j]? = some x → ls[j]? = some u → w.ownsRow B0 9 1 u.1 (x.to.length + 2) (ss.sc (x.to ++ [mkB, mkB])) ∧ w.ownsRow B0 9 1 u.2 (x.sc.length + 2) (ss.sc (x.sc ++ [mkB, mkB]))
theorem LnO.keep {us : List Usr} {vU : Value} (h : LnO B0 cs us ls vN vU vL w) (hk : ∀ m, B0 ≤ m → m < w.heap.size → w'.heap[m]? = w.heap[m]?) : LnO B0 cs us ls vN vU vL w' := by
  have kp : ∀ {e : TypeId} {z n : Nat} {v : Value} {xs : List Value}, w.ownsRow B0 e z v n xs → w'.ownsRow B0 e z v n xs := fun ho => own_keepI ho (fun g hg => hk g (ho.lt g hg).1 (ho.lt g hg).2)
  exact ⟨h.len, kp h.rowN, kp h.rowU, kp h.rowL, fun j x u h1 h2 => ⟨kp (h.new j x u h1 h2).1, kp (h.new j x u h1 h2).2⟩⟩
end
end Go.Proofs.YtilhfmhjgfmejaaGreatDoor.rg
