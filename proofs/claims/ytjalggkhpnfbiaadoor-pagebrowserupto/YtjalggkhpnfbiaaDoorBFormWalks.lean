import Derived.Test.YtjalggkhpnfbiaaDoorBListKit
import Derived.Test.YtjalggkhpnfbiaaDoorBAppEsc
import Derived.Test.YtjalggkhpnfbiaaDoorBIndexOne
namespace Go.Proofs.YtjalggkhpnfbiaaDoor.pctw
open Go.ChangeShapes Go.WideShapes Go.ChangeAt Go.RowKit Go.Proofs.YtjalggkhpnfbiaaDoor.common
open Go.Proofs.YtjalggkhpnfbiaaDoor.lst (PB Lies takeP)
attribute [local go_sem ↓] Go.wp_at_zero Go.wp_at_succ

def pr (p : PB) : Pct.Pr := (p.1.data.toList, p.2.data.toList)
/-- how long all texts are together -/
def tot : List PB → Nat
  | [] => 0
  | p :: r => p.1.size + p.2.size + 1 + tot r
theorem tot_app (l m : List PB) : tot (l ++ m) = tot l + tot m := by
  induction l with
  | nil => simp [tot]
  | cons p r ih => show _ + tot (r ++ m) = _ + tot r + tot m; rw [ih]; omega
theorem tot_take (l : List PB) (k : Nat) (h : k < l.length) : tot (l.take k) + (l[k].1.size + l[k].2.size + 1) ≤ tot l := by
  have e : l = l.take k ++ (l[k] :: l.drop (k + 1)) := by rw [← List.drop_eq_getElem_cons h, List.take_append_drop]
  have := congrArg tot e
  rw [tot_app] at this
  have h2 : tot (l[k] :: l.drop (k + 1)) = l[k].1.size + l[k].2.size + 1 + tot (l.drop (k + 1)) := rfl
  omega

theorem shown_len (p : PB) : (Pct.shown (pr p)).length ≤ 3 * (p.1.size + p.2.size) + 1 := by
  unfold Pct.shown pr
  have h1 := (Pct.esc_len true p.1.data.toList).2
  have h2 := (Pct.esc_len true p.2.data.toList).2
  rw [len_list] at h1 h2
  rw [List.length_append, List.length_cons]
  show (Pct.esc true p.1.data.toList).length + ((Pct.esc true p.2.data.toList).length + 1) ≤ _
  omega
theorem form_len (l : List PB) : (Pct.form (l.map pr)).length ≤ 3 * tot l := by
  induction l with
  | nil => exact Nat.le_refl _
  | cons p r ih =>
    have hp := shown_len p
    cases r with
    | nil => show (Pct.shown (pr p)).length ≤ 3 * (p.1.size + p.2.size + 1 + 0); omega
    | cons q r =>
      show (Pct.shown (pr p) ++ 38 :: Pct.form ((q :: r).map pr)).length ≤ 3 * (p.1.size + p.2.size + 1 + tot (q :: r))
      rw [List.length_append, List.length_cons]; omega

/-- a form, one pair more -/
def sep (l : List PB) : List UInt8 := if l = [] then [] else [38]
theorem form_more (l : List PB) (p : PB) : Pct.form ((l ++ [p]).map pr) = ((Pct.form (l.map pr) ++ sep l) ++ Pct.esc true p.1.data.toList ++ [61]) ++ Pct.esc true p.2.data.toList := by
  unfold sep
  by_cases h : l = []
  · subst h
    show Pct.shown (pr p) = _
    simp [Pct.shown, pr, Pct.form]
  · rw [if_neg h, List.map_append, List.map_cons, List.map_nil, Pct.form_snoc _ _ (by simpa using h)]
    simp [Pct.shown, pr]

theorem cell_one_at (w : World) (x : Value) (t : TypeId) (k : Nat) (hk : k = w.heap.size) : ∀ j u, [x][j]? = some u → (w.alloc (.cells #[x] t)).cell? ((⟨k, 0, none⟩ : Addr).add j) = some u := by
  subst hk; exact cell_one_new w x t

/-- a pair that lies in a block of its own, apart from the row v -/
structure PairAt (w : World) (v : Value) (P : Nat) (x y : ByteArray) : Prop where
  c0 : w.cell? ⟨P, 0, none⟩ = some (.string x)
  c1 : w.cell? ⟨P, 1, none⟩ = some (.string y)
  lt : P < w.heap.size
  ne : some P ≠ v.ownBlock
theorem PairAt.next {w w' : World} {v v' : Value} {P : Nat} {x y : ByteArray} (h : PairAt w v P x y) (k : Own w w' v v') : PairAt w' v' P x y := by
  have e := k.kept P h.lt h.ne
  refine ⟨?_, ?_, Nat.lt_of_lt_of_le h.lt k.size, ?_⟩
  · rw [← h.c0]; exact World.cell?_of_block e
  · rw [← h.c1]; exact World.cell?_of_block e
  · rcases k.lies with e2 | ⟨g, e2, hg⟩
    · rw [e2]; exact h.ne
    · rw [e2]; intro e3; cases e3; have := h.lt; omega
theorem pair_new (w : World) (v : Value) (x y : ByteArray) (t : TypeId) {base : Nat} {e : TypeId} {n : Nat} {xs : List Value} (h : w.ownsRow base e 1 v n xs) : PairAt (w.alloc (.cells #[.string x, .string y] t)) v w.heap.size x y := by
  refine ⟨?_, ?_, by simp, ?_⟩
  · exact range_new w #[.string x, .string y] t 0 _ rfl
  · exact range_new w #[.string x, .string y] t 1 _ rfl
  · intro e2
    have := (h.lt _ e2.symm).2
    omega

set_option maxRecDepth 100000 in
set_option maxHeartbeats 6400000 in
theorem form_any (v : Value) (l : List PB) (w : World) (hl : Lies w v l) (ht : Tab w) (hs : 4 * tot l ≤ 140737488355328) (hn : l.length ≤ 4611686018427387904) :
    Calls Tryd.prog 24 #[v] w fun e w' => e = .returned (S (Pct.form (l.map pr))) ∧ Below w.heap.size w w' := by
  obtain ⟨i0, hi, hz0, hz1, hz2⟩ := info_parts info8
  obtain ⟨oa, ca, rfl, hca⟩ := hl
  have HA := hide hca
  have HT := hide ht
  clear hca ht
  go_enter Tryd.func24, Tryd.ntmps24
  go_wp2_with fail
  go_loopw [3, 8] (fun v i wr => ∃ k : Nat, k ≤ l.length ∧ i = .int .i64 k ∧ wr.ownsRow w.heap.size 5 1 v (Pct.form ((l.take k).map pr)).length ((Pct.form ((l.take k).map pr)).map B) ∧ Below w.heap.size w wr) (fun _ i _ => l.length - (intOf i).toNat)
  case atStart => exact ⟨0, Nat.zero_le _, rfl, World.ownsRow_nil _ _ _ _, Below.refl _ _⟩
  case round =>
    obtain ⟨k, hk, rfl, hown, hnx⟩ := hrel
    have hsz := hnx.size
    by_cases hlt : k < l.length
    · have hki : (k : Int) < (l.length : Int) := by omega
      obtain ⟨b, o, rfl, hb, c0, c1⟩ := HA.out k hlt
      have d0 := (hnx.cell (p := ⟨b, o + k * 2, none⟩) hb).trans c0
      have d1 := (hnx.cell (p := ⟨b, o + k * 2 + 1, none⟩) hb).trans c1
      have HSN : Hid (Pct.form ((l.take (k + 1)).map pr) = ((Pct.form ((l.take k).map pr) ++ sep (l.take k)) ++ Pct.esc true l[k].1.data.toList ++ [61]) ++ Pct.esc true l[k].2.data.toList) := by show _ = _; rw [takeP l k hlt, form_more]
      have hfl := form_len (l.take k)
      have htl := tot_take l k hlt
      have HSK : Hid (sep (l.take k) = if k = 0 then [] else [38]) := by
        show _ = _
        unfold sep
        by_cases h0 : k = 0
        · subst h0; rw [if_pos rfl, if_pos List.take_zero]
        · rw [if_neg h0, if_neg (by intro e; rw [List.take_eq_nil_iff] at e; rcases e with e | e; exact h0 e; subst e; simp at hlt)]
      clear c0 c1
      generalize l[k] = p at *
      have PN := pair_new wr u3 p.1 p.2 66 hown
      have hown2 := hide (hown.alloc (.cells #[.string p.1, .string p.2] 66))
      have X0 := hide (hnx.alloc hsz (.cells #[.string p.1, .string p.2] 66))
      have P0 := hide PN
      clear hown hnx PN
      have he1 := (Pct.esc_len true p.1.data.toList).2
      have he2 := (Pct.esc_len true p.2.data.toList).2
      rw [len_list] at he1 he2
      generalize hF : Pct.form ((l.take k).map pr) = F at *
      by_cases h0 : k = 0
      · have HSEP : Hid (F ++ sep (l.take k) = F) := by show _ = _; rw [HSK.out, if_pos h0, List.append_nil]
        have d0' : wr.cell? ⟨b, o, none⟩ = some (.string p.1) := by simpa [h0] using d0
        have d1' : wr.cell? ⟨b, o + 1, none⟩ = some (.string p.2) := by simpa [h0] using d1
        have d0 := P0.out.c0
        go_wp2_with fail
        refine (appendEscaped_any w.heap.size _ (F) p.1 true _ hown2.out X0.out.size HT.out.lt (HT.out.below X0.out (Nat.le_refl _)) (by first | omega | (simp only [List.length_append, List.length_cons, List.length_nil]; omega))).mono ?_
        rintro x w2 ⟨v2, rfl, hown', hb', how'⟩
        have X2 := hide (X0.out.trans hb')
        have O2 := hide hown'
        have P2 := hide (P0.out.next how')
        clear hown' hb' how' d0
        have hL2 : (F ++ Pct.esc true p.1.data.toList).length ≤ 3 * tot (l.take k) + 1 + 3 * p.1.size := by simp [List.length_append]; omega
        generalize hLA : F ++ Pct.esc true p.1.data.toList = LA at *
        go_wp2_with (at_builtin; refine wpList_append_lies _ rfl _ _ 52 rfl w.heap.size 5 i0 (.int .u8 0) 1 1 Tryd.underlying52 hi hz0 hz1 hz2 rfl (by decide) _ _ _ rfl (O2.out.alloc _) ⟨w2.heap.size, 0, none⟩ 1 1 [_] rfl rfl (cell_one_new _ _ _) ?c2 (by decide) ?c3 ?c4 ?c5 (w2.heap.size + 1) (by simp) ?_)
        case c2 => first | rfl | (intro u hu; simp at hu; subst hu; rfl)
        case c3 => unfold maxLen; omega
        case c4 => omega
        case c5 => have := X2.out.size; first | omega | (simp; omega)
        intro g3 c3 w3 hown' hgrow hat _
        have X3 := hide ((X2.out.alloc X2.out.size _).grown hgrow (by have := X2.out.size; simp; omega) (own_ge O2.out))
        have P3 := hide (P2.out.next ((Own.refl w2 _).step (n := LA.length + 1) (cap := c3) _ rfl hgrow hat))
        have O3 : Hid (w3.ownsRow w.heap.size 5 1 (.slice (some ⟨g3, 0, none⟩) (LA.length + 1) c3) (LA ++ [61]).length ((LA ++ [61]).map B)) := by
          show w3.ownsRow _ _ _ _ _ _
          rw [List.length_append, List.map_append]; exact hown'
        clear hown' hgrow hat
        have d1 := P3.out.c1
        go_wp2_with fail
        refine (appendEscaped_any w.heap.size _ (LA ++ [61]) p.2 true _ O3.out X3.out.size HT.out.lt (HT.out.below X3.out (Nat.le_refl _)) (by first | omega | (simp only [List.length_append, List.length_cons, List.length_nil]; omega))).mono ?_
        rintro x w4 ⟨v4, rfl, hown', hb', how'⟩
        have X4 := hide (X3.out.trans hb')
        have O4 := hide hown'
        have P4 := hide (P3.out.next how')
        clear hown' hb' how' d1
        rw [← hLA] at O4
        have O5 : Hid (w4.ownsRow w.heap.size 5 1 v4 (Pct.form ((l.take (k + 1)).map pr)).length ((Pct.form ((l.take (k + 1)).map pr)).map B)) := by
          show w4.ownsRow _ _ _ _ _ _
          rw [HSN.out, HSEP.out]; exact O4.out
        go_wp2
        go_roundw
        case rel => exact ⟨k + 1, by omega, by first | go_num | (rw [h0]; rfl), O5.out, X4.out⟩
        case measure => simp [intOf]; omega
      · have HSEP : Hid (F ++ sep (l.take k) = F ++ [38]) := by show _ = _; rw [HSK.out, if_neg h0]
        have hk0 : (0 : Int) < (k : Int) := by omega
        obtain ⟨wp, hwp⟩ : ∃ wp, wr.alloc (.cells #[.string p.1, .string p.2] 66) = wp := ⟨_, rfl⟩
        rw [hwp] at hown2 X0 P0
        have hwps : wp.heap.size = wr.heap.size + 1 := by rw [← hwp]; simp
        go_wp2_with (at_builtin; refine wpList_append_lies _ rfl _ _ 52 rfl w.heap.size 5 i0 (.int .u8 0) 1 1 Tryd.underlying52 hi hz0 hz1 hz2 rfl (by decide) _ _ _ rfl (hown2.out.alloc _) ⟨wr.heap.size + 1, 0, none⟩ 1 1 [_] rfl rfl (cell_one_at _ _ _ _ hwps.symm) ?c2 (by decide) ?c3 ?c4 ?c5 (wp.heap.size + 1) (by simp) ?_)
        case c2 => first | rfl | (intro u hu; simp at hu; subst hu; rfl)
        case c3 => unfold maxLen; omega
        case c4 => omega
        case c5 => have := X0.out.size; first | omega | (simp; omega)
        intro g1 c1 w1 hown' hgrow hat _
        have X1 := hide ((X0.out.alloc X0.out.size _).grown hgrow (by have := X0.out.size; simp; omega) (own_ge hown2.out))
        have P1 := hide (P0.out.next ((Own.refl wp _).step (n := F.length + 1) (cap := c1) _ rfl hgrow (by rw [hwps]; exact hat)))
        have O1 : Hid (w1.ownsRow w.heap.size 5 1 (.slice (some ⟨g1, 0, none⟩) (F.length + 1) c1) (F ++ [38]).length ((F ++ [38]).map B)) := by
          show w1.ownsRow _ _ _ _ _ _
          rw [List.length_append, List.map_append]; exact hown'
        clear hown' hgrow hat
        have d0 := P1.out.c0
        go_wp2_with fail
        refine (appendEscaped_any w.heap.size _ ((F ++ [38])) p.1 true _ O1.out X1.out.size HT.out.lt (HT.out.below X1.out (Nat.le_refl _)) (by first | omega | (simp only [List.length_append, List.length_cons, List.length_nil]; omega))).mono ?_
        rintro x w2 ⟨v2, rfl, hown', hb', how'⟩
        have X2 := hide (X1.out.trans hb')
        have O2 := hide hown'
        have P2 := hide (P1.out.next how')
        clear hown' hb' how' d0
        have hL2 : ((F ++ [38]) ++ Pct.esc true p.1.data.toList).length ≤ 3 * tot (l.take k) + 1 + 3 * p.1.size := by simp [List.length_append]; omega
        generalize hLA : (F ++ [38]) ++ Pct.esc true p.1.data.toList = LA at *
        go_wp2_with (at_builtin; refine wpList_append_lies _ rfl _ _ 52 rfl w.heap.size 5 i0 (.int .u8 0) 1 1 Tryd.underlying52 hi hz0 hz1 hz2 rfl (by decide) _ _ _ rfl (O2.out.alloc _) ⟨w2.heap.size, 0, none⟩ 1 1 [_] rfl rfl (cell_one_new _ _ _) ?c2 (by decide) ?c3 ?c4 ?c5 (w2.heap.size + 1) (by simp) ?_)
        case c2 => first | rfl | (intro u hu; simp at hu; subst hu; rfl)
        case c3 => unfold maxLen; omega
        case c4 => omega
        case c5 => have := X2.out.size; first | omega | (simp; omega)
        intro g3 c3 w3 hown' hgrow hat _
        have X3 := hide ((X2.out.alloc X2.out.size _).grown hgrow (by have := X2.out.size; simp; omega) (own_ge O2.out))
        have P3 := hide (P2.out.next ((Own.refl w2 _).step (n := LA.length + 1) (cap := c3) _ rfl hgrow hat))
        have O3 : Hid (w3.ownsRow w.heap.size 5 1 (.slice (some ⟨g3, 0, none⟩) (LA.length + 1) c3) (LA ++ [61]).length ((LA ++ [61]).map B)) := by
          show w3.ownsRow _ _ _ _ _ _
          rw [List.length_append, List.map_append]; exact hown'
        clear hown' hgrow hat
        have d1 := P3.out.c1
        go_wp2_with fail
        refine (appendEscaped_any w.heap.size _ (LA ++ [61]) p.2 true _ O3.out X3.out.size HT.out.lt (HT.out.below X3.out (Nat.le_refl _)) (by first | omega | (simp only [List.length_append, List.length_cons, List.length_nil]; omega))).mono ?_
        rintro x w4 ⟨v4, rfl, hown', hb', how'⟩
        have X4 := hide (X3.out.trans hb')
        have O4 := hide hown'
        have P4 := hide (P3.out.next how')
        clear hown' hb' how' d1
        rw [← hLA] at O4
        have O5 : Hid (w4.ownsRow w.heap.size 5 1 v4 (Pct.form ((l.take (k + 1)).map pr)).length ((Pct.form ((l.take (k + 1)).map pr)).map B)) := by
          show w4.ownsRow _ _ _ _ _ _
          rw [HSN.out, HSEP.out]; exact O4.out
        go_wp2
        go_roundw
        case rel => exact ⟨k + 1, by omega, by go_num, O5.out, X4.out⟩
        case measure => simp [intOf]; omega
    · obtain rfl : k = l.length := by omega
      rw [List.take_length] at hown
      have hconv := conv_own hown rfl
      have H2 := hide hnx
      clear hown hnx
      go_wp2
      go_ret
      exact ⟨rfl, H2.out⟩

end Go.Proofs.YtjalggkhpnfbiaaDoor.pctw
