import Derived.Test.YtkmhhodapnlkiaaDoorFormWalks
import Derived.Test.YtkmhhodapnlkiaaDoorRefEsc
import Derived.Lib.AppendStr
namespace Go.Proofs.YtkmhhodapnlkiaaDoor.pctw
open Go.ChangeShapes Go.WideShapes Go.ChangeAt Go.RowKit Go.Proofs.YtkmhhodapnlkiaaDoor.common
open Go.Proofs.YtkmhhodapnlkiaaDoor.lst (PB Lies takeP own_below)
attribute [local go_sem ↓] Go.wp_at_zero Go.wp_at_succ

set_option maxRecDepth 100000 in
set_option maxHeartbeats 6400000 in
theorem refForm_any (v : Value) (l : List PB) (w : World) (hl : Lies w v l) (hs : 4 * tot l ≤ 140737488355328) (hn : l.length ≤ 4611686018427387904) :
    Calls Tryd.prog 11 #[v] w fun e w' => e = .returned (S (Pct.form (l.map pr))) ∧ Below w.heap.size w w' := by
  obtain ⟨i0, hi, hz0, hz1, hz2⟩ := info_parts info8
  obtain ⟨oa, ca, rfl, hca⟩ := hl
  have HA := hide hca
  clear hca
  go_enter Tryd.func11, Tryd.ntmps11
  go_wp2_with fail
  go_loopw [3, 4] (fun v i wr => ∃ k : Nat, k ≤ l.length ∧ i = .int .i64 k ∧ wr.ownsRow w.heap.size 5 1 v (Pct.form ((l.take k).map pr)).length ((Pct.form ((l.take k).map pr)).map B) ∧ Below w.heap.size w wr) (fun _ i _ => l.length - (intOf i).toNat)
  case atStart => exact ⟨0, Nat.zero_le _, rfl, World.ownsRow_nil _ _ _ _, Below.refl _ _⟩
  case round =>
    obtain ⟨k, hk, rfl, hown, hnx⟩ := hrel
    have hsz := hnx.size
    by_cases hlt : k < l.length
    · have hki : (k : Int) < (l.length : Int) := by omega
      obtain ⟨b, o, rfl, hb, c0, c1⟩ := HA.out k hlt
      have D0 : Hid (∀ X, Below w.heap.size w X → X.cell? ⟨b, o + k * 2, none⟩ = some (.string l[k].1)) := fun X hX => (hX.cell (p := ⟨b, o + k * 2, none⟩) hb).trans c0
      have D1 : Hid (∀ X, Below w.heap.size w X → X.cell? ⟨b, o + k * 2 + 1, none⟩ = some (.string l[k].2)) := fun X hX => (hX.cell (p := ⟨b, o + k * 2 + 1, none⟩) hb).trans c1
      have HSN : Hid (Pct.form ((l.take (k + 1)).map pr) = ((Pct.form ((l.take k).map pr) ++ sep (l.take k)) ++ Pct.esc true l[k].1.data.toList ++ [61]) ++ Pct.esc true l[k].2.data.toList) := by show _ = _; rw [takeP l k hlt, form_more]
      have hfl := form_len (l.take k)
      have htl := tot_take l k hlt
      have HSK : Hid (sep (l.take k) = if k = 0 then [] else [38]) := by
        show _ = _
        unfold sep
        by_cases h0 : k = 0
        · subst h0; rw [if_pos rfl, if_pos List.take_zero]
        · rw [if_neg h0, if_neg (by intro e; rw [List.take_eq_nil_iff] at e; rcases e with e | e; exact h0 e; subst e; simp at hlt)]
      clear c0 c1
      generalize l[k] = p at *
      have he1 := (Pct.esc_len true p.1.data.toList).2
      have he2 := (Pct.esc_len true p.2.data.toList).2
      rw [len_list] at he1 he2
      generalize hF : Pct.form ((l.take k).map pr) = F at *
      have O0 := hide hown
      have X0 := hide hnx
      clear hown hnx
      have k0 : (0 : Int) ≤ (k : Int) := Int.natCast_nonneg _
      by_cases h0 : k = 0
      · have HSEP : Hid (F ++ sep (l.take k) = F) := by show _ = _; rw [HSK.out, if_pos h0, List.append_nil]
        have d0' : wr.cell? ⟨b, o, none⟩ = some (.string p.1) := by simpa [h0] using D0.out wr X0.out
        go_wp2_with fail
        refine (refEscape_any p.1 true _ (by omega)).mono ?_
        rintro x wa ⟨rfl, hb'⟩
        have XA := hide (X0.out.trans (hb'.mono X0.out.size))
        have OA := hide (own_below O0.out hb')
        obtain ⟨Y, hY⟩ : ∃ Y : ByteArray, (⟨(Pct.esc true p.1.data.toList).toArray⟩ : ByteArray) = Y := ⟨_, rfl⟩
        rw [show S (Pct.esc true p.1.data.toList) = .string Y from congrArg Value.string hY]
        have HY : Hid (Y.data.toList = Pct.esc true p.1.data.toList) := by show _ = _; rw [← hY]
        have hYs : Y.size ≤ 3 * p.1.size := by rw [← len_list, HY.out]; have := (Pct.esc_len true p.1.data.toList).2; rw [len_list] at this; exact this
        clear hY hb'
        have d1' : wa.cell? ⟨b, o + 1, none⟩ = some (.string p.2) := by simpa [h0] using D1.out wa XA.out
        go_wp2_with fail
        refine (refEscape_any p.2 true _ (by omega)).mono ?_
        rintro x wb ⟨rfl, hb'⟩
        have XB := hide (XA.out.trans (hb'.mono XA.out.size))
        have OB := hide (own_below OA.out hb')
        obtain ⟨Z, hZ⟩ : ∃ Y : ByteArray, (⟨(Pct.esc true p.2.data.toList).toArray⟩ : ByteArray) = Y := ⟨_, rfl⟩
        rw [show S (Pct.esc true p.2.data.toList) = .string Z from congrArg Value.string hZ]
        have HZ : Hid (Z.data.toList = Pct.esc true p.2.data.toList) := by show _ = _; rw [← hZ]
        have hZs : Z.size ≤ 3 * p.2.size := by rw [← len_list, HZ.out]; have := (Pct.esc_len true p.2.data.toList).2; rw [len_list] at this; exact this
        clear hZ hb'
        clear d0' d1'
        have hL1 : (F).length ≤ 3 * tot (l.take k) + 1 := by first | omega | (simp only [List.length_append, List.length_cons, List.length_nil]; omega)
        generalize hLG : F = LG at *
        go_wp2_with (at_builtin; refine Lib.wpList_append_own_string _ rfl _ _ 34 9 rfl w.heap.size 5 i0 Tryd.underlying34 Tryd.underlying9 hi hz0 hz1 hz2 _ _ _ rfl OB.out Y rfl ?c3 ?c4 ?c5 ?_)
        case c3 => unfold maxLen; omega
        case c4 => omega
        case c5 => exact XB.out.size
        intro v1 w1 hown' hgrow _
        have X1 := hide (XB.out.grown hgrow XB.out.size (own_ge OB.out))
        have O1 : Hid (w1.ownsRow w.heap.size 5 1 v1 (LG ++ Y.data.toList).length ((LG ++ Y.data.toList).map B)) := by
          show w1.ownsRow _ _ _ _ _ _
          rw [List.length_append, List.map_append, len_list]; exact hown'
        clear hown' hgrow
        have hL2 : (LG ++ Y.data.toList).length ≤ 3 * tot (l.take k) + 1 + 3 * p.1.size := by rw [List.length_append, len_list]; omega
        generalize hLA : LG ++ Y.data.toList = LA at *
        go_wp2_with (at_builtin; refine wpList_append_own _ rfl _ _ 34 rfl w.heap.size 5 i0 (.int .u8 0) 1 1 Tryd.underlying34 hi hz0 hz1 hz2 rfl (by decide) _ _ _ rfl (O1.out.alloc _) ⟨w1.heap.size, 0, none⟩ 1 1 [_] rfl rfl (cell_one_new _ _ _) ?c2 ?c3 ?c4 ?c5 ?_)
        case c2 => first | rfl | (intro u hu; simp at hu; subst hu; rfl)
        case c3 => unfold maxLen; omega
        case c4 => omega
        case c5 => have := X1.out.size; first | omega | (simp; omega)
        intro v2 w2 hown' hgrow _
        have X2 := hide ((X1.out.alloc X1.out.size _).grown hgrow (by have := X1.out.size; simp; omega) (own_ge O1.out))
        have O2 : Hid (w2.ownsRow w.heap.size 5 1 v2 (LA ++ [61]).length ((LA ++ [61]).map B)) := by
          show w2.ownsRow _ _ _ _ _ _
          rw [List.length_append, List.map_append]; exact hown'
        clear hown' hgrow
        have hL3 : (LA ++ [61]).length ≤ 3 * tot (l.take k) + 2 + 3 * p.1.size := by rw [List.length_append]; simp; omega
        generalize hLB : LA ++ [61] = LB at *
        go_wp2_with (at_builtin; refine Lib.wpList_append_own_string _ rfl _ _ 34 9 rfl w.heap.size 5 i0 Tryd.underlying34 Tryd.underlying9 hi hz0 hz1 hz2 _ _ _ rfl O2.out Z rfl ?c3 ?c4 ?c5 ?_)
        case c3 => unfold maxLen; omega
        case c4 => omega
        case c5 => exact X2.out.size
        intro v3 w3 hown' hgrow _
        have X3 := hide (X2.out.grown hgrow X2.out.size (own_ge O2.out))
        have O3 : Hid (w3.ownsRow w.heap.size 5 1 v3 (LB ++ Z.data.toList).length ((LB ++ Z.data.toList).map B)) := by
          show w3.ownsRow _ _ _ _ _ _
          rw [List.length_append, List.map_append, len_list]; exact hown'
        clear hown' hgrow
        have O5 : Hid (w3.ownsRow w.heap.size 5 1 v3 (Pct.form ((l.take (k + 1)).map pr)).length ((Pct.form ((l.take (k + 1)).map pr)).map B)) := by
          show w3.ownsRow _ _ _ _ _ _
          rw [HSN.out, HSEP.out, ← HY.out, ← HZ.out, hLA, hLB]; exact O3.out
        go_wp2
        go_roundw
        case rel => exact ⟨k + 1, by omega, by first | go_num | (rw [h0]; rfl), O5.out, X3.out⟩
        case measure => simp [intOf]; omega
      · have HSEP : Hid (F ++ sep (l.take k) = F ++ [38]) := by show _ = _; rw [HSK.out, if_neg h0]
        have hk0 : (0 : Int) < (k : Int) := by omega
        go_wp2_with (at_builtin; refine wpList_append_own _ rfl _ _ 34 rfl w.heap.size 5 i0 (.int .u8 0) 1 1 Tryd.underlying34 hi hz0 hz1 hz2 rfl (by decide) _ _ _ rfl (O0.out.alloc _) ⟨wr.heap.size, 0, none⟩ 1 1 [_] rfl rfl (cell_one_new _ _ _) ?c2 ?c3 ?c4 ?c5 ?_)
        case c2 => first | rfl | (intro u hu; simp at hu; subst hu; rfl)
        case c3 => unfold maxLen; omega
        case c4 => omega
        case c5 => have := X0.out.size; first | omega | (simp; omega)
        intro v0 w0 hown' hgrow _
        have X9 := hide ((X0.out.alloc X0.out.size _).grown hgrow (by have := X0.out.size; simp; omega) (own_ge O0.out))
        have O9 : Hid (w0.ownsRow w.heap.size 5 1 v0 (F ++ [38]).length ((F ++ [38]).map B)) := by
          show w0.ownsRow _ _ _ _ _ _
          rw [List.length_append, List.map_append]; exact hown'
        clear hown' hgrow
        have d0' := D0.out w0 X9.out
        go_wp2_with fail
        refine (refEscape_any p.1 true _ (by omega)).mono ?_
        rintro x wa ⟨rfl, hb'⟩
        have XA := hide (X9.out.trans (hb'.mono X9.out.size))
        have OA := hide (own_below O9.out hb')
        obtain ⟨Y, hY⟩ : ∃ Y : ByteArray, (⟨(Pct.esc true p.1.data.toList).toArray⟩ : ByteArray) = Y := ⟨_, rfl⟩
        rw [show S (Pct.esc true p.1.data.toList) = .string Y from congrArg Value.string hY]
        have HY : Hid (Y.data.toList = Pct.esc true p.1.data.toList) := by show _ = _; rw [← hY]
        have hYs : Y.size ≤ 3 * p.1.size := by rw [← len_list, HY.out]; have := (Pct.esc_len true p.1.data.toList).2; rw [len_list] at this; exact this
        clear hY hb'
        have d1' := D1.out wa XA.out
        go_wp2_with fail
        refine (refEscape_any p.2 true _ (by omega)).mono ?_
        rintro x wb ⟨rfl, hb'⟩
        have XB := hide (XA.out.trans (hb'.mono XA.out.size))
        have OB := hide (own_below OA.out hb')
        obtain ⟨Z, hZ⟩ : ∃ Y : ByteArray, (⟨(Pct.esc true p.2.data.toList).toArray⟩ : ByteArray) = Y := ⟨_, rfl⟩
        rw [show S (Pct.esc true p.2.data.toList) = .string Z from congrArg Value.string hZ]
        have HZ : Hid (Z.data.toList = Pct.esc true p.2.data.toList) := by show _ = _; rw [← hZ]
        have hZs : Z.size ≤ 3 * p.2.size := by rw [← len_list, HZ.out]; have := (Pct.esc_len true p.2.data.toList).2; rw [len_list] at this; exact this
        clear hZ hb'
        clear d0' d1'
        have hL1 : (F ++ [38]).length ≤ 3 * tot (l.take k) + 1 := by first | omega | (simp only [List.length_append, List.length_cons, List.length_nil]; omega)
        generalize hLG : F ++ [38] = LG at *
        go_wp2_with (at_builtin; refine Lib.wpList_append_own_string _ rfl _ _ 34 9 rfl w.heap.size 5 i0 Tryd.underlying34 Tryd.underlying9 hi hz0 hz1 hz2 _ _ _ rfl OB.out Y rfl ?c3 ?c4 ?c5 ?_)
        case c3 => unfold maxLen; omega
        case c4 => omega
        case c5 => exact XB.out.size
        intro v1 w1 hown' hgrow _
        have X1 := hide (XB.out.grown hgrow XB.out.size (own_ge OB.out))
        have O1 : Hid (w1.ownsRow w.heap.size 5 1 v1 (LG ++ Y.data.toList).length ((LG ++ Y.data.toList).map B)) := by
          show w1.ownsRow _ _ _ _ _ _
          rw [List.length_append, List.map_append, len_list]; exact hown'
        clear hown' hgrow
        have hL2 : (LG ++ Y.data.toList).length ≤ 3 * tot (l.take k) + 1 + 3 * p.1.size := by rw [List.length_append, len_list]; omega
        generalize hLA : LG ++ Y.data.toList = LA at *
        go_wp2_with (at_builtin; refine wpList_append_own _ rfl _ _ 34 rfl w.heap.size 5 i0 (.int .u8 0) 1 1 Tryd.underlying34 hi hz0 hz1 hz2 rfl (by decide) _ _ _ rfl (O1.out.alloc _) ⟨w1.heap.size, 0, none⟩ 1 1 [_] rfl rfl (cell_one_new _ _ _) ?c2 ?c3 ?c4 ?c5 ?_)
        case c2 => first | rfl | (intro u hu; simp at hu; subst hu; rfl)
        case c3 => unfold maxLen; omega
        case c4 => omega
        case c5 => have := X1.out.size; first | omega | (simp; omega)
        intro v2 w2 hown' hgrow _
        have X2 := hide ((X1.out.alloc X1.out.size _).grown hgrow (by have := X1.out.size; simp; omega) (own_ge O1.out))
        have O2 : Hid (w2.ownsRow w.heap.size 5 1 v2 (LA ++ [61]).length ((LA ++ [61]).map B)) := by
          show w2.ownsRow _ _ _ _ _ _
          rw [List.length_append, List.map_append]; exact hown'
        clear hown' hgrow
        have hL3 : (LA ++ [61]).length ≤ 3 * tot (l.take k) + 2 + 3 * p.1.size := by rw [List.length_append]; simp; omega
        generalize hLB : LA ++ [61] = LB at *
        go_wp2_with (at_builtin; refine Lib.wpList_append_own_string _ rfl _ _ 34 9 rfl w.heap.size 5 i0 Tryd.underlying34 Tryd.underlying9 hi hz0 hz1 hz2 _ _ _ rfl O2.out Z rfl ?c3 ?c4 ?c5 ?_)
        case c3 => unfold maxLen; omega
        case c4 => omega
        case c5 => exact X2.out.size
        intro v3 w3 hown' hgrow _
        have X3 := hide (X2.out.grown hgrow X2.out.size (own_ge O2.out))
        have O3 : Hid (w3.ownsRow w.heap.size 5 1 v3 (LB ++ Z.data.toList).length ((LB ++ Z.data.toList).map B)) := by
          show w3.ownsRow _ _ _ _ _ _
          rw [List.length_append, List.map_append, len_list]; exact hown'
        clear hown' hgrow
        have O5 : Hid (w3.ownsRow w.heap.size 5 1 v3 (Pct.form ((l.take (k + 1)).map pr)).length ((Pct.form ((l.take (k + 1)).map pr)).map B)) := by
          show w3.ownsRow _ _ _ _ _ _
          rw [HSN.out, HSEP.out, ← HY.out, ← HZ.out, hLA, hLB]; exact O3.out
        go_wp2
        go_roundw
        case rel => exact ⟨k + 1, by omega, by first | go_num | (rw [h0]; rfl), O5.out, X3.out⟩
        case measure => simp [intOf]; omega
    · obtain rfl : k = l.length := by omega
      rw [List.take_length] at hown
      have hconv := conv_own hown rfl
      have H2 := hide hnx
      clear hown hnx
      go_wp2
      go_ret
      exact ⟨rfl, H2.out⟩

end Go.Proofs.YtkmhhodapnlkiaaDoor.pctw
