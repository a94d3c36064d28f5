import Derived.Test.YticncaoecoehkaaDoorWlEq
import Derived.BigQuiet
namespace Go.Proofs.YticncaoecoehkaaDoor.wl
open Go.ChangeShapes Go.WideShapes Go.ChangeAt Go.RowKit Go.Proofs.YticncaoecoehkaaDoor.common Go.Proofs.YticncaoecoehkaaDoor.dk

/-- bytes that can be read, in a slice whose room holds them -/
def Rc (w : World) (v : Value) (l : List UInt8) : Prop := ∃ oa cap, v = .slice oa l.length cap ∧ l.length ≤ cap ∧ (0 < l.length → ∃ g o, oa = some ⟨g, o, none⟩ ∧ g < w.heap.size ∧ w.rangeAt g o (l.map B))
theorem Rc.rd {w : World} {v : Value} {l : List UInt8} (h : Rc w v l) : Rd w v l := by
  obtain ⟨oa, cap, h1, _, h3⟩ := h
  exact ⟨oa, cap, h1, h3⟩
theorem Rc.below {w w' : World} {v : Value} {l : List UInt8} (h : Rc w v l) (hb : Below w.heap.size w w') : Rc w' v l := by
  obtain ⟨oa, cap, rfl, hc, h⟩ := h
  refine ⟨oa, cap, rfl, hc, fun hl => ?_⟩
  obtain ⟨g, o, rfl, hg, hr⟩ := h hl
  exact ⟨g, o, rfl, Nat.lt_of_lt_of_le hg hb.size, range_block hr (hb.block g hg)⟩
theorem rc_own {w : World} {base : Nat} {v : Value} {l : List UInt8} (h : w.ownsRow base 5 1 v l.length (l.map B)) : Rc w v l := by
  obtain ⟨oa, cap, e, hr⟩ := rd_own h
  refine ⟨oa, cap, e, ?_, hr⟩
  rcases h.2 with ⟨h1, h0⟩ | ⟨g, cap', cur, h1, _, hc, h2, _, h3, h4⟩
  · omega
  · rw [h1] at e
    injection e with _ _ e3
    omega
theorem head8 (l : List UInt8) (h : 8 ≤ l.length) : ∃ a0 a1 a2 a3 a4 a5 a6 a7 t, l = [a0, a1, a2, a3, a4, a5, a6, a7] ++ t := by
  match l, h with
  | a0 :: a1 :: a2 :: a3 :: a4 :: a5 :: a6 :: a7 :: t, _ => exact ⟨a0, a1, a2, a3, a4, a5, a6, a7, t, rfl⟩
theorem arr_at (a : Option Addr) (cap : Nat) (W : World) : (Instr.arrayAt 98 (.slice a 8 cap)).run Tryd.prog W = .ok (.pointer a) W := by
  simp [Instr.arrayAt, run_underlying Tryd.underlying98]
/-- copy of the head of bytes that can be read -/
theorem copy_head (W : World) (g o n dCap : Nat) (v : Value) (t : List UInt8) (hr : Rc W v t) (hn : n ≤ t.length) (hn0 : 0 < n) (ht : W.there g o n) :
    (Builtin.copy_ #[22, 22] 3 #[.slice (some ⟨g, o, none⟩) n dCap, v]).run Tryd.prog W = .ok (goInt n) (W.setCells g o ((t.take n).map B)) := by
  obtain ⟨oa, cap, rfl, _, hr⟩ := hr
  obtain ⟨g', o', rfl, _, hr⟩ := hr (by omega)
  have hl : ((t.take n).map B).length = n := by rw [List.length_map, List.length_take]; omega
  have := run_copy_cells (P := Tryd.prog) W 22 22 3 5 g o n dCap ⟨g', o', none⟩ t.length cap ((t.take n).map B) Tryd.underlying22 size8 (by rw [hl]; exact (Nat.min_eq_right hn).symm) (fun j u hu => by
      rw [Addr.add_mid]
      refine hr j u ?_
      rw [List.map_take, List.getElem?_take] at hu
      split at hu
      · exact hu
      · cases hu) (fun j hj => (ht j (by omega)).1) (fun j hj => (ht j (by omega)).2) (fun v hv => by obtain ⟨x, _, rfl⟩ := List.mem_map.1 hv; rfl)
  rw [hl] at this
  exact this
/-- what first answers -/
def fiL (l : List UInt8) : List UInt8 := (Wl.first l).getD []
def fiB (l : List UInt8) : Bool := (Wl.first l).isSome

set_option maxRecDepth 100000 in
set_option maxHeartbeats 1600000 in
theorem first_any (w : World) (v : Value) (l : List UInt8) (h : Rc w v l) (hl : l.length ≤ 4611686018427387904) (ht : crcw.Tab w) :
    Calls Tryd.prog 47 #[v] w fun e w' => ∃ v', e = .returned (.tuple #[v', .bool (fiB l)]) ∧ (fiB l = false → v' = .slice none 0 0) ∧ (fiB l = true → ∃ g, w.heap.size ≤ g ∧ v' = .slice (some ⟨g, 0, none⟩) (fiL l).length (fiL l).length ∧ Nw w' g (fiL l)) ∧ Below w.heap.size w w' := by
  have HR := hide h
  obtain ⟨oa, cap, rfl, hcap, hrg⟩ := h
  by_cases h8 : l.length < 8
  · have e0 : Wl.first l = none := by unfold Wl.first; rw [if_neg (fun hc => by omega)]
    have e1 : fiL l = [] := by unfold fiL; rw [e0]; rfl
    have e2 : fiB l = false := by unfold fiB; rw [e0]; rfl
    rw [e1, e2]
    go_enter Tryd.func47, Tryd.ntmps47
    go_wp2
    go_ret2
    exact ⟨_, rfl, fun _ => rfl, fun h => (by cases h), Below.refl _ _⟩
  · obtain ⟨a0, a1, a2, a3, a4, a5, a6, a7, t, hL⟩ := head8 l (by omega)
    obtain ⟨g, o, rfl, hg, hr⟩ := hrg (by omega)
    have cc : ∀ j (hj : j < 8), w.cell? ⟨g, o + j, none⟩ = some (B ([a0, a1, a2, a3, a4, a5, a6, a7][j])) := fun j hj => hr j _ (by
      rw [hL, List.map_append, List.getElem?_append_left (by simpa using hj), List.getElem?_map, List.getElem?_eq_getElem (by simpa using hj)]; rfl)
    have c0 := cc 0 (by decide)
    have c1 := cc 1 (by decide)
    have c2 := cc 2 (by decide)
    have c3 := cc 3 (by decide)
    have c4 := cc 4 (by decide)
    have c5 := cc 5 (by decide)
    have c6 := cc 6 (by decide)
    have c7 := cc 7 (by decide)
    have hLt : l.length = 8 + t.length := by rw [hL]; simp; omega
    have HL := hide hL
    clear hL cc hr
    simp only [List.getElem_cons_zero, List.getElem_cons_succ, Nat.add_zero] at c0 c1 c2 c3 c4 c5 c6 c7
    have b8 : (8 : Int) ≤ (l.length : Int) := by omega
    have b9 : (8 : Int) ≤ (cap : Int) := by omega
    have har := arr_at (some ⟨g, o, none⟩) cap
    have hgn : ¬ g = w.heap.size := by omega
    go_enter Tryd.func47, Tryd.ntmps47
    go_wp2_with fail
    go_region
    obtain ⟨OA, hOA⟩ : ∃ OA, OA = (if cap = 8 then some (⟨g, o, none⟩ : Addr) else some ⟨g, o + 8, none⟩) := ⟨_, rfl⟩
    rw [← hOA]
    obtain ⟨W1, hW1⟩ : ∃ W1, W1 = (w.alloc (.cells #[B a0, B a1, B a2, B a3, B a4, B a5, B a6, B a7] 98)).drew := ⟨_, rfl⟩
    rw [← hW1]
    have hh : W1.heap[w.heap.size]? = some (.cells #[B a0, B a1, B a2, B a3, B a4, B a5, B a6, B a7] 98) := by rw [hW1]; exact heap_alloc_new _ _
    have hb1 : Below w.heap.size w W1 := by rw [hW1]; exact ((Below.refl _ _).alloc (Nat.le_refl _) _).drew
    have hRT : Rc w (.slice OA t.length (cap - 8)) t := ⟨OA, cap - 8, rfl, by omega, fun h0 => ⟨g, o + 8, by rw [hOA, if_neg (by omega)], hg, fun j u hu => by
      have hr := HR.out
      obtain ⟨_, _, e, _, hr⟩ := hr
      cases e
      obtain ⟨_, _, e, _, hr⟩ := hr (by omega)
      cases e
      have := hr (8 + j) u (by rw [HL.out, List.map_append, List.getElem?_append_right (by simp)]; simpa using hu)
      rwa [← Nat.add_assoc] at this⟩⟩
    have HRT := hide (hRT.below hb1)
    have HB1 := hide hb1
    have HH := hide hh
    have d0 : W1.cell? ⟨w.heap.size, 0, none⟩ = some (B a0) := cell_of hh 0
    have d1 : W1.cell? ⟨w.heap.size, 1, none⟩ = some (B a1) := cell_of hh 1
    have d2 : W1.cell? ⟨w.heap.size, 2, none⟩ = some (B a2) := cell_of hh 2
    have d3 : W1.cell? ⟨w.heap.size, 3, none⟩ = some (B a3) := cell_of hh 3
    have d4 : W1.cell? ⟨w.heap.size, 4, none⟩ = some (B a4) := cell_of hh 4
    have d5 : W1.cell? ⟨w.heap.size, 5, none⟩ = some (B a5) := cell_of hh 5
    have d6 : W1.cell? ⟨w.heap.size, 6, none⟩ = some (B a6) := cell_of hh 6
    have d7 : W1.cell? ⟨w.heap.size, 7, none⟩ = some (B a7) := cell_of hh 7
    have HLT := hide hLt
    clear c0 c1 c2 c3 c4 c5 c6 c7 hh hb1 hRT hOA hW1 har HR hg hgn
    go_wp2_with fail
    refine (length_any W1 a0 a1 a2 a3 a4 a5 a6 a7).mono ?_
    rintro r w2 ⟨rfl, b2⟩
    obtain ⟨n, hn⟩ : ∃ n, n = Wl.val4 [a0, a1, a2, a3] := ⟨_, rfl⟩
    rw [← hn]
    have hnL : Wl.val4 l = n := by rw [HL.out, hn]; rfl
    have hn32 : n < 4294967296 := by
      have := a0.toNat_lt; have := a1.toNat_lt; have := a2.toNat_lt; have := a3.toNat_lt
      rw [hn]
      show a0.toNat * 16777216 + a1.toNat * 65536 + a2.toNat * 256 + a3.toNat < _
      omega
    have HNL := hide hnL
    have HB2 := hide (keepD HB1.out b2)
    have HRT2 := hide (HRT.out.below b2)
    have HH2 := hide ((b2.block _ (Array.getElem?_eq_some_iff.1 HH.out).1).trans HH.out)
    clear d0 d1 d2 d3 d4 d5 d6 d7 hn hnL b2 HH HB1 HRT
    have HF : Hid (∀ Y, Calls Tryd.prog 64 #[.int .i64 (n : Int)] Y fun e w' => e = .returned (.bool (Wl.fit n)) ∧ w' = Y) := fun Y => fits_any n Y (by omega)
    cases hf : Wl.fit n with
    | false =>
      have e0 : Wl.first l = none := by unfold Wl.first; rw [if_neg (fun hc => by rw [HNL.out, hf] at hc; exact absurd hc.2.1 (by decide))]
      have e1 : fiL l = [] := by unfold fiL; rw [e0]; rfl
      have e2 : fiB l = false := by unfold fiB; rw [e0]; rfl
      rw [hf] at HF
      go_wp2_with fail
      go_quiet ((go_at_call 64; exact Calls.quiet_of_same (HF.out _)))
      go_wp2
      go_ret2
      rw [e1, e2]
      exact ⟨_, rfl, fun _ => rfl, fun h => (by cases h), HB2.out.trans ((Fr.refl [] w2 |>.drewN _).below (fun k hk => by cases hk) HB2.out.size)⟩
    | true =>
      rw [hf] at HF
      have hnf := (Wl.fit_iff _).1 hf
      by_cases hnt : n ≤ t.length
      · obtain ⟨p, hp⟩ : ∃ p, p = t.take n := ⟨_, rfl⟩
        have hpl : p.length = n := by rw [hp, List.length_take]; omega
        obtain ⟨A, hA⟩ : ∃ A, A = ((Wl.hd p).map B).toArray := ⟨_, rfl⟩
        have HRP : Hid (Rd w2 (.slice OA n (cap - 8)) p) := by
          obtain ⟨oa', c', e, _, hr⟩ := HRT2.out
          cases e
          rw [hp]
          refine ⟨OA, cap - 8, by rw [← hp, hpl], fun h0 => ?_⟩
          obtain ⟨g', o', e, hg', hr'⟩ := hr (by omega)
          refine ⟨g', o', e, hg', fun j u hu => hr' j u ?_⟩
          rw [List.map_take, List.getElem?_take] at hu
          split at hu
          · exact hu
          · cases hu
        obtain ⟨D, hD⟩ : ∃ D, D = decide ([a0, a1, a2, a3, a4, a5, a6, a7] = Wl.hd p) := ⟨_, rfl⟩
        have hq : ∀ W, (Op.equalIn 10000 98 (.agg #[B a0, B a1, B a2, B a3, B a4, B a5, B a6, B a7]) (.agg A)).run Tryd.prog W = .ok D W := fun W => by
          rw [hA, hD]
          exact eqh [a0, a1, a2, a3, a4, a5, a6, a7] (Wl.hd p) rfl (Wl.hd_len p) W
        have HTB : Hid (∀ Y, Below w2.heap.size w2 Y → Calls Tryd.prog 65 #[.slice OA n (cap - 8)] Y fun e w' => e = .returned (.agg A) ∧ Below Y.heap.size Y w') := fun Y hY => by
          rw [hA]
          exact headOf_any Y _ p (HRP.out.below hY) (by omega) ((ht.below HB2.out ht.lt).below hY (Nat.lt_of_lt_of_le ht.lt HB2.out.size))
        have q1 : decide ((t.length : Int) < (n : Int)) = false := by rw [decide_eq_false_iff_not]; omega
        have q1' : decide (t.length < n) = false := by rw [decide_eq_false_iff_not]; omega
        have q2 : (n : Int) ≤ (t.length : Int) := by omega
        have q3 : (n : Int) ≤ ((cap - 8 : Nat) : Int) := by
          obtain ⟨oa', c', e, hc, hr⟩ := HRT2.out
          cases e
          omega
        have q4 : n ≤ cap - 8 := by omega
        have HHY : Hid (∀ Y, Below w2.heap.size w2 Y → Y.heap[w.heap.size]? = some (.cells #[B a0, B a1, B a2, B a3, B a4, B a5, B a6, B a7] 98)) := fun Y hY => (hY.block _ (Array.getElem?_eq_some_iff.1 HH2.out).1).trans HH2.out
        have k0 : ∀ Y, Below w2.heap.size w2 Y → Y.cell? ⟨w.heap.size, 0, none⟩ = some (B a0) := fun Y hY => cell_of (HHY.out Y hY) 0
        have k1 : ∀ Y, Below w2.heap.size w2 Y → Y.cell? ⟨w.heap.size, 1, none⟩ = some (B a1) := fun Y hY => cell_of (HHY.out Y hY) 1
        have k2 : ∀ Y, Below w2.heap.size w2 Y → Y.cell? ⟨w.heap.size, 2, none⟩ = some (B a2) := fun Y hY => cell_of (HHY.out Y hY) 2
        have k3 : ∀ Y, Below w2.heap.size w2 Y → Y.cell? ⟨w.heap.size, 3, none⟩ = some (B a3) := fun Y hY => cell_of (HHY.out Y hY) 3
        have k4 : ∀ Y, Below w2.heap.size w2 Y → Y.cell? ⟨w.heap.size, 4, none⟩ = some (B a4) := fun Y hY => cell_of (HHY.out Y hY) 4
        have k5 : ∀ Y, Below w2.heap.size w2 Y → Y.cell? ⟨w.heap.size, 5, none⟩ = some (B a5) := fun Y hY => cell_of (HHY.out Y hY) 5
        have k6 : ∀ Y, Below w2.heap.size w2 Y → Y.cell? ⟨w.heap.size, 6, none⟩ = some (B a6) := fun Y hY => cell_of (HHY.out Y hY) 6
        have k7 : ∀ Y, Below w2.heap.size w2 Y → Y.cell? ⟨w.heap.size, 7, none⟩ = some (B a7) := fun Y hY => cell_of (HHY.out Y hY) 7
        have HP := hide hp
        have HPL := hide hpl
        have HD := hide hD
        have HHf := hide hf
        clear hA hp hpl hD hf
        go_wp2_with fail
        go_region_held3 (fun Y => Below w2.heap.size w2 Y)
          (first
            | exact Below.refl _ _
            | assumption
            | exact keepD (by assumption) (by assumption)
            | exact Below.drew (by assumption)
            | exact (Below.refl _ _).drew)
          (first
            | (go_at_call 64; with_reducible refine (HF.out _).mono ?_; rintro x w5 ⟨rfl, rfl⟩)
            | (go_at_call 65; with_reducible refine (HTB.out _ (by assumption)).mono ?_; rintro x w6 ⟨rfl, b6⟩))
        have hb6 : Below w2.heap.size w2 w6 := by assumption
        have HB6 : Hid (Below w.heap.size w w6) := HB2.out.trans (hb6.mono HB2.out.size)
        have HRT6 := hide (HRT2.out.below hb6)
        have ht8 : l.take 8 = [a0, a1, a2, a3, a4, a5, a6, a7] := by rw [HL.out]; rfl
        have hd8 : l.drop 8 = t := by rw [HL.out]; rfl
        have HE : Hid (Wl.first l = if D = true then some p else none) := by
          show _ = _
          unfold Wl.first
          rw [HNL.out, hd8, ht8, ← HP.out, HLT.out]
          by_cases hD : D = true
          · have hD' := HD.out
            rw [hD] at hD'
            rw [if_pos hD, if_pos ⟨by omega, HHf.out, by omega, of_decide_eq_true hD'.symm⟩]
          · have hD' := HD.out
            rw [if_neg hD, if_neg (fun hc => hD (by rw [hD']; exact decide_eq_true hc.2.2.2))]
        clear hb6 b6 ht8 hd8 k0 k1 k2 k3 k4 k5 k6 k7 HHY HTB hq HF HD HH2 HRT2 HB2 HRP
        cases D with
        | false =>
          have e1 : fiL l = [] := by unfold fiL; rw [HE.out]; rfl
          have e2 : fiB l = false := by unfold fiB; rw [HE.out]; rfl
          clear HE
          go_wp2
          go_ret2
          rw [e1, e2]
          exact ⟨_, rfl, fun _ => rfl, fun h => (by cases h), HB6.out⟩
        | true =>
          have e1 : fiL l = p := by unfold fiL; rw [HE.out]; rfl
          have e2 : fiB l = true := by unfold fiB; rw [HE.out]; rfl
          have HE1 := hide e1
          have HE2 := hide e2
          obtain ⟨i0, hi, hz0, hz1, hz2⟩ := info_parts info8
          obtain ⟨W7, hW7⟩ : ∃ W7, w6.alloc (.cells (madeCells #[.int .u8 0] n) 5) = W7 := ⟨_, rfl⟩
          have q7 : W7.heap[w6.heap.size]? = some (.cells (madeCells #[.int .u8 0] n).toList.toArray 5 (0, 0)) := by rw [← hW7]; exact heap_alloc_new _ _
          have b7 : Below w6.heap.size w6 W7 := by rw [← hW7]; exact (Below.refl _ _).alloc (Nat.le_refl _) _
          have k1 := copy_head W7 w6.heap.size 0 n n _ t (HRT6.out.below b7) hnt (by omega) (there_of q7 0 _ (by rw [made_len]; omega))
          rw [← HP.out] at k1
          have q8 := sets_here q7 (p.map B) 0 (by rw [List.length_map, HPL.out, made_len]; omega)
          obtain ⟨W8, hW8⟩ : ∃ W8, W7.setCells w6.heap.size 0 (p.map B) = W8 := ⟨_, rfl⟩
          rw [hW8] at k1
          rw [hW8, List.take_zero, List.nil_append, List.drop_eq_nil_of_le (by rw [List.length_map, HPL.out, made_len]; omega), List.append_nil] at q8
          have HQ8 : Hid (Nw W8 w6.heap.size p) := q8
          have HB8 : Hid (Below w.heap.size w W8) := by
            show Below _ _ _
            rw [← hW8]
            exact (HB6.out.trans (b7.mono HB6.out.size)).trans (((Fr.refl [w6.heap.size] W7).sets w6.heap.size 0 _ (Or.inl (by simp))).below (fun k hk => by have := HB6.out.size; simp at hk; omega) (by have := HB6.out.size; have := b7.size; omega))
          have hnb : n ≤ 8192 := hnf.2
          clear e1 e2 HE q7 q8 b7 HRT6 hW8
          go_wp2_with (refine wpList_make_row _ rfl _ _ 22 rfl 5 i0 (.int .u8 0) Tryd.underlying22 hi hz0 hz1 rfl .i64 .i64 n ?c1 ?c2 ?c3 ?c4 ?_)
          case c1 => rfl
          case c2 => rfl
          case c3 => rw [hz2]; omega
          case c4 => omega
          go_ret2
          rw [HE1.out, HE2.out]
          refine ⟨.slice (some ⟨w6.heap.size, 0, none⟩) n n, rfl, fun h => (by cases h), fun _ => ⟨_, HB6.out.size, ?_, HQ8.out⟩, HB8.out⟩
          rw [HPL.out]
      · have e0 : Wl.first l = none := by unfold Wl.first; rw [if_neg (fun hc => by rw [HNL.out, HLT.out] at hc; exact absurd hc.2.2.1 (by omega))]
        have e1 : fiL l = [] := by unfold fiL; rw [e0]; rfl
        have e2 : fiB l = false := by unfold fiB; rw [e0]; rfl
        have q1 : decide ((t.length : Int) < (n : Int)) = true := by rw [decide_eq_true_eq]; omega
        have q2 : (t.length : Int) < (n : Int) := by omega
        go_wp2_with fail
        go_quiet ((go_at_call 64; exact Calls.quiet_of_same (HF.out _)))
        go_wp2
        go_ret2
        rw [e1, e2]
        exact ⟨_, rfl, fun _ => rfl, fun h => (by cases h), HB2.out.trans ((Fr.refl [] w2 |>.drewN _).below (fun k hk => by cases hk) HB2.out.size)⟩
end Go.Proofs.YticncaoecoehkaaDoor.wl
