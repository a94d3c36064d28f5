import Derived.Test.YtbibfneofcphkaaDoorJeR3
import Derived.Test.YtbibfneofcphkaaDoorJeW4
namespace Go.Proofs.YtbibfneofcphkaaDoor.je
open Go.ChangeShapes Go.WideShapes Go.ChangeAt Go.RowKit Go.Proofs.YtbibfneofcphkaaDoor.common Go.Proofs.YtbibfneofcphkaaDoor.Jc Go.Proofs.YtbibfneofcphkaaDoor.jc
attribute [local go_sem ↓] Go.wp_at_zero Go.wp_at_succ

theorem heap21 (w : World) (A Z : Obj) : ((w.alloc A).alloc Z).heap[w.heap.size]? = some A := by
  show (Array.push _ _)[w.heap.size]? = _
  rw [Array.getElem?_push, if_neg (by rw [World.size_alloc]; omega)]; exact heap_new w _
/-- a box, a result, all below as it was -/
structure Ts (w wr : World) (a0 a1 a2 a3 a4 a5 a6 : Int) : Prop where
  box : Da wr w.heap.size a0 a1 a2 a3 a4 a5 a6
  res : Da wr (w.heap.size + 1) 0 0 0 0 0 0 0
  bel : Below w.heap.size w wr
theorem Ts.next {w wr w' : World} {a0 a1 a2 a3 a4 a5 a6 : Int} (h : Ts w wr a0 a1 a2 a3 a4 a5 a6) (k : Below wr.heap.size wr w') : Ts w w' a0 a1 a2 a3 a4 a5 a6 :=
  ⟨(k.block _ (Array.getElem?_eq_some_iff.1 h.box).1).trans h.box, (k.block _ (Array.getElem?_eq_some_iff.1 h.res).1).trans h.res, keepW h.bel k (Nat.le_of_lt (Array.getElem?_eq_some_iff.1 h.box).1)⟩
theorem Ts.froz {w wr : World} {a0 a1 a2 a3 a4 a5 a6 : Int} (h : Ts w wr a0 a1 a2 a3 a4 a5 a6) (j : Nat) : wr.frozen? ⟨w.heap.size, j, none⟩ = false := h.box.cells.1 j
theorem Ts.put3 {w wr : World} {a0 a1 a2 a3 a4 a5 a6 : Int} (h : Ts w wr a0 a1 a2 a3 a4 a5 a6) (x : Int) : Ts w (wr.setCell ⟨w.heap.size, 3, none⟩ (.int .i64 x)) a0 a1 a2 x a4 a5 a6 := ⟨h.box.put3 x, (set_else (by omega) _ _).trans h.res, h.bel.setCell (by simp) _⟩
theorem Ts.put4 {w wr : World} {a0 a1 a2 a3 a4 a5 a6 : Int} (h : Ts w wr a0 a1 a2 a3 a4 a5 a6) (x : Int) : Ts w (wr.setCell ⟨w.heap.size, 4, none⟩ (.int .i64 x)) a0 a1 a2 a3 x a5 a6 := ⟨h.box.put4 x, (set_else (by omega) _ _).trans h.res, h.bel.setCell (by simp) _⟩
theorem Ts.put5 {w wr : World} {a0 a1 a2 a3 a4 a5 a6 : Int} (h : Ts w wr a0 a1 a2 a3 a4 a5 a6) (x : Int) : Ts w (wr.setCell ⟨w.heap.size, 5, none⟩ (.int .i64 x)) a0 a1 a2 a3 a4 x a6 := ⟨h.box.put5 x, (set_else (by omega) _ _).trans h.res, h.bel.setCell (by simp) _⟩
theorem Ts.put6 {w wr : World} {a0 a1 a2 a3 a4 a5 a6 : Int} (h : Ts w wr a0 a1 a2 a3 a4 a5 a6) (x : Int) : Ts w (wr.setCell ⟨w.heap.size, 6, none⟩ (.int .i64 x)) a0 a1 a2 a3 a4 a5 x := ⟨h.box.put6 x, (set_else (by omega) _ _).trans h.res, h.bel.setCell (by simp) _⟩
theorem Da.seven {w : World} {db : Nat} {a0 a1 a2 a3 a4 a5 a6 : Int} (h : Da w db a0 a1 a2 a3 a4 a5 a6) : w.cell? ⟨db, 0, none⟩ = some (.int .i64 a0) ∧ w.cell? ⟨db, 1, none⟩ = some (.int .i64 a1) ∧ w.cell? ⟨db, 2, none⟩ = some (.int .i64 a2) ∧ w.cell? ⟨db, 3, none⟩ = some (.int .i64 a3) ∧ w.cell? ⟨db, 4, none⟩ = some (.int .i64 a4) ∧ w.cell? ⟨db, 5, none⟩ = some (.int .i64 a5) ∧ w.cell? ⟨db, 6, none⟩ = some (.int .i64 a6) := by
  unfold Da at h
  refine ⟨?_, ?_, ?_, ?_, ?_, ?_, ?_⟩ <;> (simp only [World.cell?, h]; rfl)
theorem Ts.there {w wr : World} {a0 a1 a2 a3 a4 a5 a6 : Int} (h : Ts w wr a0 a1 a2 a3 a4 a5 a6) : wr.there (w.heap.size + 1) 0 7 := by
  have k := h.res
  unfold Da at k
  exact there_of k
/-- what timed answers -/
def tmR (a b c h i s : Int) : Value := match gD a b c h i s with
  | some x => .tuple #[dv x, .int .i64 (x.sec : Int)]
  | none => .tuple #[dI a b c h i s 6, .int .i64 (-1)]
theorem seconds_all (a b c h i s : Int) : ∃ (K : Nat) (S : Int), K ≤ 7 ∧ (∀ j : Nat, j < 7 → ∀ W, RTab W → Calls Tryd.prog 19 #[dI a b c h i s (j : Int)] W fun q w' => q = .returned (if j = K then .tuple #[.int .i64 S, .int .i64 0] else .tuple #[.int .i64 0, .int .i64 1]) ∧ Below W.heap.size W w') ∧ tmR a b c h i s = if K < 7 then .tuple #[dI a b c h i s (K : Int), .int .i64 S] else .tuple #[dI a b c h i s 6, .int .i64 (-1)] := by
  cases hm : momB a b c h i s with
  | false => 
    refine ⟨7, 0, Nat.le_refl _, fun j hj W hW => ?_, ?_⟩
    · rw [if_neg (by omega)]; exact refSeconds_no1 a b c h i s _ W hW hm
    · unfold tmR gD; rw [hm]; rfl
  | true =>
    have hx := mo_of hm
    have hk : (4 + (dt a b c h i s).day) % 7 < 7 := Nat.mod_lt _ (by decide)
    refine ⟨(4 + (dt a b c h i s).day) % 7, ((dt a b c h i s).sec : Int), Nat.le_of_lt hk, fun j hj W hW => ?_, ?_⟩
    · have k := refSeconds_mo (dt a b c h i s) (j : Int) W hW hx.ok hx.y1
      rw [← hx.ea, ← hx.eb, ← hx.ec, ← hx.ed, ← hx.ee, ← hx.ef] at k
      refine k.mono fun q w' hh => ⟨?_, hh.2⟩
      rw [hh.1]
      by_cases e : j = (4 + (dt a b c h i s).day) % 7
      · rw [if_pos e, if_pos (by rw [e])]
      · rw [if_neg e, if_neg (by omega)]
    · unfold tmR gD
      rw [if_pos hm, if_pos hk]
      simp only [dv, dI, Dt.sec, Dt.day]
      rw [← hx.ea, ← hx.eb, ← hx.ec, ← hx.ed, ← hx.ee, ← hx.ef]

set_option maxRecDepth 100000 in
set_option maxHeartbeats 6400000 in
theorem timed_any (l : List UInt8) (p : Nat) (hp : p ≤ 900) (a b c a3 a4 a5 a6 : Int) (w : World) (hT : RTab w) :
    Calls Tryd.prog 34 #[dI a b c a3 a4 a5 a6, .string (tx l), .int .i64 (p : Int)] w fun e w' => e = .returned (tmR a b c (nmS l p 2) (nmS l (p + 3) 2) (nmS l (p + 6) 2)) ∧ Below w.heap.size w w' := by
  have HA : Hid (∀ W, Calls Tryd.prog 35 #[.string (tx l), .int .i64 (p : Int), .int .i64 2] W fun e w' => e = .returned (.int .i64 (nmS l p 2)) ∧ w' = W) := fun W => number_any l p 2 (by omega) (by omega) W
  have HB : Hid (∀ W, Calls Tryd.prog 35 #[.string (tx l), .int .i64 ((p : Int) + 3), .int .i64 2] W fun e w' => e = .returned (.int .i64 (nmS l (p + 3) 2)) ∧ w' = W) := fun W => number_any l (p + 3) 2 (by omega) (by omega) W
  have HC : Hid (∀ W, Calls Tryd.prog 35 #[.string (tx l), .int .i64 ((p : Int) + 6), .int .i64 2] W fun e w' => e = .returned (.int .i64 (nmS l (p + 6) 2)) ∧ w' = W) := fun W => number_any l (p + 6) 2 (by omega) (by omega) W
  obtain ⟨h, eh⟩ : ∃ h, h = nmS l p 2 := ⟨_, rfl⟩
  obtain ⟨mi, emi⟩ : ∃ mi, mi = nmS l (p + 3) 2 := ⟨_, rfl⟩
  obtain ⟨s, es⟩ : ∃ s, s = nmS l (p + 6) 2 := ⟨_, rfl⟩
  rw [← eh] at HA ⊢
  rw [← emi] at HB ⊢
  rw [← es] at HC ⊢
  obtain ⟨K, S, hK, hSc, hR⟩ := seconds_all a b c h mi s
  obtain ⟨R, hRR⟩ : ∃ R, R = tmR a b c h mi s := ⟨_, rfl⟩
  rw [← hRR] at hR ⊢
  have HR := hide hR
  generalize tx l = T at *
  clear eh emi es hR hRR
  have wp3 : wrap64 ((p : Int) + 3) = (p : Int) + 3 := wrp _ ⟨by omega, by omega⟩
  have wp6 : wrap64 ((p : Int) + 6) = (p : Int) + 6 := wrp _ ⟨by omega, by omega⟩
  have T3 : Hid (Ts w ((w.alloc (.cells #[.int .i64 a, .int .i64 b, .int .i64 c, .int .i64 h, .int .i64 mi, .int .i64 s, .int .i64 a6] 24)).alloc (.cells #[.int .i64 0, .int .i64 0, .int .i64 0, .int .i64 0, .int .i64 0, .int .i64 0, .int .i64 0] 24)) a b c h mi s a6) := ⟨heap21 w _ _, heap2 w _ _, ((Below.refl _ _).alloc (Nat.le_refl _) _).alloc (by simp) _⟩
  have HT0 : Hid (∀ W, Below w.heap.size w W → RTab W) := fun W hW => hT.fr hW
  have HSC := hide hSc
  clear hT hSc
  unfold dI at *
  go_enter Tryd.func34, Tryd.ntmps34
  go_wp2_with fail
  refine (HA.out _).mono ?_
  rintro e w1 ⟨rfl, rfl⟩
  go_wp2_with fail
  refine (HB.out _).mono ?_
  rintro e w1 ⟨rfl, rfl⟩
  go_wp2_with fail
  refine (HC.out _).mono ?_
  rintro e w1 ⟨rfl, rfl⟩
  go_wp2_with fail
  clear HA HB HC
  go_loopw [8] (fun v wr => ∃ (i : Nat) (g : Int), v = .int .i64 (i : Int) ∧ i ≤ 7 ∧ i ≤ K ∧ Hid (i = 7 → g = 6) ∧ Hid (Ts w wr a b c h mi s g)) (fun v _ => 8 - (intOf v).toNat)
  case atStart => exact ⟨0, a6, rfl, by omega, by omega, fun e => by omega, T3⟩
  case round =>
    obtain ⟨i, g, rfl, i7, iK, HG, HS⟩ := hrel
    by_cases hi : i < 7
    · have hii : (i : Int) < 7 := by omega
      have g6 := HS.out.froz 6
      obtain ⟨v6, c6⟩ := HS.out.box.cells.2 6 (by decide)
      have HS1 := hide (HS.out.put6 (i : Int))
      obtain ⟨y0, y1, y2, y3, y4, y5, y6⟩ := HS1.out.box.seven
      have HCl := hide (HSC.out i hi _ (HT0.out _ HS1.out.bel))
      have Hv : Hid (Value.int .i64 (wrap64 ((i : Int) + 1)) = .int .i64 ((i + 1 : Nat) : Int)) := by show _ = _; rw [wrpN i (by omega)]; rfl
      by_cases hk : i = K
      · have HKK := hide hk
        rw [if_pos hk] at HCl
        clear HS HG hk
        go_wp2_with fail
        refine HCl.out.mono ?_
        rintro e w2 ⟨rfl, b2⟩
        have HS2 := hide (HS1.out.next b2)
        clear y0 y1 y2 y3 y4 y5 y6 b2 HS1 HCl
        obtain ⟨y0, y1, y2, y3, y4, y5, y6⟩ := HS2.out.box.seven
        have HTH : Hid (w2.there (w.heap.size + 1) 0 (#[.int .i64 a, .int .i64 b, .int .i64 c, .int .i64 h, .int .i64 mi, .int .i64 s, .int .i64 (i : Int)] : Array Value).size) := HS2.out.there
        obtain ⟨Z, hZ⟩ : ∃ Z, Z = w2.setCells (w.heap.size + 1) 0 (#[.int .i64 a, .int .i64 b, .int .i64 c, .int .i64 h, .int .i64 mi, .int .i64 s, .int .i64 (i : Int)] : Array Value).toList := ⟨_, rfl⟩
        have HZ := hide hZ
        have HZR : Hid (Z.rangeAt (w.heap.size + 1) 0 [.int .i64 a, .int .i64 b, .int .i64 c, .int .i64 h, .int .i64 mi, .int .i64 s, .int .i64 (i : Int)]) := by rw [hZ]; exact World.rangeAt_setCells_same _ (w.heap.size + 1) 0 _ HTH.out
        have HZB : Hid (Below w.heap.size w Z) := by rw [hZ]; exact below_setCells HS2.out.bel (by omega) _ _
        clear hZ
        go_wp2_with (refine wpList_store_mid rfl 24 (.tmp 6) (.tmp 38) rfl (w.heap.size + 1) 0 #[.int .i64 a, .int .i64 b, .int .i64 c, .int .i64 h, .int .i64 mi, .int .i64 s, .int .i64 (i : Int)] rfl rfl HTH.out sizeD (one7 _ _ _ _ _ _ _) ?_; rw [← HZ.out])
        refine bodyPost_ret (v := .tuple #[.agg #[.int .i64 a, .int .i64 b, .int .i64 c, .int .i64 h, .int .i64 mi, .int .i64 s, .int .i64 (i : Int)], .int .i64 S]) (results_cellT (b := w.heap.size + 1) (o := 0) (cs := [.int .i64 a, .int .i64 b, .int .i64 c, .int .i64 h, .int .i64 mi, .int .i64 s, .int .i64 (i : Int)]) Tryd.results34 _ rfl HZR.out Tryd.underlying24 rfl sizeD) rfl ⟨?_, HZB.out⟩
        rw [HR.out, ← HKK.out, if_pos hi]
      · rw [if_neg hk] at HCl
        have iK2 : i + 1 ≤ K := by omega
        clear HS HG hk
        go_wp2_with fail
        refine HCl.out.mono ?_
        rintro e w2 ⟨rfl, b2⟩
        have HS2 := hide (HS1.out.next b2)
        clear y0 y1 y2 y3 y4 y5 y6 b2 HS1 HCl
        go_wp2_with fail
        go_roundw
        case rel => exact ⟨i + 1, (i : Int), by first | exact Hv.out | go_num, by omega, iK2, fun e => by omega, HS2⟩
        case measure => simp [intOf]; omega
    · have ei : i = 7 := by omega
      have eK : ¬ K < 7 := by omega
      have hii : ¬ ((i : Int) < 7) := by omega
      have eg := HG.out ei
      subst eg
      have HKK := hide eK
      clear HG ei eK
      obtain ⟨y0, y1, y2, y3, y4, y5, y6⟩ := HS.out.box.seven
      have HTH : Hid (wr.there (w.heap.size + 1) 0 (#[.int .i64 a, .int .i64 b, .int .i64 c, .int .i64 h, .int .i64 mi, .int .i64 s, .int .i64 6] : Array Value).size) := HS.out.there
      obtain ⟨Z, hZ⟩ : ∃ Z, Z = wr.setCells (w.heap.size + 1) 0 (#[.int .i64 a, .int .i64 b, .int .i64 c, .int .i64 h, .int .i64 mi, .int .i64 s, .int .i64 6] : Array Value).toList := ⟨_, rfl⟩
      have HZ := hide hZ
      have HZR : Hid (Z.rangeAt (w.heap.size + 1) 0 [.int .i64 a, .int .i64 b, .int .i64 c, .int .i64 h, .int .i64 mi, .int .i64 s, .int .i64 6]) := by rw [hZ]; exact World.rangeAt_setCells_same _ (w.heap.size + 1) 0 _ HTH.out
      have HZB : Hid (Below w.heap.size w Z) := by rw [hZ]; exact below_setCells HS.out.bel (by omega) _ _
      clear hZ
      go_wp2_with (refine wpList_store_mid rfl 24 (.tmp 6) (.tmp 40) rfl (w.heap.size + 1) 0 #[.int .i64 a, .int .i64 b, .int .i64 c, .int .i64 h, .int .i64 mi, .int .i64 s, .int .i64 6] rfl rfl HTH.out sizeD (one7 _ _ _ _ _ _ _) ?_; rw [← HZ.out])
      refine bodyPost_ret (v := .tuple #[.agg #[.int .i64 a, .int .i64 b, .int .i64 c, .int .i64 h, .int .i64 mi, .int .i64 s, .int .i64 6], .int .i64 (-1)]) (results_cellT (b := w.heap.size + 1) (o := 0) (cs := [.int .i64 a, .int .i64 b, .int .i64 c, .int .i64 h, .int .i64 mi, .int .i64 s, .int .i64 6]) Tryd.results34 _ rfl HZR.out Tryd.underlying24 rfl sizeD) rfl ⟨?_, HZB.out⟩
      rw [HR.out, if_neg HKK.out]
end Go.Proofs.YtbibfneofcphkaaDoor.je
