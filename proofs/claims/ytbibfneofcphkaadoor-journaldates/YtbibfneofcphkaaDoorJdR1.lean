import Derived.Test.YtbibfneofcphkaaDoorJcNl
namespace Go.Proofs.YtbibfneofcphkaaDoor.jc
open Go.ChangeShapes Go.WideShapes Go.ChangeAt Go.RowKit Go.Proofs.YtbibfneofcphkaaDoor.common Go.Proofs.YtbibfneofcphkaaDoor.Jc

set_option maxRecDepth 100000 in
set_option maxHeartbeats 1600000 in
theorem refLeap_any (y : Nat) (w : World) : Calls Tryd.prog 52 #[.int .i64 (y : Int)] w fun e w' => e = .returned (.bool (lp y)) ∧ w' = w := by
  have e4 : (y : Int).tmod 4 = ((y % 4 : Nat) : Int) := tmodN y 4
  have e1 : (y : Int).tmod 100 = ((y % 100 : Nat) : Int) := tmodN y 100
  have e0 : (y : Int).tmod 400 = ((y % 400 : Nat) : Int) := tmodN y 400
  have HL : Hid (lp y = ((decide (y % 4 = 0) && decide (y % 100 ≠ 0)) || decide (y % 400 = 0))) := rfl
  by_cases k4 : y % 4 = 0
  · by_cases k1 : y % 100 = 0
    · by_cases k0 : y % 400 = 0
      · have HR : Hid (lp y = true) := by show _ = _; rw [HL.out]; simp [k4, k1, k0]
        rw [k4] at e4
        rw [k1] at e1
        rw [k0] at e0
        generalize lp y = t at *
        clear HL k4 k1 k0
        go_enter Tryd.func52, Tryd.ntmps52
        go_wp2_with fail
        go_ret
        exact ⟨by rw [HR.out]; rfl, rfl⟩
      · have HR : Hid (lp y = false) := by show _ = _; rw [HL.out]; simp [k4, k1, k0]
        rw [k4] at e4
        rw [k1] at e1
        have b0 : (((y % 400 : Nat) : Int) == 0) = false := beq_false_of_ne (by omega)
        have c0 : (((y % 400 : Nat) : Int) != 0) = true := by rw [bne, b0]; rfl
        generalize lp y = t at *
        clear HL k4 k1 k0
        generalize y % 400 = q0 at *
        go_enter Tryd.func52, Tryd.ntmps52
        go_wp2_with fail
        go_ret
        exact ⟨by rw [HR.out]; rfl, rfl⟩
    · by_cases k0 : y % 400 = 0
      · exact absurd (show y % 100 = 0 by omega) k1
      · have HR : Hid (lp y = true) := by show _ = _; rw [HL.out]; simp [k4, k1, k0]
        rw [k4] at e4
        have b1 : (((y % 100 : Nat) : Int) == 0) = false := beq_false_of_ne (by omega)
        have c1 : (((y % 100 : Nat) : Int) != 0) = true := by rw [bne, b1]; rfl
        have b0 : (((y % 400 : Nat) : Int) == 0) = false := beq_false_of_ne (by omega)
        have c0 : (((y % 400 : Nat) : Int) != 0) = true := by rw [bne, b0]; rfl
        generalize lp y = t at *
        clear HL k4 k1 k0
        generalize y % 100 = q1 at *
        generalize y % 400 = q0 at *
        go_enter Tryd.func52, Tryd.ntmps52
        go_wp2_with fail
        go_ret
        exact ⟨by rw [HR.out]; rfl, rfl⟩
  · by_cases k1 : y % 100 = 0
    · by_cases k0 : y % 400 = 0
      · exact absurd (show y % 4 = 0 by omega) k4
      · exact absurd (show y % 4 = 0 by omega) k4
    · by_cases k0 : y % 400 = 0
      · exact absurd (show y % 100 = 0 by omega) k1
      · have HR : Hid (lp y = false) := by show _ = _; rw [HL.out]; simp [k4, k1, k0]
        have b4 : (((y % 4 : Nat) : Int) == 0) = false := beq_false_of_ne (by omega)
        have c4 : (((y % 4 : Nat) : Int) != 0) = true := by rw [bne, b4]; rfl
        have b1 : (((y % 100 : Nat) : Int) == 0) = false := beq_false_of_ne (by omega)
        have c1 : (((y % 100 : Nat) : Int) != 0) = true := by rw [bne, b1]; rfl
        have b0 : (((y % 400 : Nat) : Int) == 0) = false := beq_false_of_ne (by omega)
        have c0 : (((y % 400 : Nat) : Int) != 0) = true := by rw [bne, b0]; rfl
        generalize lp y = t at *
        clear HL k4 k1 k0
        generalize y % 4 = q4 at *
        generalize y % 100 = q1 at *
        generalize y % 400 = q0 at *
        go_enter Tryd.func52, Tryd.ntmps52
        go_wp2_with fail
        go_ret
        exact ⟨by rw [HR.out]; rfl, rfl⟩

/-- the days of the months, in the document's table -/
def RTab (w : World) : Prop := ∀ i, i < 12 → w.cell? ⟨18, i, none⟩ = some (.int .i64 ((tab.getD i 0 : Nat) : Int))
theorem RTab.fr {w w' : World} (h : RTab w) (hb : Below w.heap.size w w') : RTab w' := fun i hi => (hb.cell (World.block_lt_of_cell? _ _ (h i hi))).trans (h i hi)

set_option maxRecDepth 100000 in
set_option maxHeartbeats 1600000 in
theorem refDaysIn_any (y m : Nat) (w : World) (hT : RTab w) (m0 : 1 ≤ m) (m1 : m ≤ 12) : Calls Tryd.prog 32 #[.int .i64 (y : Int), .int .i64 (m : Int)] w fun e w' => e = .returned (.int .i64 (md y m : Int)) ∧ w' = w := by
  have hc := hT (m - 1) (by omega)
  have HL := hide (refLeap_any y w)
  have HD : Hid (md y m = if m = 2 ∧ lp y = true then 29 else tab.getD (m - 1) 0) := rfl
  have ht : tab.getD (m - 1) 0 ≤ 31 := by
    have := (md_most 1 m m0 m1).2
    unfold md at this
    rwa [if_neg (by simp [lp])] at this
  by_cases h2 : m = 2
  · subst h2
    cases hl : lp y with
    | true =>
      rw [hl] at HL
      have HR : Hid (md y 2 = 29) := by show _ = _; rw [HD.out, if_pos ⟨rfl, hl⟩]
      clear HD hT hl
      generalize md y 2 = q at *
      generalize tab.getD 1 0 = r at *
      go_enter Tryd.func32, Tryd.ntmps32
      go_wp2_with fail
      refine HL.out.mono ?_
      rintro x w1 ⟨rfl, rfl⟩
      go_wp2_with fail
      go_ret
      exact ⟨by rw [HR.out]; go_num, rfl⟩
    | false =>
      rw [hl] at HL
      have HR : Hid (md y 2 = tab.getD 1 0) := by show _ = _; rw [HD.out, if_neg (by rw [hl]; simp)]
      clear HD hT hl
      generalize md y 2 = q at *
      generalize tab.getD 1 0 = r at *
      go_enter Tryd.func32, Tryd.ntmps32
      go_wp2_with fail
      refine HL.out.mono ?_
      rintro x w1 ⟨rfl, rfl⟩
      go_wp2_with fail
      go_ret
      exact ⟨by rw [HR.out]; rfl, rfl⟩
  · have b2 : ((m : Int) == 2) = false := beq_false_of_ne (by omega)
    have HR : Hid (md y m = tab.getD (m - 1) 0) := by show _ = _; rw [HD.out, if_neg (fun h => h2 h.1)]
    clear HD hT h2
    generalize md y m = q at *
    generalize tab.getD (m - 1) 0 = r at *
    generalize hk : m - 1 = k at *
    have e1 : (m : Int) - 1 = (k : Int) := by omega
    clear hk
    go_enter Tryd.func32, Tryd.ntmps32
    go_wp2_with fail
    refine HL.out.mono ?_
    rintro x w1 ⟨rfl, rfl⟩
    go_wp2_with fail
    go_ret
    exact ⟨by rw [HR.out]; rfl, rfl⟩

set_option maxRecDepth 100000 in
set_option maxHeartbeats 1600000 in
theorem refDaysOf_any (y : Nat) (w : World) : Calls Tryd.prog 31 #[.int .i64 (y : Int)] w fun e w' => e = .returned (.int .i64 (yl y : Int)) ∧ w' = w := by
  have HL := hide (refLeap_any y w)
  have HY : Hid (yl y = if lp y then 366 else 365) := rfl
  cases hl : lp y with
  | true =>
    rw [hl] at HL HY
    have HR : Hid (yl y = 366) := HY.out
    clear HY hl
    generalize yl y = q at *
    go_enter Tryd.func31, Tryd.ntmps31
    go_wp2_with fail
    refine HL.out.mono ?_
    rintro x w1 ⟨rfl, rfl⟩
    go_wp2_with fail
    go_ret
    exact ⟨by rw [HR.out]; rfl, rfl⟩
  | false =>
    rw [hl] at HL HY
    have HR : Hid (yl y = 365) := HY.out
    clear HY hl
    generalize yl y = q at *
    go_enter Tryd.func31, Tryd.ntmps31
    go_wp2_with fail
    refine HL.out.mono ?_
    rintro x w1 ⟨rfl, rfl⟩
    go_wp2_with fail
    go_ret
    exact ⟨by rw [HR.out]; rfl, rfl⟩

/-- the date in its box, and the result's cell -/
structure CvI (w wr : World) (y m wk : Nat) : Prop where
  box : wr.heap[w.heap.size + 1]? = some (.cells #[.int .i64 (y : Int), .int .i64 (m : Int), .int .i64 0, .int .i64 0, .int .i64 0, .int .i64 0, .int .i64 (wk : Int)] 24)
  res : wr.there w.heap.size 0 7
  bel : Below w.heap.size w wr
theorem set_box {w : World} {b : Nat} {cs : Array Value} {t : TypeId} {fz : Nat × Nat} (h : w.heap[b]? = some (.cells cs t fz)) (j : Nat) (v : Value) : (w.setCell ⟨b, j, none⟩ v).heap[b]? = some (.cells (cs.setIfInBounds j v) t fz) := by
  simp [World.setCell, Array.getElem?_modify, h]
theorem set_else {w : World} {b c : Nat} (h : c ≠ b) (j : Nat) (v : Value) : (w.setCell ⟨b, j, none⟩ v).heap[c]? = w.heap[c]? := by
  simp [World.setCell, Array.getElem?_modify, Ne.symm h]
theorem CvI.year {w wr : World} {y m wk : Nat} (h : CvI w wr y m wk) (k : Nat) : CvI w (wr.setCell ⟨w.heap.size + 1, 0, none⟩ (.int .i64 (k : Int))) k m wk :=
  ⟨by rw [set_box h.box]; rfl, there_blk h.res (set_else (by omega) _ _), h.bel.setCell (by simp) _⟩
theorem CvI.month {w wr : World} {y m wk : Nat} (h : CvI w wr y m wk) (k : Nat) : CvI w (wr.setCell ⟨w.heap.size + 1, 1, none⟩ (.int .i64 (k : Int))) y k wk :=
  ⟨by rw [set_box h.box]; rfl, there_blk h.res (set_else (by omega) _ _), h.bel.setCell (by simp) _⟩
theorem CvI.cells {w wr : World} {y m wk : Nat} (h : CvI w wr y m wk) : wr.cell? ⟨w.heap.size + 1, 0, none⟩ = some (.int .i64 (y : Int)) ∧ wr.cell? ⟨w.heap.size + 1, 1, none⟩ = some (.int .i64 (m : Int)) := by
  constructor <;> simp [World.cell?, h.box]
theorem CvI.froz {w wr : World} {y m wk : Nat} (h : CvI w wr y m wk) (j : Nat) : wr.frozen? ⟨w.heap.size + 1, j, none⟩ = false := by
  simp [World.frozen?, h.box]
theorem CvI.lays {w wr : World} {y m wk : Nat} (h : CvI w wr y m wk) : wr.there (w.heap.size + 1) 0 7 := there_of h.box
theorem cv_set {w : World} {b : Nat} {y m wk : Nat} (h : w.heap[b]? = some (.cells #[.int .i64 (y : Int), .int .i64 (m : Int), .int .i64 0, .int .i64 0, .int .i64 0, .int .i64 0, .int .i64 (wk : Int)] 24)) (d ho mi se : Int) : ((((w.setCell ⟨b, 2, none⟩ (.int .i64 d)).setCell ⟨b, 3, none⟩ (.int .i64 ho)).setCell ⟨b, 4, none⟩ (.int .i64 mi)).setCell ⟨b, 5, none⟩ (.int .i64 se)).heap[b]? = some (.cells #[.int .i64 (y : Int), .int .i64 (m : Int), .int .i64 d, .int .i64 ho, .int .i64 mi, .int .i64 se, .int .i64 (wk : Int)] 24) := by
  rw [set_box (set_box (set_box (set_box h 2 _) 3 _) 4 _) 5 _]; rfl

theorem froz_of {w : World} {b : Nat} {cs : Array Value} {t : TypeId} (h : w.heap[b]? = some (.cells cs t)) (j : Nat) : w.frozen? ⟨b, j, none⟩ = false := by
  simp [World.frozen?, h]
theorem wrpN (a : Nat) (h : a ≤ 1000000000) : wrap64 ((a : Int) + 1) = (a : Int) + 1 := by unfold wrap64; omega
theorem wrpS (a b : Nat) (h : b ≤ a) (h1 : a ≤ 1000000000) : wrap64 ((a : Int) - (b : Int)) = (a : Int) - (b : Int) := by unfold wrap64; omega
theorem year_most {y left D : Nat} (h : left + yb y = D) (hD : D < yb 10000) (h0 : 1970 ≤ y) (hy : y ≤ 9999) (hge : yl y ≤ left) : y + 1 ≤ 9999 := by
  rcases Nat.lt_or_ge y 9999 with h1 | h1
  · omega
  · exfalso
    have e : 10000 = y + 1 := by omega
    rw [e, yb_succ y h0] at hD
    omega
set_option maxRecDepth 100000 in
set_option maxHeartbeats 6400000 in
theorem refCivil_ok (n : Nat) (w : World) (hT : RTab w) (hn : n ≤ 253402300799) : Calls Tryd.prog 17 #[.int .i64 (n : Int)] w fun e w' => ∃ x : Dt, e = .returned (.tuple #[dv x, .int .i64 0]) ∧ Is n x ∧ Below w.heap.size w w' := by
  have ed : (n : Int).tdiv 86400 = ((n / 86400 : Nat) : Int) := tdivN n 86400
  have em : (n : Int).tmod 86400 = ((n % 86400 : Nat) : Int) := tmodN n 86400
  have eh : ((n % 86400 : Nat) : Int).tdiv 3600 = ((n % 86400 / 3600 : Nat) : Int) := tdivN _ 3600
  have er : ((n % 86400 : Nat) : Int).tmod 3600 = ((n % 86400 % 3600 : Nat) : Int) := tmodN _ 3600
  have ei : ((n % 86400 % 3600 : Nat) : Int).tdiv 60 = ((n % 86400 % 3600 / 60 : Nat) : Int) := tdivN _ 60
  have es : ((n % 86400 : Nat) : Int).tmod 60 = ((n % 86400 % 60 : Nat) : Int) := tmodN _ 60
  have hD : n / 86400 ≤ 2932896 := by omega
  have HIS : Hid (∀ y m d : Nat, 1970 ≤ y → yb y ≤ n / 86400 → 1 ≤ m → m ≤ 12 → d + cm y (m - 1) = n / 86400 - yb y → d < md y m → Is n ⟨y, m, d + 1, n % 86400 / 3600, n % 86400 % 3600 / 60, n % 86400 % 60, (4 + n / 86400) % 7⟩) := fun y m d a b c e f g => is_of a b c e f g
  have HDn : Hid (n / 86400 < yb 10000) := by show _ < _; rw [yb_past]; omega
  generalize n / 86400 = D at *
  have b1 : n % 86400 < 86400 := Nat.mod_lt _ (by omega)
  have b2 : n % 86400 / 3600 ≤ n % 86400 := Nat.div_le_self _ _
  have b3 : n % 86400 % 3600 ≤ n % 86400 := Nat.mod_le _ _
  have b4 : n % 86400 % 3600 / 60 ≤ n % 86400 % 3600 := Nat.div_le_self _ _
  have ek : ((D : Int) + 4).tmod 7 = (((4 + D) % 7 : Nat) : Int) := by rw [← tmodN]; congr 1; omega
  generalize (4 + D) % 7 = wk at *
  generalize n % 86400 % 3600 / 60 = mi at *
  generalize n % 86400 % 3600 = mr at *
  generalize n % 86400 % 60 = se at *
  generalize n % 86400 / 3600 = ho at *
  generalize n % 86400 = t at *
  have n0 : decide ((n : Int) < 0) = false := decide_eq_false (by omega)
  have n1 : decide (253402300799 < (n : Int)) = false := decide_eq_false (by omega)
  have HI0 : Hid (CvI w ((w.alloc (.cells #[.int .i64 0, .int .i64 0, .int .i64 0, .int .i64 0, .int .i64 0, .int .i64 0, .int .i64 0] 24)).alloc (.cells #[.int .i64 1970, .int .i64 1, .int .i64 0, .int .i64 0, .int .i64 0, .int .i64 0, .int .i64 (wk : Int)] 24)) 1970 1 wk) :=
    ⟨heap2 w _ _, there_blk (zero_there w) (by show (Array.push _ _)[w.heap.size]? = _; rw [Array.getElem?_push, if_neg (by rw [World.size_alloc]; omega)]), ((Below.refl _ _).alloc (Nat.le_refl _) _).alloc (by simp) _⟩
  have HRT : Hid (∀ wr y m, CvI w wr y m wk → RTab wr) := fun wr y m h => hT.fr h.bel
  clear hT
  go_enter Tryd.func17, Tryd.ntmps17
  go_wp2_with fail
  go_loopw [4, 7] (fun u v wr => ∃ left k y : Nat, u = .int .i64 (left : Int) ∧ v = .int .i64 (k : Int) ∧ k + 1970 = y ∧ Hid (left + yb y = D) ∧ left ≤ D ∧ y ≤ 9999 ∧ Hid (CvI w wr y 1 wk)) (fun u _ _ => (intOf u).toNat)
  case atStart => exact ⟨D, 0, 1970, rfl, rfl, rfl, by rw [yb_first]; rfl, Nat.le_refl _, by omega, HI0.out⟩
  case round =>
    obtain ⟨left, k, y, rfl, rfl, ky, HY, hl, hy, HI⟩ := hrel
    have Heh := hide eh
    have Her := hide er
    have Hei := hide ei
    have Hes := hide es
    clear ed em ek n0 n1 hn eh er ei es HI0
    have c0 := HI.out.cells.1
    have f0 := HI.out.froz 0
    have k1 : decide ((k : Int) < 8030) = true := decide_eq_true (by omega)
    have HO := hide (refDaysOf_any y wr)
    have hyl := yl_two y
    have HYS := hide (yb_succ y (by omega))
    go_wp2_with fail
    refine HO.out.mono ?_
    rintro x w1 ⟨rfl, rfl⟩
    by_cases hge : yl y ≤ left
    · have hgi : (yl y : Int) ≤ (left : Int) := by omega
      have hy2 : y + 1 ≤ 9999 := year_most HY.out HDn.out (by omega) hy hge
      have HY2 : Hid (left - yl y + yb (y + 1) = D) := by show _ = _; rw [HYS.out]; have := HY.out; omega
      have HI2 := hide (HI.out.year (y + 1))
      have ey : ((y + 1 : Nat) : Int) = (y : Int) + 1 := by omega
      rw [ey] at HI2
      have wy : wrap64 ((y : Int) + 1) = (y : Int) + 1 := wrp _ ⟨by omega, by omega⟩
      have wk1 : wrap64 ((k : Int) + 1) = (k : Int) + 1 := wrp _ ⟨by omega, by omega⟩
      have wl : wrap64 ((left : Int) - (yl y : Int)) = (left : Int) - (yl y : Int) := wrp _ ⟨by omega, by omega⟩
      clear HYS HY HI ey hge
      generalize yl y = q at *
      go_wp2_with fail
      refine HO.out.mono ?_
      rintro x w2 ⟨rfl, rfl⟩
      go_wp2_with fail
      go_roundw
      case rel => exact ⟨left - q, k + 1, y + 1, by go_num, by go_num, by omega, HY2, by omega, hy2, HI2⟩
      case measure => simp [intOf]; omega
    · have hgi : (left : Int) < (yl y : Int) := by omega
      have HLT : Hid (left < yl y) := by show _ < _; omega
      have hdl : decide (yl y ≤ left) = false := decide_eq_false hge
      have HY1 : Hid (yb y ≤ D ∧ left = D - yb y) := by have := HY.out; exact ⟨by omega, by omega⟩
      clear HYS hge HO HY
      generalize hq : yl y = q at *
      have HQ := hide hq
      clear hq
      generalize w1 = W1 at *
      go_wp2_with fail
      go_loopw [4, 8] (fun u v wr => ∃ lf k m : Nat, u = .int .i64 (lf : Int) ∧ v = .int .i64 (k : Int) ∧ k + 1 = m ∧ Hid (lf + cm y (m - 1) = left) ∧ lf ≤ left ∧ m ≤ 12 ∧ Hid (CvI w wr y m wk)) (fun u _ _ => (intOf u).toNat)
      case atStart => exact ⟨left, 0, 1, rfl, rfl, rfl, rfl, Nat.le_refl _, by omega, HI⟩
      case round =>
        obtain ⟨lf, k2, m, rfl, rfl, km, HC, hlf, hm, HI2⟩ := hrel
        obtain ⟨d0, d1⟩ := HI2.out.cells
        have g0 := HI2.out.froz 1
        have g2 := HI2.out.froz 2
        have g3 := HI2.out.froz 3
        have g4 := HI2.out.froz 4
        have g5 := HI2.out.froz 5
        have k21 : decide ((k2 : Int) < 12) = true := decide_eq_true (by omega)
        have HO := hide (refDaysIn_any y m wr (HRT.out wr y m HI2.out) (by omega) hm)
        have hmm := md_most y m (by omega) hm
        have HST := hide (cm_step y m (by omega))
        have HIn : Hid (md y m ≤ lf → m + 1 ≤ 12) := fun h => cm_in (y := y) (left := lf) (by omega) hm (by rw [HC.out, HQ.out]; exact HLT.out) h
        clear c0 f0 hyl hgi
        go_wp2_with fail
        refine HO.out.mono ?_
        rintro x w2 ⟨rfl, rfl⟩
        by_cases hge : md y m ≤ lf
        · have hm2 := HIn.out hge
          have hgi2 : (md y m : Int) ≤ (lf : Int) := by omega
          have HC2 : Hid (lf - md y m + cm y (m + 1 - 1) = left) := by
            show lf - md y m + cm y m = left; rw [HST.out]; have := HC.out; omega
          have HI3 := hide (HI2.out.month (m + 1))
          have ey : ((m + 1 : Nat) : Int) = (m : Int) + 1 := by omega
          rw [ey] at HI3
          have q1 : k2 ≤ 1000000000 := by omega
          have q2 : lf ≤ 1000000000 := by omega
          have Hv8 : Hid (Value.int .i64 (wrap64 ((k2 : Int) + 1)) = .int .i64 ((k2 + 1 : Nat) : Int)) := by show _ = _; rw [wrpN k2 q1]; rfl
          have Hv4 : Hid (Value.int .i64 (wrap64 ((lf : Int) - (md y m : Int))) = .int .i64 ((lf - md y m : Nat) : Int)) := by show _ = _; rw [wrpS lf _ hge q2]; exact int_eq (by omega)
          have wm := wrpN m (Nat.le_trans hm (by decide))
          have HZ : Hid (k2 + 1 = m ∧ lf ≤ left) := ⟨km, hlf⟩
          clear HST HC HI2 HIn ey hge km q1 q2 hlf hl hD HDn HIS HRT HQ HLT HY1 ky hy Heh Her Hei Hes k1
          generalize md y m = qm at *
          go_wp2_with fail
          refine HO.out.mono ?_
          rintro x w3 ⟨rfl, rfl⟩
          go_wp2_with fail
          go_roundw
          case rel => clear wm; obtain ⟨km, hlf⟩ := HZ.out; exact ⟨lf - qm, k2 + 1, m + 1, Hv4.out, Hv8.out, by omega, HC2, by omega, hm2, HI3⟩
          case measure => rw [Hv4.out]; clear wm; simp [intOf]; omega
        · have hgi2 : (lf : Int) < (md y m : Int) := by omega
          have HE : Hid (Is n ⟨y, m, lf + 1, ho, mi, se, wk⟩) := HIS.out y m lf (by omega) HY1.out.1 (by omega) hm (by rw [HC.out]; exact HY1.out.2) (by omega)
          have wl := wrpN lf (by omega)
          have HRS := hide (cv_set HI2.out.box ((lf : Int) + 1) (ho : Int) (mi : Int) (se : Int))
          have HRR := hide (range_of (l := [.int .i64 (y : Int), .int .i64 (m : Int), .int .i64 ((lf : Int) + 1), .int .i64 (ho : Int), .int .i64 (mi : Int), .int .i64 (se : Int), .int .i64 (wk : Int)]) (t := 24) HRS.out)
          have x2 := set_box HI2.out.box 2 (.int .i64 ((lf : Int) + 1))
          have x3 := set_box x2 3 (.int .i64 (ho : Int))
          have x4 := set_box x3 4 (.int .i64 (mi : Int))
          have y3 := froz_of x2 3
          have y4 := froz_of x3 4
          have y5 := froz_of x4 5
          have z2 : w2.cell? ⟨w.heap.size + 1, 2, none⟩ = some (.int .i64 0) := by simp [World.cell?, HI2.out.box]
          have z6 : w2.cell? ⟨w.heap.size + 1, 6, none⟩ = some (.int .i64 (wk : Int)) := by simp [World.cell?, HI2.out.box]
          have z3 : (w2.setCell ⟨w.heap.size + 1, 2, none⟩ (.int .i64 ((lf : Int) + 1))).cell? ⟨w.heap.size + 1, 3, none⟩ = some (.int .i64 0) := by simp only [World.cell?, x2]; rfl
          have z4 : ((w2.setCell ⟨w.heap.size + 1, 2, none⟩ (.int .i64 ((lf : Int) + 1))).setCell ⟨w.heap.size + 1, 3, none⟩ (.int .i64 (ho : Int))).cell? ⟨w.heap.size + 1, 4, none⟩ = some (.int .i64 0) := by simp only [World.cell?, x3]; rfl
          have z5 : (((w2.setCell ⟨w.heap.size + 1, 2, none⟩ (.int .i64 ((lf : Int) + 1))).setCell ⟨w.heap.size + 1, 3, none⟩ (.int .i64 (ho : Int))).setCell ⟨w.heap.size + 1, 4, none⟩ (.int .i64 (mi : Int))).cell? ⟨w.heap.size + 1, 5, none⟩ = some (.int .i64 0) := by simp only [World.cell?, x4]; rfl
          clear x2 x3 x4
          have HBR : Hid ((((((w2.setCell ⟨w.heap.size + 1, 2, none⟩ (.int .i64 ((lf : Int) + 1))).setCell ⟨w.heap.size + 1, 3, none⟩ (.int .i64 (ho : Int))).setCell ⟨w.heap.size + 1, 4, none⟩ (.int .i64 (mi : Int))).setCell ⟨w.heap.size + 1, 5, none⟩ (.int .i64 (se : Int)))).there w.heap.size 0 7) := there_blk HI2.out.res (by rw [set_else (by omega), set_else (by omega), set_else (by omega), set_else (by omega)])
          have HBB : Hid (Below w.heap.size w ((((w2.setCell ⟨w.heap.size + 1, 2, none⟩ (.int .i64 ((lf : Int) + 1))).setCell ⟨w.heap.size + 1, 3, none⟩ (.int .i64 (ho : Int))).setCell ⟨w.heap.size + 1, 4, none⟩ (.int .i64 (mi : Int))).setCell ⟨w.heap.size + 1, 5, none⟩ (.int .i64 (se : Int)))) := (((HI2.out.bel.setCell (by simp) _).setCell (by simp) _).setCell (by simp) _).setCell (by simp) _
          clear HST HC HIn hge HO km hlf hl hD HDn HIS HRT HQ HLT HY1 ky hy k1 hm hmm
          generalize md y m = qm at *
          have eh := Heh.out
          have er := Her.out
          have ei := Hei.out
          have es := Hes.out
          obtain ⟨Z, hZ⟩ : ∃ Z, Z = (((((w2.setCell ⟨w.heap.size + 1, 2, none⟩ (.int .i64 ((lf : Int) + 1))).setCell ⟨w.heap.size + 1, 3, none⟩ (.int .i64 (ho : Int))).setCell ⟨w.heap.size + 1, 4, none⟩ (.int .i64 (mi : Int))).setCell ⟨w.heap.size + 1, 5, none⟩ (.int .i64 (se : Int)))).setCells w.heap.size 0 (#[.int .i64 (y : Int), .int .i64 (m : Int), .int .i64 ((lf : Int) + 1), .int .i64 (ho : Int), .int .i64 (mi : Int), .int .i64 (se : Int), .int .i64 (wk : Int)] : Array Value).toList := ⟨_, rfl⟩
          have HZ := hide hZ
          have HZR : Hid (Z.rangeAt w.heap.size 0 [.int .i64 (y : Int), .int .i64 (m : Int), .int .i64 ((lf : Int) + 1), .int .i64 (ho : Int), .int .i64 (mi : Int), .int .i64 (se : Int), .int .i64 (wk : Int)]) := by rw [hZ]; exact World.rangeAt_setCells_same _ w.heap.size 0 _ HBR.out
          have HZB : Hid (Below w.heap.size w Z) := by rw [hZ]; exact below_setCells HBB.out (Nat.le_refl _) _ _
          clear hZ hdl HRR HRS
          go_wp2_with (refine wpList_store_mid rfl 24 (.tmp 2) (.tmp 81) rfl w.heap.size 0 #[.int .i64 (y : Int), .int .i64 (m : Int), .int .i64 ((lf : Int) + 1), .int .i64 (ho : Int), .int .i64 (mi : Int), .int .i64 (se : Int), .int .i64 (wk : Int)] rfl rfl ?hbr sizeD (one7 _ _ _ _ _ _ _) ?_; rotate_left; rw [← HZ.out])
          refine bodyPost_ret (v := .tuple #[.agg #[.int .i64 (y : Int), .int .i64 (m : Int), .int .i64 ((lf : Int) + 1), .int .i64 (ho : Int), .int .i64 (mi : Int), .int .i64 (se : Int), .int .i64 (wk : Int)], .int .i64 0]) (results_cellT (b := w.heap.size) (o := 0) (cs := [.int .i64 (y : Int), .int .i64 (m : Int), .int .i64 ((lf : Int) + 1), .int .i64 (ho : Int), .int .i64 (mi : Int), .int .i64 (se : Int), .int .i64 (wk : Int)]) Tryd.results17 _ rfl HZR.out Tryd.underlying24 rfl sizeD) rfl ⟨_, ?_, HE.out, HZB.out⟩
          simp [dv]
          exact HBR.out
end Go.Proofs.YtbibfneofcphkaaDoor.jc
