import Derived.Test.YtlbhiefamnpphaaDoorJcNl
namespace Go.Proofs.YtlbhiefamnpphaaDoor.jc
open Go.ChangeShapes Go.WideShapes Go.ChangeAt Go.RowKit Go.Proofs.YtlbhiefamnpphaaDoor.common Go.Proofs.YtlbhiefamnpphaaDoor.Jc

set_option maxRecDepth 100000 in
set_option maxHeartbeats 1600000 in
theorem refLeap_any (y : Nat) (w : World) : Calls Tryd.prog 35 #[.int .i64 (y : Int)] w fun e w' => e = .returned (.bool (lp y)) ∧ w' = w := by
  have e4 : (y : Int).tmod 4 = ((y % 4 : Nat) : Int) := tmodN y 4
  have e1 : (y : Int).tmod 100 = ((y % 100 : Nat) : Int) := tmodN y 100
  have e0 : (y : Int).tmod 400 = ((y % 400 : Nat) : Int) := tmodN y 400
  have HL : Hid (lp y = ((decide (y % 4 = 0) && decide (y % 100 ≠ 0)) || decide (y % 400 = 0))) := rfl
  by_cases k4 : y % 4 = 0
  · by_cases k1 : y % 100 = 0
    · by_cases k0 : y % 400 = 0
      · have HR : Hid (lp y = true) := by show _ = _; rw [HL.out]; simp [k4, k1, k0]
        rw [k4] at e4
        rw [k1] at e1
        rw [k0] at e0
        generalize lp y = t at *
        clear HL k4 k1 k0
        go_enter Tryd.func35, Tryd.ntmps35
        go_wp2_with fail
        go_ret
        exact ⟨by rw [HR.out]; rfl, rfl⟩
      · have HR : Hid (lp y = false) := by show _ = _; rw [HL.out]; simp [k4, k1, k0]
        rw [k4] at e4
        rw [k1] at e1
        have b0 : (((y % 400 : Nat) : Int) == 0) = false := beq_false_of_ne (by omega)
        have c0 : (((y % 400 : Nat) : Int) != 0) = true := by rw [bne, b0]; rfl
        generalize lp y = t at *
        clear HL k4 k1 k0
        generalize y % 400 = q0 at *
        go_enter Tryd.func35, Tryd.ntmps35
        go_wp2_with fail
        go_ret
        exact ⟨by rw [HR.out]; rfl, rfl⟩
    · by_cases k0 : y % 400 = 0
      · exact absurd (show y % 100 = 0 by omega) k1
      · have HR : Hid (lp y = true) := by show _ = _; rw [HL.out]; simp [k4, k1, k0]
        rw [k4] at e4
        have b1 : (((y % 100 : Nat) : Int) == 0) = false := beq_false_of_ne (by omega)
        have c1 : (((y % 100 : Nat) : Int) != 0) = true := by rw [bne, b1]; rfl
        have b0 : (((y % 400 : Nat) : Int) == 0) = false := beq_false_of_ne (by omega)
        have c0 : (((y % 400 : Nat) : Int) != 0) = true := by rw [bne, b0]; rfl
        generalize lp y = t at *
        clear HL k4 k1 k0
        generalize y % 100 = q1 at *
        generalize y % 400 = q0 at *
        go_enter Tryd.func35, Tryd.ntmps35
        go_wp2_with fail
        go_ret
        exact ⟨by rw [HR.out]; rfl, rfl⟩
  · by_cases k1 : y % 100 = 0
    · by_cases k0 : y % 400 = 0
      · exact absurd (show y % 4 = 0 by omega) k4
      · exact absurd (show y % 4 = 0 by omega) k4
    · by_cases k0 : y % 400 = 0
      · exact absurd (show y % 100 = 0 by omega) k1
      · have HR : Hid (lp y = false) := by show _ = _; rw [HL.out]; simp [k4, k1, k0]
        have b4 : (((y % 4 : Nat) : Int) == 0) = false := beq_false_of_ne (by omega)
        have c4 : (((y % 4 : Nat) : Int) != 0) = true := by rw [bne, b4]; rfl
        have b1 : (((y % 100 : Nat) : Int) == 0) = false := beq_false_of_ne (by omega)
        have c1 : (((y % 100 : Nat) : Int) != 0) = true := by rw [bne, b1]; rfl
        have b0 : (((y % 400 : Nat) : Int) == 0) = false := beq_false_of_ne (by omega)
        have c0 : (((y % 400 : Nat) : Int) != 0) = true := by rw [bne, b0]; rfl
        generalize lp y = t at *
        clear HL k4 k1 k0
        generalize y % 4 = q4 at *
        generalize y % 100 = q1 at *
        generalize y % 400 = q0 at *
        go_enter Tryd.func35, Tryd.ntmps35
        go_wp2_with fail
        go_ret
        exact ⟨by rw [HR.out]; rfl, rfl⟩

set_option maxRecDepth 100000 in
set_option maxHeartbeats 1600000 in
theorem refDaysOf_any (y : Nat) (w : World) : Calls Tryd.prog 24 #[.int .i64 (y : Int)] w fun e w' => e = .returned (.int .i64 (yl y : Int)) ∧ w' = w := by
  have HL := hide (refLeap_any y w)
  have HY : Hid (yl y = if lp y then 366 else 365) := rfl
  cases hl : lp y with
  | true =>
    rw [hl] at HL HY
    have HR : Hid (yl y = 366) := HY.out
    clear HY hl
    generalize yl y = q at *
    go_enter Tryd.func24, Tryd.ntmps24
    go_wp2_with fail
    refine HL.out.mono ?_
    rintro x w1 ⟨rfl, rfl⟩
    go_wp2_with fail
    go_ret
    exact ⟨by rw [HR.out]; rfl, rfl⟩
  | false =>
    rw [hl] at HL HY
    have HR : Hid (yl y = 365) := HY.out
    clear HY hl
    generalize yl y = q at *
    go_enter Tryd.func24, Tryd.ntmps24
    go_wp2_with fail
    refine HL.out.mono ?_
    rintro x w1 ⟨rfl, rfl⟩
    go_wp2_with fail
    go_ret
    exact ⟨by rw [HR.out]; rfl, rfl⟩

/-- the date in its box, and the result's cell -/
structure CvI (w wr : World) (y m wk : Nat) : Prop where
  box : wr.heap[w.heap.size + 1]? = some (.cells #[.int .i64 (y : Int), .int .i64 (m : Int), .int .i64 0, .int .i64 0, .int .i64 0, .int .i64 0, .int .i64 (wk : Int)] 26)
  res : wr.there w.heap.size 0 7
  bel : Below w.heap.size w wr
theorem set_box {w : World} {b : Nat} {cs : Array Value} {t : TypeId} {fz : Nat × Nat} (h : w.heap[b]? = some (.cells cs t fz)) (j : Nat) (v : Value) : (w.setCell ⟨b, j, none⟩ v).heap[b]? = some (.cells (cs.setIfInBounds j v) t fz) := by
  simp [World.setCell, Array.getElem?_modify, h]
theorem set_else {w : World} {b c : Nat} (h : c ≠ b) (j : Nat) (v : Value) : (w.setCell ⟨b, j, none⟩ v).heap[c]? = w.heap[c]? := by
  simp [World.setCell, Array.getElem?_modify, Ne.symm h]
theorem CvI.year {w wr : World} {y m wk : Nat} (h : CvI w wr y m wk) (k : Nat) : CvI w (wr.setCell ⟨w.heap.size + 1, 0, none⟩ (.int .i64 (k : Int))) k m wk :=
  ⟨by rw [set_box h.box]; rfl, there_blk h.res (set_else (by omega) _ _), h.bel.setCell (by simp) _⟩
theorem CvI.month {w wr : World} {y m wk : Nat} (h : CvI w wr y m wk) (k : Nat) : CvI w (wr.setCell ⟨w.heap.size + 1, 1, none⟩ (.int .i64 (k : Int))) y k wk :=
  ⟨by rw [set_box h.box]; rfl, there_blk h.res (set_else (by omega) _ _), h.bel.setCell (by simp) _⟩
theorem CvI.cells {w wr : World} {y m wk : Nat} (h : CvI w wr y m wk) : wr.cell? ⟨w.heap.size + 1, 0, none⟩ = some (.int .i64 (y : Int)) ∧ wr.cell? ⟨w.heap.size + 1, 1, none⟩ = some (.int .i64 (m : Int)) := by
  constructor <;> simp [World.cell?, h.box]
theorem CvI.froz {w wr : World} {y m wk : Nat} (h : CvI w wr y m wk) (j : Nat) : wr.frozen? ⟨w.heap.size + 1, j, none⟩ = false := by
  simp [World.frozen?, h.box]
theorem CvI.lays {w wr : World} {y m wk : Nat} (h : CvI w wr y m wk) : wr.there (w.heap.size + 1) 0 7 := there_of h.box
theorem cv_set {w : World} {b : Nat} {y m wk : Nat} (h : w.heap[b]? = some (.cells #[.int .i64 (y : Int), .int .i64 (m : Int), .int .i64 0, .int .i64 0, .int .i64 0, .int .i64 0, .int .i64 (wk : Int)] 26)) (d ho mi se : Int) : ((((w.setCell ⟨b, 2, none⟩ (.int .i64 d)).setCell ⟨b, 3, none⟩ (.int .i64 ho)).setCell ⟨b, 4, none⟩ (.int .i64 mi)).setCell ⟨b, 5, none⟩ (.int .i64 se)).heap[b]? = some (.cells #[.int .i64 (y : Int), .int .i64 (m : Int), .int .i64 d, .int .i64 ho, .int .i64 mi, .int .i64 se, .int .i64 (wk : Int)] 26) := by
  rw [set_box (set_box (set_box (set_box h 2 _) 3 _) 4 _) 5 _]; rfl

theorem froz_of {w : World} {b : Nat} {cs : Array Value} {t : TypeId} (h : w.heap[b]? = some (.cells cs t)) (j : Nat) : w.frozen? ⟨b, j, none⟩ = false := by
  simp [World.frozen?, h]
theorem wrpN (a : Nat) (h : a ≤ 1000000000) : wrap64 ((a : Int) + 1) = (a : Int) + 1 := by unfold wrap64; omega
theorem wrpS (a b : Nat) (h : b ≤ a) (h1 : a ≤ 1000000000) : wrap64 ((a : Int) - (b : Int)) = (a : Int) - (b : Int) := by unfold wrap64; omega
theorem year_most {y left D : Nat} (h : left + yb y = D) (hD : D < yb 10000) (h0 : 1970 ≤ y) (hy : y ≤ 9999) (hge : yl y ≤ left) : y + 1 ≤ 9999 := by
  rcases Nat.lt_or_ge y 9999 with h1 | h1
  · omega
  · exfalso
    have e : 10000 = y + 1 := by omega
    rw [e, yb_succ y h0] at hD
    omega
end Go.Proofs.YtlbhiefamnpphaaDoor.jc
