import Derived.Test.YtlbhiefamnpphaaDoorJcMath
import Derived.Test.YtlbhiefamnpphaaDoorCommon
import Derived.WalkKit
import Derived.WalkSpells
import Derived.WalkLawsBesides
import Derived.Outline
import Derived.BigQuiet
import Derived.WalkMore
namespace Go.Proofs.YtlbhiefamnpphaaDoor.jc
open Go.ChangeShapes Go.WideShapes Go.ChangeAt Go.RowKit Go.Proofs.YtlbhiefamnpphaaDoor.common Go.Proofs.YtlbhiefamnpphaaDoor.Jc

theorem tmodN (y k : Nat) : (y : Int).tmod (k : Int) = ((y % k : Nat) : Int) := by
  rw [Int.tmod_eq_emod_of_nonneg (by omega)]; omega
theorem tdivN (y k : Nat) : (y : Int).tdiv (k : Int) = ((y / k : Nat) : Int) := by
  rw [Int.tdiv_eq_ediv_of_nonneg (by omega)]; omega

set_option maxRecDepth 100000 in
set_option maxHeartbeats 1600000 in
theorem isLeap_any (y : Nat) (w : World) : Calls Tryd.prog 32 #[.int .i64 (y : Int)] w fun e w' => e = .returned (.bool (lp y)) ∧ w' = w := by
  have e4 : (y : Int).tmod 4 = ((y % 4 : Nat) : Int) := tmodN y 4
  have e1 : (y : Int).tmod 100 = ((y % 100 : Nat) : Int) := tmodN y 100
  have e0 : (y : Int).tmod 400 = ((y % 400 : Nat) : Int) := tmodN y 400
  have HL : Hid (lp y = ((decide (y % 4 = 0) && decide (y % 100 ≠ 0)) || decide (y % 400 = 0))) := rfl
  by_cases k4 : y % 4 = 0
  · by_cases k1 : y % 100 = 0
    · by_cases k0 : y % 400 = 0
      · have HR : Hid (lp y = true) := by show _ = _; rw [HL.out]; simp [k4, k1, k0]
        rw [k4] at e4
        rw [k1] at e1
        rw [k0] at e0
        generalize lp y = t at *
        clear HL k4 k1 k0
        go_enter Tryd.func32, Tryd.ntmps32
        go_wp2_with fail
        go_ret
        exact ⟨by rw [HR.out]; rfl, rfl⟩
      · have HR : Hid (lp y = false) := by show _ = _; rw [HL.out]; simp [k4, k1, k0]
        rw [k4] at e4
        rw [k1] at e1
        have b0 : (((y % 400 : Nat) : Int) == 0) = false := beq_false_of_ne (by omega)
        have c0 : (((y % 400 : Nat) : Int) != 0) = true := by rw [bne, b0]; rfl
        generalize lp y = t at *
        clear HL k4 k1 k0
        generalize y % 400 = q0 at *
        go_enter Tryd.func32, Tryd.ntmps32
        go_wp2_with fail
        go_ret
        exact ⟨by rw [HR.out]; rfl, rfl⟩
    · by_cases k0 : y % 400 = 0
      · exact absurd (show y % 100 = 0 by omega) k1
      · have HR : Hid (lp y = true) := by show _ = _; rw [HL.out]; simp [k4, k1, k0]
        rw [k4] at e4
        have b1 : (((y % 100 : Nat) : Int) == 0) = false := beq_false_of_ne (by omega)
        have c1 : (((y % 100 : Nat) : Int) != 0) = true := by rw [bne, b1]; rfl
        have b0 : (((y % 400 : Nat) : Int) == 0) = false := beq_false_of_ne (by omega)
        have c0 : (((y % 400 : Nat) : Int) != 0) = true := by rw [bne, b0]; rfl
        generalize lp y = t at *
        clear HL k4 k1 k0
        generalize y % 100 = q1 at *
        generalize y % 400 = q0 at *
        go_enter Tryd.func32, Tryd.ntmps32
        go_wp2_with fail
        go_ret
        exact ⟨by rw [HR.out]; rfl, rfl⟩
  · by_cases k1 : y % 100 = 0
    · by_cases k0 : y % 400 = 0
      · exact absurd (show y % 4 = 0 by omega) k4
      · exact absurd (show y % 4 = 0 by omega) k4
    · by_cases k0 : y % 400 = 0
      · exact absurd (show y % 100 = 0 by omega) k1
      · have HR : Hid (lp y = false) := by show _ = _; rw [HL.out]; simp [k4, k1, k0]
        have b4 : (((y % 4 : Nat) : Int) == 0) = false := beq_false_of_ne (by omega)
        have c4 : (((y % 4 : Nat) : Int) != 0) = true := by rw [bne, b4]; rfl
        have b1 : (((y % 100 : Nat) : Int) == 0) = false := beq_false_of_ne (by omega)
        have c1 : (((y % 100 : Nat) : Int) != 0) = true := by rw [bne, b1]; rfl
        have b0 : (((y % 400 : Nat) : Int) == 0) = false := beq_false_of_ne (by omega)
        have c0 : (((y % 400 : Nat) : Int) != 0) = true := by rw [bne, b0]; rfl
        generalize lp y = t at *
        clear HL k4 k1 k0
        generalize y % 4 = q4 at *
        generalize y % 100 = q1 at *
        generalize y % 400 = q0 at *
        go_enter Tryd.func32, Tryd.ntmps32
        go_wp2_with fail
        go_ret
        exact ⟨by rw [HR.out]; rfl, rfl⟩

set_option maxRecDepth 100000 in
set_option maxHeartbeats 1600000 in
theorem leapsAhead_any (y : Nat) (w : World) (h0 : 1 ≤ y) (h1 : y ≤ 100000000000) : Calls Tryd.prog 45 #[.int .i64 (y : Int)] w fun e w' => e = .returned (.int .i64 (la y : Int)) ∧ w' = w := by
  have e4 : ((y : Int) - 1).tdiv 4 = (((y - 1) / 4 : Nat) : Int) := by rw [← tdivN]; congr 1; omega
  have e1 : ((y : Int) - 1).tdiv 100 = (((y - 1) / 100 : Nat) : Int) := by rw [← tdivN]; congr 1; omega
  have e0 : ((y : Int) - 1).tdiv 400 = (((y - 1) / 400 : Nat) : Int) := by rw [← tdivN]; congr 1; omega
  have HL : Hid (la y = (y - 1) / 4 - (y - 1) / 100 + (y - 1) / 400) := rfl
  have hq : (y - 1) / 100 ≤ (y - 1) / 4 := by omega
  have q4 : (y - 1) / 4 ≤ y := by omega
  have q0 : (y - 1) / 400 ≤ y := by omega
  generalize (y - 1) / 4 = a at *
  generalize (y - 1) / 100 = b at *
  generalize (y - 1) / 400 = c at *
  go_enter Tryd.func45, Tryd.ntmps45
  go_wp2_with fail
  go_ret
  exact ⟨by rw [HL.out]; go_num, rfl⟩
theorem la_most (y : Nat) : la y ≤ y := by unfold la; omega
theorem la_first : la 1970 = 477 := by simp [la]

set_option maxRecDepth 100000 in
set_option maxHeartbeats 1600000 in
theorem yearBegin_any (y : Nat) (w : World) (h0 : 1970 ≤ y) (h1 : y ≤ 100000000000) : Calls Tryd.prog 31 #[.int .i64 (y : Int)] w fun e w' => e = .returned (.int .i64 (yb y : Int)) ∧ w' = w := by
  have HA := hide (leapsAhead_any y w (by omega) h1)
  have HF := hide (leapsAhead_any 1970 w (by omega) (by omega))
  rw [la_first] at HF
  have HB : Hid (yb y = 365 * (y - 1970) + la y - 477) := rfl
  have hl := la_least y h0
  have hm := la_most y
  generalize la y = a at *
  generalize yb y = q at *
  go_enter Tryd.func31, Tryd.ntmps31
  go_wp2_with fail
  refine HA.out.mono ?_
  rintro x w1 ⟨rfl, rfl⟩
  go_wp2_with fail
  refine HF.out.mono ?_
  rintro x w1 ⟨rfl, rfl⟩
  go_wp2_with fail
  go_ret
  exact ⟨by rw [HB.out]; go_num, rfl⟩
theorem yb_guess (D : Nat) : D < yb (1970 + D / 365 + 1) := by
  have h := yb_mono 1970 (by omega) (D / 365 + 1)
  rw [yb_first] at h
  rw [show 1970 + D / 365 + 1 = 1970 + (D / 365 + 1) by omega]
  omega
theorem yb_most (y : Nat) : yb y ≤ 366 * y := by have := la_most y; unfold yb; omega

set_option maxRecDepth 100000 in
set_option maxHeartbeats 1600000 in
theorem yearAt_any (D : Nat) (w : World) (h1 : D ≤ 1000000000) : Calls Tryd.prog 19 #[.int .i64 (D : Int)] w fun e w' => ∃ y : Nat, e = .returned (.tuple #[.int .i64 (y : Int), .int .i64 ((D - yb y : Nat) : Int)]) ∧ 1970 ≤ y ∧ yb y ≤ D ∧ D < yb (y + 1) ∧ w' = w := by
  have eq : (D : Int).tdiv 365 = ((D / 365 : Nat) : Int) := tdivN D 365
  have HG := hide (yb_guess D)
  have hq : D / 365 ≤ D := by omega
  generalize D / 365 = g at *
  go_enter Tryd.func19, Tryd.ntmps19
  go_wp2_with fail
  go_loopw [4] (fun v wr => ∃ y : Nat, v = .int .i64 (y : Int) ∧ 1970 ≤ y ∧ y ≤ 1970 + g ∧ Hid (D < yb (y + 1)) ∧ wr = w) (fun v _ => (intOf v).toNat)
  case atStart => exact ⟨1970 + g, by go_num, by omega, by omega, HG, rfl⟩
  case round =>
    obtain ⟨y, rfl, y0, y1, HY, rfl⟩ := hrel
    have HB := hide (yearBegin_any y wr y0 (by omega))
    have hm := yb_most y
    go_wp2_with fail
    refine HB.out.mono ?_
    rintro x w1 ⟨rfl, rfl⟩
    by_cases hlt : D < yb y
    · have hgt : (D : Int) < (yb y : Int) := by omega
      have y2 : 1970 < y := by
        rcases Nat.lt_or_ge 1970 y with h | h
        · exact h
        · have e : y = 1970 := by omega
          rw [e, yb_first] at hlt; omega
      have HN : Hid (D < yb (y - 1 + 1)) := by show _ < _; rw [show y - 1 + 1 = y by omega]; exact hlt
      clear hlt HB HY
      generalize yb y = q at *
      go_wp2_with fail
      go_roundw
      case rel => exact ⟨y - 1, by go_num, by omega, by omega, HN, by trivial⟩
      case measure => simp [intOf]; omega
    · have hle : yb y ≤ D := by omega
      clear hlt
      generalize hq2 : yb y = q at *
      have HQ := hide hq2
      clear hq2
      have hgt : (q : Int) ≤ (D : Int) := by omega
      go_wp2_with fail
      refine HB.out.mono ?_
      rintro x w1 ⟨rfl, rfl⟩
      go_wp2_with fail
      go_ret2
      exact ⟨y, by rw [HQ.out]; go_num, y0, by rw [HQ.out]; exact hle, HY.out, rfl⟩

set_option maxRecDepth 100000 in
set_option maxHeartbeats 1600000 in
theorem weekdayOf_any (D : Nat) (w : World) (h1 : D ≤ 1000000000) : Calls Tryd.prog 21 #[.int .i64 (D : Int)] w fun e w' => e = .returned (.int .i64 (((4 + D) % 7 : Nat) : Int)) ∧ w' = w := by
  have e7 : (4 + (D : Int)).tmod 7 = (((4 + D) % 7 : Nat) : Int) := by rw [← tmodN]; rfl
  generalize (4 + D) % 7 = r at *
  go_enter Tryd.func21, Tryd.ntmps21
  go_wp2_with fail
  go_ret
  exact ⟨rfl, rfl⟩
/-- the days of the months, in the program's table -/
def MTab (w : World) : Prop := ∀ i, i < 12 → w.cell? ⟨5, i, none⟩ = some (.int .i64 ((tab.getD i 0 : Nat) : Int))
theorem MTab.fr {w w' : World} (h : MTab w) (hb : Below w.heap.size w w') : MTab w' := fun i hi => (hb.cell (World.block_lt_of_cell? _ _ (h i hi))).trans (h i hi)

set_option maxRecDepth 100000 in
set_option maxHeartbeats 1600000 in
theorem daysOf_any (y m : Nat) (w : World) (hT : MTab w) (m0 : 1 ≤ m) (m1 : m ≤ 12) : Calls Tryd.prog 20 #[.int .i64 (y : Int), .int .i64 (m : Int)] w fun e w' => e = .returned (.int .i64 (md y m : Int)) ∧ w' = w := by
  have hc := hT (m - 1) (by omega)
  have HL := hide (isLeap_any y w)
  have HD : Hid (md y m = if m = 2 ∧ lp y = true then 29 else tab.getD (m - 1) 0) := rfl
  have ht : tab.getD (m - 1) 0 ≤ 31 := by
    have := (md_most 1 m m0 m1).2
    unfold md at this
    rwa [if_neg (by simp [lp])] at this
  by_cases h2 : m = 2
  · subst h2
    cases hl : lp y with
    | true =>
      rw [hl] at HL
      have HR : Hid (md y 2 = tab.getD 1 0 + 1) := by show _ = _; rw [HD.out, if_pos ⟨rfl, hl⟩]; rfl
      clear HD hT hl
      generalize md y 2 = q at *
      generalize tab.getD 1 0 = r at *
      go_enter Tryd.func20, Tryd.ntmps20
      go_wp2_with fail
      refine HL.out.mono ?_
      rintro x w1 ⟨rfl, rfl⟩
      go_wp2_with fail
      go_ret
      exact ⟨by rw [HR.out]; go_num, rfl⟩
    | false =>
      rw [hl] at HL
      have HR : Hid (md y 2 = tab.getD 1 0) := by show _ = _; rw [HD.out, if_neg (by rw [hl]; simp)]
      clear HD hT hl
      generalize md y 2 = q at *
      generalize tab.getD 1 0 = r at *
      go_enter Tryd.func20, Tryd.ntmps20
      go_wp2_with fail
      refine HL.out.mono ?_
      rintro x w1 ⟨rfl, rfl⟩
      go_wp2_with fail
      go_ret
      exact ⟨by rw [HR.out]; rfl, rfl⟩
  · have b2 : ((m : Int) == 2) = false := beq_false_of_ne (by omega)
    have HR : Hid (md y m = tab.getD (m - 1) 0) := by show _ = _; rw [HD.out, if_neg (fun h => h2 h.1)]
    clear HD hT h2
    generalize md y m = q at *
    generalize tab.getD (m - 1) 0 = r at *
    generalize hk : m - 1 = k at *
    have e1 : (m : Int) - 1 = (k : Int) := by omega
    clear hk
    go_enter Tryd.func20, Tryd.ntmps20
    go_wp2_with fail
    go_ret
    exact ⟨by rw [HR.out]; rfl, rfl⟩
end Go.Proofs.YtlbhiefamnpphaaDoor.jc
