import Derived.Test.YtbibfneofcphkaaDoorJcNx
namespace Go.Proofs.YtbibfneofcphkaaDoor.jc
open Go.ChangeShapes Go.WideShapes Go.ChangeAt Go.RowKit Go.Proofs.YtbibfneofcphkaaDoor.common Go.Proofs.YtbibfneofcphkaaDoor.Jc

theorem next_any (x : Dt) (hx : Ok x) (hw : x.w < 7) (hy : x.y ≤ 9999) (w : World) (hT : LTab w) : Calls Tryd.prog 10 #[dv x] w fun e w' => e = .returned (dv (nx x)) ∧ Below w.heap.size w w' := by
  obtain ⟨y0, m0, m1, d0, d1, h1, i1, s1⟩ := hx
  obtain ⟨y, m, d, h, i, s, g⟩ := x
  simp only at *
  have e0 : dv ⟨y, m, d, h, i, s, g⟩ = dI y m d h i s g := rfl
  have dm := (md_most y m m0 m1).2
  rw [e0]
  by_cases k1 : s + 1 < 60
  · refine (next_1 y m d h i s g w k1).mono fun e w' hh => ⟨hh.1.trans ?_, hh.2⟩
    simp [dv, nx, k1]
  · have es : s = 59 := by omega
    by_cases k2 : i + 1 < 60
    · refine (next_2 y m d h i s g w es k2).mono fun e w' hh => ⟨hh.1.trans ?_, hh.2⟩
      simp [dv, nx, k1, k2]
    · have ei : i = 59 := by omega
      by_cases k3 : h + 1 < 24
      · refine (next_3 y m d h i s g w es ei k3).mono fun e w' hh => ⟨hh.1.trans ?_, hh.2⟩
        simp [dv, nx, k1, k2, k3]
      · have eh : h = 23 := by omega
        by_cases k4 : d < md y m
        · refine (next_4 y m d h i s g w es ei eh _ rfl hw hT m0 m1 (by omega) hy (decide_eq_false (by omega))).mono fun e w' hh => ⟨hh.1.trans ?_, hh.2⟩
          simp [dv, nx, k1, k2, k3, k4]
        · by_cases k5 : m + 1 ≤ 12
          · refine (next_5 y m d h i s g w es ei eh _ rfl hw hT m0 m1 (by omega) hy (decide_eq_true (by omega)) k5).mono fun e w' hh => ⟨hh.1.trans ?_, hh.2⟩
            simp [dv, nx, k1, k2, k3, k4, k5]
          · refine (next_6 y m d h i s g w es ei eh _ rfl hw hT m0 (by omega) (by omega) hy (decide_eq_true (by omega))).mono fun e w' hh => ⟨hh.1.trans ?_, hh.2⟩
            simp [dv, nx, k1, k2, k3, k4, k5]
/-- the date is a date, its second is that second -/
theorem mo_is {n : Nat} {x : Dt} (h : Is n x) (hn : n ≤ 253402300799) : Mo (x.y : Int) (x.m : Int) (x.d : Int) (x.h : Int) (x.i : Int) (x.s : Int) x := by
  have hy := h.year hn
  exact ⟨h.ok, hy, rfl, rfl, rfl, rfl, rfl, rfl⟩
theorem dt_nat (x : Dt) : dt (x.y : Int) (x.m : Int) (x.d : Int) (x.h : Int) (x.i : Int) (x.s : Int) = { x with w := 0 } := by
  simp [dt]
theorem day_w (x : Dt) (k : Nat) : Dt.day { x with w := k } = x.day := rfl
theorem sec_w (x : Dt) (k : Nat) : Dt.sec { x with w := k } = x.sec := rfl
theorem date_is {n : Nat} {x : Dt} (h : Is n x) (hn : n ≤ 253402300799) : dateB (x.y : Int) (x.m : Int) (x.d : Int) (x.h : Int) (x.i : Int) (x.s : Int) (x.w : Int) = true ∧ (dt (x.y : Int) (x.m : Int) (x.d : Int) (x.h : Int) (x.i : Int) (x.s : Int)).sec = n := by
  refine ⟨?_, ?_⟩
  · unfold dateB
    rw [mom_of (mo_is h hn), dt_nat, day_w, h.w]
    simp
  · rw [dt_nat, sec_w, h.sec]
theorem date_not {n : Nat} {x : Dt} (h : Is n x) : dateB (x.y : Int) (x.m : Int) (x.d : Int) (x.h : Int) (x.i : Int) (x.s : Int) (((x.w + 1) % 7 : Nat) : Int) = false := by
  unfold dateB
  rw [dt_nat, day_w]
  have e : ((((x.w + 1) % 7 : Nat) : Int) == (((4 + x.day) % 7 : Nat) : Int)) = false := beq_false_of_ne (by have := h.w; omega)
  rw [e]; simp
end Go.Proofs.YtbibfneofcphkaaDoor.jc
