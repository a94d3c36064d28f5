import Derived.Test.YtlbhiefamnpphaaDoorJcNx
namespace Go.Proofs.YtlbhiefamnpphaaDoor.jc
open Go.ChangeShapes Go.WideShapes Go.ChangeAt Go.RowKit Go.Proofs.YtlbhiefamnpphaaDoor.common Go.Proofs.YtlbhiefamnpphaaDoor.Jc

/-- the date is a date, its second is that second -/
theorem mo_is {n : Nat} {x : Dt} (h : Is n x) (hn : n ≤ 253402300799) : Mo (x.y : Int) (x.m : Int) (x.d : Int) (x.h : Int) (x.i : Int) (x.s : Int) x := by
  have hy := h.year hn
  exact ⟨h.ok, hy, rfl, rfl, rfl, rfl, rfl, rfl⟩
theorem dt_nat (x : Dt) : dt (x.y : Int) (x.m : Int) (x.d : Int) (x.h : Int) (x.i : Int) (x.s : Int) = { x with w := 0 } := by
  simp [dt]
theorem day_w (x : Dt) (k : Nat) : Dt.day { x with w := k } = x.day := rfl
theorem sec_w (x : Dt) (k : Nat) : Dt.sec { x with w := k } = x.sec := rfl
theorem date_is {n : Nat} {x : Dt} (h : Is n x) (hn : n ≤ 253402300799) : dateB (x.y : Int) (x.m : Int) (x.d : Int) (x.h : Int) (x.i : Int) (x.s : Int) (x.w : Int) = true ∧ (dt (x.y : Int) (x.m : Int) (x.d : Int) (x.h : Int) (x.i : Int) (x.s : Int)).sec = n := by
  refine ⟨?_, ?_⟩
  · unfold dateB
    rw [mom_of (mo_is h hn), dt_nat, day_w, h.w]
    simp
  · rw [dt_nat, sec_w, h.sec]
theorem date_not {n : Nat} {x : Dt} (h : Is n x) : dateB (x.y : Int) (x.m : Int) (x.d : Int) (x.h : Int) (x.i : Int) (x.s : Int) (((x.w + 1) % 7 : Nat) : Int) = false := by
  unfold dateB
  rw [dt_nat, day_w]
  have e : ((((x.w + 1) % 7 : Nat) : Int) == (((4 + x.day) % 7 : Nat) : Int)) = false := beq_false_of_ne (by have := h.w; omega)
  rw [e]; simp
end Go.Proofs.YtlbhiefamnpphaaDoor.jc
