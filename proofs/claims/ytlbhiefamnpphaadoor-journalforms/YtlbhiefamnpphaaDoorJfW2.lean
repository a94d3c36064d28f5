import Derived.Test.YtlbhiefamnpphaaDoorJfW1
import Derived.Test.YtlbhiefamnpphaaDoorPickWalk
import Derived.Test.YtlbhiefamnpphaaDoorJcNl
namespace Go.Proofs.YtlbhiefamnpphaaDoor.jf
open Go.ChangeShapes Go.WideShapes Go.ChangeAt Go.RowKit Go.Proofs.YtlbhiefamnpphaaDoor.common Go.Proofs.YtlbhiefamnpphaaDoor.Jc Go.Proofs.YtlbhiefamnpphaaDoor.jc Go.Proofs.YtlbhiefamnpphaaDoor.je
attribute [local go_sem ↓] Go.wp_at_zero Go.wp_at_succ

set_option maxRecDepth 100000 in
set_option maxHeartbeats 3200000 in
theorem dated_any (x : Dt) (hx : Ok x) (hw : x.w < 7) (hy : x.y ≤ 9999) (w : World) :
    Calls Tryd.prog 6 #[dv x] w fun e w' => e = .returned (.bool true) ∧ Below w.heap.size w w' := by
  have hd1 := (md_most x.y x.m hx.m0 hx.m1).2
  obtain ⟨y0, m0, m1, d0, d1, h1, i1, s1⟩ := hx
  have a1 : decide ((1970 : Int) ≤ (x.y : Int)) = true := decide_eq_true (by omega)
  have a2 : decide ((x.y : Int) ≤ 9999) = true := decide_eq_true (by omega)
  have a3 : decide ((1 : Int) ≤ (x.m : Int)) = true := decide_eq_true (by omega)
  have a4 : decide ((x.m : Int) ≤ 12) = true := decide_eq_true (by omega)
  have a5 : decide ((1 : Int) ≤ (x.d : Int)) = true := decide_eq_true (by omega)
  have a6 : decide ((x.d : Int) ≤ 31) = true := decide_eq_true (by omega)
  have b1 : decide ((0 : Int) ≤ (x.h : Int)) = true := decide_eq_true (by omega)
  have b2 : decide ((x.h : Int) < 24) = true := decide_eq_true (by omega)
  have b3 : decide ((0 : Int) ≤ (x.i : Int)) = true := decide_eq_true (by omega)
  have b4 : decide ((x.i : Int) < 60) = true := decide_eq_true (by omega)
  have b5 : decide ((0 : Int) ≤ (x.s : Int)) = true := decide_eq_true (by omega)
  have b6 : decide ((x.s : Int) < 60) = true := decide_eq_true (by omega)
  have b7 : decide ((0 : Int) ≤ (x.w : Int)) = true := decide_eq_true (by omega)
  have b8 : decide ((x.w : Int) < 7) = true := decide_eq_true (by omega)
  obtain ⟨r0, r1, r2, r3, r4, r5, r6⟩ := obc (heap_new w (ob x))
  have HB : Hid (Below w.heap.size w (w.alloc (ob x))) := (Below.refl _ _).alloc (Nat.le_refl _) _
  clear hd1 hw hy y0 m0 m1 d0 d1 h1 i1 s1
  unfold dv
  go_enter Tryd.func6, Tryd.ntmps6
  go_wp2_with fail
  go_ret
  exact ⟨rfl, HB.out⟩

theorem n_wraps (y : Nat) (p : Int) (h0 : y ≤ 9999) (h1 : 0 ≤ p) (h2 : p < 100) : wrap64 ((y : Int) - 50) = (y : Int) - 50 ∧ wrap64 ((y : Int) - 50 + p) = (y : Int) - 50 + p := ⟨wrp _ ⟨by omega, by omega⟩, wrp _ ⟨by omega, by omega⟩⟩
theorem yb_most (y : Nat) (h : y ≤ 9999) (h0 : 1970 ≤ y) : yb y ≤ 2932897 := by
  have := yb_le h0 (show y ≤ 10000 by omega)
  rw [yb_past] at this; exact this
theorem m_wrap (a : Nat) (h : a ≤ 2932897) : wrap64 ((a : Int) * 86400) = ((86400 * a : Nat) : Int) := by
  have : ((86400 * a : Nat) : Int) = (a : Int) * 86400 := by omega
  rw [this]; exact wrp _ ⟨by omega, by omega⟩
/-- the year that near picks -/
def nearY (y : Nat) (k : Int) : Nat := if (y : Int) - 50 + kitw.pick k 100 < 1970 ∨ 9999 < (y : Int) - 50 + kitw.pick k 100 then y else ((y : Int) - 50 + kitw.pick k 100).toNat
theorem nearY_is (y : Nat) (k : Int) (h0 : 1970 ≤ y) (h1 : y ≤ 9999) : 1970 ≤ nearY y k ∧ nearY y k ≤ 9999 ∧ y ≤ nearY y k + 50 ∧ nearY y k ≤ y + 49 := by
  have h := kitw.pick_bounds k 100
  have h2 := h.2 (by omega)
  have h3 := h.1
  unfold nearY
  generalize kitw.pick k 100 = p at *
  split <;> omega
theorem nearY_in {y : Nat} {k p : Int} (hp : kitw.pick k 100 = p) (h : ¬ ((y : Int) - 50 + p < 1970 ∨ 9999 < (y : Int) - 50 + p)) : ((nearY y k : Nat) : Int) = (y : Int) - 50 + p := by
  unfold nearY; rw [hp, if_neg h]; omega
theorem nearY_out {y : Nat} {k p : Int} (hp : kitw.pick k 100 = p) (h : (y : Int) - 50 + p < 1970 ∨ 9999 < (y : Int) - 50 + p) : nearY y k = y := by
  unfold nearY; rw [hp, if_pos h]
end Go.Proofs.YtlbhiefamnpphaaDoor.jf
