import Derived.Test.YtlbhiefamnpphaaDoorJdR1
namespace Go.Proofs.YtlbhiefamnpphaaDoor.jc
open Go.ChangeShapes Go.WideShapes Go.ChangeAt Go.RowKit Go.Proofs.YtlbhiefamnpphaaDoor.common Go.Proofs.YtlbhiefamnpphaaDoor.Jc

set_option maxRecDepth 100000 in
set_option maxHeartbeats 1600000 in
theorem start_any (y : Nat) (w : World) (h0 : 1970 ≤ y) (h1 : y ≤ 9999) : Calls Tryd.prog 15 #[.int .i64 (y : Int)] w fun e w' => e = .returned (.int .i64 (yb y : Int)) ∧ w' = w := by
  go_enter Tryd.func15, Tryd.ntmps15
  go_wp2_with fail
  go_loopw [3, 4] (fun u v wr => ∃ n z : Nat, u = .int .i64 (n : Int) ∧ v = .int .i64 (z : Int) ∧ 1970 ≤ z ∧ z ≤ y ∧ Hid (n = yb z) ∧ wr = w) (fun _ v _ => 10000 - (intOf v).toNat)
  case atStart => exact ⟨0, 1970, rfl, rfl, by omega, h0, yb_first.symm, rfl⟩
  case round =>
    obtain ⟨n, z, rfl, rfl, z0, z1, HN, rfl⟩ := hrel
    by_cases hz : z < y
    · have hzi : (z : Int) < (y : Int) := by omega
      have HD := hide (refDaysOf_any z wr)
      have HN2 : Hid (n + yl z = yb (z + 1)) := by show _ = _; rw [yb_succ z z0, HN.out]
      have hn : n ≤ 366 * z := by rw [HN.out]; exact yb_most z
      have hyl := yl_two z
      have Hv : Hid (Value.int .i64 (wrap64 ((n : Int) + (yl z : Int))) = .int .i64 ((n + yl z : Nat) : Int)) := by
        show _ = _
        have : n + yl z ≤ 1000000000 := by omega
        clear hyl
        rw [wrp _ ⟨by omega, by omega⟩]; rfl
      have Hv2 : Hid (Value.int .i64 (wrap64 ((z : Int) + 1)) = .int .i64 ((z + 1 : Nat) : Int)) := by show _ = _; rw [wrpN z (by omega)]; rfl
      have HZ : Hid (z + 1 ≤ y) := hz
      clear HN hn hyl hz
      generalize yl z = q at *
      go_wp2_with fail
      refine HD.out.mono ?_
      rintro x w1 ⟨rfl, rfl⟩
      go_wp2_with fail
      go_roundw
      case rel => exact ⟨n + q, z + 1, by first | exact Hv.out | go_num, by first | exact Hv2.out | go_num, by omega, HZ.out, HN2, by trivial⟩
      case measure => have := HZ.out; simp [intOf]; omega
    · have ez : z = y := by omega
      subst ez
      clear hz
      have hzi : ¬ ((z : Int) < (z : Int)) := by omega
      go_wp2_with fail
      go_ret
      exact ⟨by rw [HN.out]; rfl, rfl⟩

end Go.Proofs.YtlbhiefamnpphaaDoor.jc
