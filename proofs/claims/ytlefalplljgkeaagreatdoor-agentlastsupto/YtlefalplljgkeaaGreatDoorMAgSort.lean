import Derived.Shelf.Lays
import Derived.Shelf.Lays2
import Derived.Shelf.LaysM
import Derived.Shelf.LaysC
import Derived.Ground.NamesProg
import Derived.Ground.Names2Prog
import Derived.Test.YtlefalplljgkeaaGreatDoorProg
import Derived.Test.YtlefalplljgkeaaGreatDoorMAgMath
import Derived.Shelf.Small.Bits
namespace Go.Proofs.YtlefalplljgkeaaGreatDoor.jl
open Go.Shelf
def lays125_ren : Go.Shelf.Ren := ⟨fun | 125 => 62 | 128 => 91 | 129 => 92 | n => n, fun | 46 => 112 | 3 => 3 | 51 => 142 | 53 => 144 | 4 => 4 | 5 => 5 | 9 => 9 | n => n, fun | n => n⟩
theorem lays125 : Go.Proofs.Lays.n125 Tryz.prog lays125_ren := {
  mixed := by kernel_rfl
  f125 := Tryz.func62.trans (congrArg some (by kernel_rfl))
  f128 := Tryz.func91.trans (congrArg some (by kernel_rfl))
  f129 := Tryz.func92.trans (congrArg some (by kernel_rfl))
  t3 := Tryz.underlying3
  a3 := Tryz.isAgg3
  z3 := Tryz.sizeOf3
  v3 := Tryz.zeroValue3
  t4 := Tryz.underlying4
  a4 := Tryz.isAgg4
  z4 := Tryz.sizeOf4
  v4 := Tryz.zeroValue4
  t5 := Tryz.underlying5
  a5 := Tryz.isAgg5
  z5 := Tryz.sizeOf5
  v5 := Tryz.zeroValue5
  t9 := Tryz.underlying9
  a9 := Tryz.isAgg9
  z9 := Tryz.sizeOf9
  v9 := Tryz.zeroValue9
  t46 := Tryz.underlying112
  a46 := Tryz.isAgg112
  z46 := Tryz.sizeOf112
  v46 := Tryz.zeroValue112
  t51 := Tryz.underlying142
  a51 := Tryz.isAgg142
  z51 := Tryz.sizeOf142
  v51 := Tryz.zeroValue142
  t53 := Tryz.underlying144
  a53 := Tryz.isAgg144
  z53 := Tryz.sizeOf144
  v53 := Tryz.zeroValue144 }
end Go.Proofs.YtlefalplljgkeaaGreatDoor.jl

namespace Go.Proofs.YtlefalplljgkeaaGreatDoor.ag
open Go.ChangeShapes Go.WideShapes Go.ChangeAt Go.RowKit Go.Proofs.YtlefalplljgkeaaGreatDoor.common
attribute [local go_sem ↓] Go.wp_at_zero Go.wp_at_succ

theorem blen_any (n : Nat) (hn : n ≤ 1) (w : World) : Calls Tryz.prog 62 #[.int .u64 (n : Int)] w fun e w' => e = .returned (.int .i64 (n : Int)) ∧ w' = w := by
  have h := Any.bits_Len jl.lays125 (n : Int) w (by omega) (by omega)
  have e : ((Lib.bitLen (n : Int).toNat : Nat) : Int) = (n : Int) := by
    have hc : n = 0 ∨ n = 1 := by omega
    rcases hc with rfl | rfl <;> decide
  rw [e] at h
  exact h
set_option maxRecDepth 100000 in
set_option maxHeartbeats 3200000 in
theorem ins_any (v fv : Value) (n : Nat) (hn : n ≤ 1) (w : World) : Calls Tryz.prog 83 #[v, .int .i64 0, .int .i64 (n : Int), fv] w fun e w' => e = .returned (.tuple #[]) ∧ w' = w := by
  have h1 : ¬ (1 : Int) < (n : Int) := by omega
  go_enter Tryz.func83, Tryz.ntmps83
  go_wp2_with fail
  go_loopw [8] (fun i wr => i = .int .i64 1 ∧ wr = w) (fun _ _ => 0)
  case atStart => exact ⟨rfl, rfl⟩
  case round =>
    obtain ⟨rfl, rfl⟩ := hrel
    go_wp2_with fail
    go_end0
    exact ⟨rfl, rfl⟩
set_option maxRecDepth 100000 in
set_option maxHeartbeats 3200000 in
theorem pdq_any (v fv : Value) (n : Nat) (hn : n ≤ 1) (L : Value) (w : World) : Calls Tryz.prog 61 #[v, .int .i64 0, .int .i64 (n : Int), L, fv] w fun e w' => e = .returned (.tuple #[]) ∧ w' = w := by
  have h1 : (n : Int) ≤ 12 := by omega
  have hw : wrap64 (n : Int) = (n : Int) := by unfold wrap64; omega
  have hw2 : IntKind.i64.wrap (n : Int) = (n : Int) := bk.wrap_le _ (by omega) (by omega)
  have HI := hide (fun W => ins_any v fv n hn W)
  go_enter Tryz.func61, Tryz.ntmps61
  go_wp2_with fail
  go_loopw [1, 2] (fun a b wr => a = .int .i64 0 ∧ b = .int .i64 (n : Int) ∧ wr = w) (fun _ _ _ => 0)
  case atStart => exact ⟨rfl, rfl, rfl⟩
  case round =>
    obtain ⟨rfl, rfl, rfl⟩ := hrel
    go_wp2_with fail
    refine (HI.out _).mono ?_
    rintro e w1 ⟨rfl, rfl⟩
    go_wp2_with fail
    exact bodyPost_ret (results_none rfl _ _ _) rfl ⟨rfl, rfl⟩
set_option maxRecDepth 100000 in
set_option maxHeartbeats 3200000 in
theorem sort1_any (oa : Option Addr) (cap : Nat) (fv : Value) (n : Nat) (hn : n ≤ 1) (w : World) : Calls Tryz.prog 47 #[.slice oa n cap, fv] w fun e w' => e = .returned (.tuple #[]) ∧ w' = w := by
  have hw3 : IntKind.u64.wrap (n : Int) = (n : Int) := by
    have hc : n = 0 ∨ n = 1 := by omega
    rcases hc with rfl | rfl <;> rfl
  have HB := hide (fun W => blen_any n hn W)
  have HP := hide (fun L W => pdq_any (.slice oa n cap) fv n hn L W)
  go_enter Tryz.func47, Tryz.ntmps47
  go_wp2_with fail
  refine (HB.out _).mono ?_
  rintro e w1 ⟨rfl, rfl⟩
  go_wp2_with fail
  refine (HP.out _ _).mono ?_
  rintro e w2 ⟨rfl, rfl⟩
  go_wp2_with fail
  go_end0
  exact ⟨rfl, rfl⟩
end Go.Proofs.YtlefalplljgkeaaGreatDoor.ag
