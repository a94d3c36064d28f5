import Derived.Test.YtkmhhodapnlkiaaDoorRows
import Derived.Test.YtkmhhodapnlkiaaDoorCommon
import Derived.Test.YtkmhhodapnlkiaaDoorShaMath
import Derived.WalkKit
import Derived.WalkSpells
import Derived.WalkLawsBesides
import Derived.Outline
import Derived.Laws.BitsAllLaws
namespace Go.Proofs.YtkmhhodapnlkiaaDoor.shaw
open Go.ChangeShapes Go.WideShapes Go.ChangeAt Go.RowKit Go.Proofs.YtkmhhodapnlkiaaDoor.common

/-- a word as a value -/
abbrev V (x : BitVec 32) : Value := .int .u32 (x.toNat : Int)

theorem b_xor (a b : BitVec 32) : bits .xor .u32 (a.toNat : Int) (b.toNat : Int) = ((a ^^^ b).toNat : Int) := by
  rw [u32_xor_nat a.toNat b.toNat (by have := a.isLt; omega) (by have := b.isLt; omega), BitVec.toNat_xor]
theorem b_and (a b : BitVec 32) : bits .and .u32 (a.toNat : Int) (b.toNat : Int) = ((a &&& b).toNat : Int) := by
  rw [u32_and_nat a.toNat b.toNat (by have := a.isLt; omega) (by have := b.isLt; omega), BitVec.toNat_and]
theorem b_or (a b : BitVec 32) : bits .or .u32 (a.toNat : Int) (b.toNat : Int) = ((a ||| b).toNat : Int) := by
  rw [u32_or_nat a.toNat b.toNat (by have := a.isLt; omega) (by have := b.isLt; omega), BitVec.toNat_or]
theorem b_add (a b : BitVec 32) : ((a.toNat : Int) + (b.toNat : Int)) % 4294967296 = ((a + b).toNat : Int) := by
  rw [BitVec.toNat_add]; omega
theorem b_shr (x : BitVec 32) (n : Nat) : (x.toNat : Int) / (2 : Int) ^ n = ((x >>> n).toNat : Int) := by
  rw [BitVec.toNat_ushiftRight, Nat.shiftRight_eq_div_pow]; simp
theorem b_shl (x : BitVec 32) (n : Nat) : (x.toNat : Int) * (2 : Int) ^ n % 4294967296 = ((x <<< n).toNat : Int) := by
  rw [BitVec.toNat_shiftLeft, Nat.shiftLeft_eq]
  have : ((x.toNat * 2 ^ n : Nat) : Int) = (x.toNat : Int) * (2 : Int) ^ n := by rw [Int.natCast_mul, Int.natCast_pow]; rfl
  rw [← this]; omega

theorem turn_7 (x : BitVec 32) (w : World) : Calls Tryd.prog 42 #[V x, .int .i64 7] w fun e w' => e = .returned (V (Sha.rr x 7)) ∧ w' = w := by
  have hk : bits .and .u64 (IntKind.u64.wrap (-7)) 31 = 25 := by decide
  have ho : bits .or .u32 ((x.toNat : Int) * 33554432 % 4294967296) ((x.toNat : Int) / 128) = ((Sha.rr x 7).toNat : Int) := by
    have h1 := b_shl x 25
    have h2 := b_shr x 7
    have e1 : (2 : Int) ^ 25 = 33554432 := by decide
    have e2 : (2 : Int) ^ 7 = 128 := by decide
    rw [e1] at h1
    rw [e2] at h2
    rw [h1, h2, b_or, BitVec.or_comm]
    rfl
  go_enter Tryd.func42, Tryd.ntmps42
  go_wp2
  go_ret
  exact ⟨rfl, rfl⟩

theorem turn_18 (x : BitVec 32) (w : World) : Calls Tryd.prog 42 #[V x, .int .i64 18] w fun e w' => e = .returned (V (Sha.rr x 18)) ∧ w' = w := by
  have hk : bits .and .u64 (IntKind.u64.wrap (-18)) 31 = 14 := by decide
  have ho : bits .or .u32 ((x.toNat : Int) * 16384 % 4294967296) ((x.toNat : Int) / 262144) = ((Sha.rr x 18).toNat : Int) := by
    have h1 := b_shl x 14
    have h2 := b_shr x 18
    have e1 : (2 : Int) ^ 14 = 16384 := by decide
    have e2 : (2 : Int) ^ 18 = 262144 := by decide
    rw [e1] at h1
    rw [e2] at h2
    rw [h1, h2, b_or, BitVec.or_comm]
    rfl
  go_enter Tryd.func42, Tryd.ntmps42
  go_wp2
  go_ret
  exact ⟨rfl, rfl⟩

theorem turn_17 (x : BitVec 32) (w : World) : Calls Tryd.prog 42 #[V x, .int .i64 17] w fun e w' => e = .returned (V (Sha.rr x 17)) ∧ w' = w := by
  have hk : bits .and .u64 (IntKind.u64.wrap (-17)) 31 = 15 := by decide
  have ho : bits .or .u32 ((x.toNat : Int) * 32768 % 4294967296) ((x.toNat : Int) / 131072) = ((Sha.rr x 17).toNat : Int) := by
    have h1 := b_shl x 15
    have h2 := b_shr x 17
    have e1 : (2 : Int) ^ 15 = 32768 := by decide
    have e2 : (2 : Int) ^ 17 = 131072 := by decide
    rw [e1] at h1
    rw [e2] at h2
    rw [h1, h2, b_or, BitVec.or_comm]
    rfl
  go_enter Tryd.func42, Tryd.ntmps42
  go_wp2
  go_ret
  exact ⟨rfl, rfl⟩

theorem turn_19 (x : BitVec 32) (w : World) : Calls Tryd.prog 42 #[V x, .int .i64 19] w fun e w' => e = .returned (V (Sha.rr x 19)) ∧ w' = w := by
  have hk : bits .and .u64 (IntKind.u64.wrap (-19)) 31 = 13 := by decide
  have ho : bits .or .u32 ((x.toNat : Int) * 8192 % 4294967296) ((x.toNat : Int) / 524288) = ((Sha.rr x 19).toNat : Int) := by
    have h1 := b_shl x 13
    have h2 := b_shr x 19
    have e1 : (2 : Int) ^ 13 = 8192 := by decide
    have e2 : (2 : Int) ^ 19 = 524288 := by decide
    rw [e1] at h1
    rw [e2] at h2
    rw [h1, h2, b_or, BitVec.or_comm]
    rfl
  go_enter Tryd.func42, Tryd.ntmps42
  go_wp2
  go_ret
  exact ⟨rfl, rfl⟩

theorem turn_2 (x : BitVec 32) (w : World) : Calls Tryd.prog 42 #[V x, .int .i64 2] w fun e w' => e = .returned (V (Sha.rr x 2)) ∧ w' = w := by
  have hk : bits .and .u64 (IntKind.u64.wrap (-2)) 31 = 30 := by decide
  have ho : bits .or .u32 ((x.toNat : Int) * 1073741824 % 4294967296) ((x.toNat : Int) / 4) = ((Sha.rr x 2).toNat : Int) := by
    have h1 := b_shl x 30
    have h2 := b_shr x 2
    have e1 : (2 : Int) ^ 30 = 1073741824 := by decide
    have e2 : (2 : Int) ^ 2 = 4 := by decide
    rw [e1] at h1
    rw [e2] at h2
    rw [h1, h2, b_or, BitVec.or_comm]
    rfl
  go_enter Tryd.func42, Tryd.ntmps42
  go_wp2
  go_ret
  exact ⟨rfl, rfl⟩

theorem turn_13 (x : BitVec 32) (w : World) : Calls Tryd.prog 42 #[V x, .int .i64 13] w fun e w' => e = .returned (V (Sha.rr x 13)) ∧ w' = w := by
  have hk : bits .and .u64 (IntKind.u64.wrap (-13)) 31 = 19 := by decide
  have ho : bits .or .u32 ((x.toNat : Int) * 524288 % 4294967296) ((x.toNat : Int) / 8192) = ((Sha.rr x 13).toNat : Int) := by
    have h1 := b_shl x 19
    have h2 := b_shr x 13
    have e1 : (2 : Int) ^ 19 = 524288 := by decide
    have e2 : (2 : Int) ^ 13 = 8192 := by decide
    rw [e1] at h1
    rw [e2] at h2
    rw [h1, h2, b_or, BitVec.or_comm]
    rfl
  go_enter Tryd.func42, Tryd.ntmps42
  go_wp2
  go_ret
  exact ⟨rfl, rfl⟩

theorem turn_22 (x : BitVec 32) (w : World) : Calls Tryd.prog 42 #[V x, .int .i64 22] w fun e w' => e = .returned (V (Sha.rr x 22)) ∧ w' = w := by
  have hk : bits .and .u64 (IntKind.u64.wrap (-22)) 31 = 10 := by decide
  have ho : bits .or .u32 ((x.toNat : Int) * 1024 % 4294967296) ((x.toNat : Int) / 4194304) = ((Sha.rr x 22).toNat : Int) := by
    have h1 := b_shl x 10
    have h2 := b_shr x 22
    have e1 : (2 : Int) ^ 10 = 1024 := by decide
    have e2 : (2 : Int) ^ 22 = 4194304 := by decide
    rw [e1] at h1
    rw [e2] at h2
    rw [h1, h2, b_or, BitVec.or_comm]
    rfl
  go_enter Tryd.func42, Tryd.ntmps42
  go_wp2
  go_ret
  exact ⟨rfl, rfl⟩

theorem turn_6 (x : BitVec 32) (w : World) : Calls Tryd.prog 42 #[V x, .int .i64 6] w fun e w' => e = .returned (V (Sha.rr x 6)) ∧ w' = w := by
  have hk : bits .and .u64 (IntKind.u64.wrap (-6)) 31 = 26 := by decide
  have ho : bits .or .u32 ((x.toNat : Int) * 67108864 % 4294967296) ((x.toNat : Int) / 64) = ((Sha.rr x 6).toNat : Int) := by
    have h1 := b_shl x 26
    have h2 := b_shr x 6
    have e1 : (2 : Int) ^ 26 = 67108864 := by decide
    have e2 : (2 : Int) ^ 6 = 64 := by decide
    rw [e1] at h1
    rw [e2] at h2
    rw [h1, h2, b_or, BitVec.or_comm]
    rfl
  go_enter Tryd.func42, Tryd.ntmps42
  go_wp2
  go_ret
  exact ⟨rfl, rfl⟩

theorem turn_11 (x : BitVec 32) (w : World) : Calls Tryd.prog 42 #[V x, .int .i64 11] w fun e w' => e = .returned (V (Sha.rr x 11)) ∧ w' = w := by
  have hk : bits .and .u64 (IntKind.u64.wrap (-11)) 31 = 21 := by decide
  have ho : bits .or .u32 ((x.toNat : Int) * 2097152 % 4294967296) ((x.toNat : Int) / 2048) = ((Sha.rr x 11).toNat : Int) := by
    have h1 := b_shl x 21
    have h2 := b_shr x 11
    have e1 : (2 : Int) ^ 21 = 2097152 := by decide
    have e2 : (2 : Int) ^ 11 = 2048 := by decide
    rw [e1] at h1
    rw [e2] at h2
    rw [h1, h2, b_or, BitVec.or_comm]
    rfl
  go_enter Tryd.func42, Tryd.ntmps42
  go_wp2
  go_ret
  exact ⟨rfl, rfl⟩

theorem turn_25 (x : BitVec 32) (w : World) : Calls Tryd.prog 42 #[V x, .int .i64 25] w fun e w' => e = .returned (V (Sha.rr x 25)) ∧ w' = w := by
  have hk : bits .and .u64 (IntKind.u64.wrap (-25)) 31 = 7 := by decide
  have ho : bits .or .u32 ((x.toNat : Int) * 128 % 4294967296) ((x.toNat : Int) / 33554432) = ((Sha.rr x 25).toNat : Int) := by
    have h1 := b_shl x 7
    have h2 := b_shr x 25
    have e1 : (2 : Int) ^ 7 = 128 := by decide
    have e2 : (2 : Int) ^ 25 = 33554432 := by decide
    rw [e1] at h1
    rw [e2] at h2
    rw [h1, h2, b_or, BitVec.or_comm]
    rfl
  go_enter Tryd.func42, Tryd.ntmps42
  go_wp2
  go_ret
  exact ⟨rfl, rfl⟩

theorem smallSigma0_any (x : BitVec 32) (w : World) : Calls Tryd.prog 40 #[V x] w fun e w' => e = .returned (V (Sha.s0 x)) ∧ w' = w := by
  have h1 := b_xor (Sha.rr x 7) (Sha.rr x 18)
  have h2 : bits .xor .u32 ((Sha.rr x 7 ^^^ Sha.rr x 18).toNat : Int) ((x.toNat : Int) / 8) = ((Sha.s0 x).toNat : Int) := by
    have e := b_shr x 3
    have e2 : (2 : Int) ^ 3 = 8 := by decide
    rw [e2] at e
    rw [e, b_xor]; rfl
  generalize Sha.rr x 7 ^^^ Sha.rr x 18 = y at h1 h2
  go_enter Tryd.func40, Tryd.ntmps40
  go_wp2_with fail
  refine (turn_7 x _).mono ?_
  rintro e w' ⟨rfl, rfl⟩
  go_wp2_with fail
  refine (turn_18 x _).mono ?_
  rintro e w' ⟨rfl, rfl⟩
  go_wp2_with fail
  go_ret
  exact ⟨rfl, rfl⟩

theorem smallSigma1_any (x : BitVec 32) (w : World) : Calls Tryd.prog 41 #[V x] w fun e w' => e = .returned (V (Sha.s1 x)) ∧ w' = w := by
  have h1 := b_xor (Sha.rr x 17) (Sha.rr x 19)
  have h2 : bits .xor .u32 ((Sha.rr x 17 ^^^ Sha.rr x 19).toNat : Int) ((x.toNat : Int) / 1024) = ((Sha.s1 x).toNat : Int) := by
    have e := b_shr x 10
    have e2 : (2 : Int) ^ 10 = 1024 := by decide
    rw [e2] at e
    rw [e, b_xor]; rfl
  generalize Sha.rr x 17 ^^^ Sha.rr x 19 = y at h1 h2
  go_enter Tryd.func41, Tryd.ntmps41
  go_wp2_with fail
  refine (turn_17 x _).mono ?_
  rintro e w' ⟨rfl, rfl⟩
  go_wp2_with fail
  refine (turn_19 x _).mono ?_
  rintro e w' ⟨rfl, rfl⟩
  go_wp2_with fail
  go_ret
  exact ⟨rfl, rfl⟩

theorem bigSigma0_any (x : BitVec 32) (w : World) : Calls Tryd.prog 39 #[V x] w fun e w' => e = .returned (V (Sha.S0 x)) ∧ w' = w := by
  have h1 := b_xor (Sha.rr x 2) (Sha.rr x 13)
  have h2 : bits .xor .u32 ((Sha.rr x 2 ^^^ Sha.rr x 13).toNat : Int) ((Sha.rr x 22).toNat : Int) = ((Sha.S0 x).toNat : Int) := by
    rw [b_xor]; rfl
  generalize Sha.rr x 2 ^^^ Sha.rr x 13 = y at h1 h2
  go_enter Tryd.func39, Tryd.ntmps39
  go_wp2_with fail
  refine (turn_2 x _).mono ?_
  rintro e w' ⟨rfl, rfl⟩
  go_wp2_with fail
  refine (turn_13 x _).mono ?_
  rintro e w' ⟨rfl, rfl⟩
  go_wp2_with fail
  refine (turn_22 x _).mono ?_
  rintro e w' ⟨rfl, rfl⟩
  go_wp2_with fail
  go_ret
  exact ⟨rfl, rfl⟩

theorem bigSigma1_any (x : BitVec 32) (w : World) : Calls Tryd.prog 38 #[V x] w fun e w' => e = .returned (V (Sha.S1 x)) ∧ w' = w := by
  have h1 := b_xor (Sha.rr x 6) (Sha.rr x 11)
  have h2 : bits .xor .u32 ((Sha.rr x 6 ^^^ Sha.rr x 11).toNat : Int) ((Sha.rr x 25).toNat : Int) = ((Sha.S1 x).toNat : Int) := by
    rw [b_xor]; rfl
  generalize Sha.rr x 6 ^^^ Sha.rr x 11 = y at h1 h2
  go_enter Tryd.func38, Tryd.ntmps38
  go_wp2_with fail
  refine (turn_6 x _).mono ?_
  rintro e w' ⟨rfl, rfl⟩
  go_wp2_with fail
  refine (turn_11 x _).mono ?_
  rintro e w' ⟨rfl, rfl⟩
  go_wp2_with fail
  refine (turn_25 x _).mono ?_
  rintro e w' ⟨rfl, rfl⟩
  go_wp2_with fail
  go_ret
  exact ⟨rfl, rfl⟩

end Go.Proofs.YtkmhhodapnlkiaaDoor.shaw
