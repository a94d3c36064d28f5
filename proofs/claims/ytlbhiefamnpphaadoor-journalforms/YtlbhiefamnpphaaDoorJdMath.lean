import Derived.Test.YtlbhiefamnpphaaDoorJcMath
import Derived.Lib.ItoaNum
namespace Go.Proofs.YtlbhiefamnpphaaDoor.Jc
set_option maxRecDepth 100000
/-- a number in so many digits -/
def dg : Nat → Nat → List UInt8
  | 0, _ => []
  | k + 1, n => dg k (n / 10) ++ [UInt8.ofNat (48 + n % 10)]
theorem dg_len : ∀ k n, (dg k n).length = k
  | 0, _ => rfl
  | k + 1, n => by simp [dg, dg_len k]
theorem dg_zero : ∀ k, dg k 0 = List.replicate k 48
  | 0 => rfl
  | k + 1 => by
    rw [dg, Nat.zero_div, dg_zero k, List.replicate_succ']; rfl
/-- noughts ahead of the numeral -/
theorem dg_pad : ∀ (k n : Nat), 1 ≤ k → n < 10 ^ k → dg k n = List.replicate (k - (Lib.decDigits n).length) 48 ++ Lib.decDigits n ∧ (Lib.decDigits n).length ≤ k
  | 0, n, h, _ => by omega
  | k + 1, n, _, hn => by
    by_cases h : n < 10
    · rw [Lib.decDigits, dif_pos h]
      refine ⟨?_, by simp⟩
      rw [dg, show n / 10 = 0 by omega, dg_zero, show n % 10 = n by omega]
      simp
    · rw [Lib.decDigits, dif_neg h]
      have hk : 1 ≤ k := by
        rcases Nat.eq_zero_or_pos k with e | e
        · subst e; simp at hn; omega
        · exact e
      have hn' : n / 10 < 10 ^ k := by rw [Nat.pow_succ] at hn; omega
      obtain ⟨e, l⟩ := dg_pad k (n / 10) hk hn'
      refine ⟨?_, by simp; omega⟩
      rw [dg, e]
      simp
theorem itoa_nat (n : Nat) : Lib.itoa (n : Int) = Lib.decDigits n := by
  unfold Lib.itoa
  rw [if_neg (by omega), Int.toNat_natCast]
/-- the names of the days -/
def wdN : List (List UInt8) := [[83, 117, 110], [77, 111, 110], [84, 117, 101], [87, 101, 100], [84, 104, 117], [70, 114, 105], [83, 97, 116]]
def wdF : List (List UInt8) := [[83, 117, 110, 100, 97, 121], [77, 111, 110, 100, 97, 121], [84, 117, 101, 115, 100, 97, 121], [87, 101, 100, 110, 101, 115, 100, 97, 121], [84, 104, 117, 114, 115, 100, 97, 121], [70, 114, 105, 100, 97, 121], [83, 97, 116, 117, 114, 100, 97, 121]]
def moN : List (List UInt8) := [[74, 97, 110], [70, 101, 98], [77, 97, 114], [65, 112, 114], [77, 97, 121], [74, 117, 110], [74, 117, 108], [65, 117, 103], [83, 101, 112], [79, 99, 116], [78, 111, 118], [68, 101, 99]]
/-- the time -/
def tmL (x : Dt) : List UInt8 := dg 2 x.h ++ [58] ++ dg 2 x.i ++ [58] ++ dg 2 x.s
/-- the first form -/
def imfL (x : Dt) : List UInt8 := wdN.getD x.w [] ++ [44, 32] ++ dg 2 x.d ++ [32] ++ moN.getD (x.m - 1) [] ++ [32] ++ dg 4 x.y ++ [32] ++ tmL x ++ [32, 71, 77, 84]
/-- the second form -/
def rfcL (x : Dt) : List UInt8 := wdF.getD x.w [] ++ [44, 32] ++ dg 2 x.d ++ [45] ++ moN.getD (x.m - 1) [] ++ [45] ++ dg 2 (x.y % 100) ++ [32] ++ tmL x ++ [32, 71, 77, 84]
/-- the third form, its day with a blank or a nought -/
def dyL (bl : Bool) (d : Nat) : List UInt8 := if bl && decide (d < 10) then 32 :: dg 1 d else dg 2 d
def ascL (bl : Bool) (x : Dt) : List UInt8 := wdN.getD x.w [] ++ [32] ++ moN.getD (x.m - 1) [] ++ [32] ++ dyL bl x.d ++ [32] ++ tmL x ++ [32] ++ dg 4 x.y
theorem wdN_len (k : Nat) (h : k < 7) : (wdN.getD k []).length = 3 := by
  match k, h with
  | 0, _ | 1, _ | 2, _ | 3, _ | 4, _ | 5, _ | 6, _ => rfl
theorem moN_len (k : Nat) (h : k < 12) : (moN.getD k []).length = 3 := by
  match k, h with
  | 0, _ | 1, _ | 2, _ | 3, _ | 4, _ | 5, _ | 6, _ | 7, _ | 8, _ | 9, _ | 10, _ | 11, _ => rfl
end Go.Proofs.YtlbhiefamnpphaaDoor.Jc
