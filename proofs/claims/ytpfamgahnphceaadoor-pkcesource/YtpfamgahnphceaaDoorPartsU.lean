import Derived.Test.YtpfamgahnphceaaDoorSplitWalks
namespace Go.Proofs.YtpfamgahnphceaaDoor.radw
open Go.ChangeShapes Go.WideShapes Go.ChangeAt Go.RowKit Go.Proofs.YtpfamgahnphceaaDoor.common
attribute [local go_sem ↓] Go.wp_at_zero Go.wp_at_succ

/-- a list that is being turned: its first k letters are f's, the others h's -/
def part (f h : Nat → UInt8) (n k : Nat) : List UInt8 := (List.range n).map fun i => if i < k then f i else h i
theorem part_len (f h : Nat → UInt8) (n k : Nat) : (part f h n k).length = n := by simp [part]
theorem part_getD (f h : Nat → UInt8) (n k i : Nat) (hi : i < n) : (part f h n k).getD i 0 = if i < k then f i else h i := by unfold part; rw [Rad.getD_map, if_pos hi]
theorem part_zero (f h : Nat → UInt8) (n : Nat) : part f h n 0 = (List.range n).map h := by unfold part; simp
theorem part_all (f h : Nat → UInt8) (n : Nat) : part f h n n = (List.range n).map f := by
  apply Rad.list_eq
  · simp [part]
  · intro i hi; rw [part_len] at hi; rw [part_getD _ _ _ _ _ hi, Rad.getD_map]; simp [hi]
theorem part_set (f h : Nat → UInt8) (n k : Nat) (hk : k < n) {c : UInt8} (hc : c = f k) : (part f h n k).set k c = part f h n (k + 1) := by
  subst hc
  apply Rad.list_eq
  · simp [part]
  · intro i hi
    rw [List.length_set, part_len] at hi
    rw [set_getD _ _ _ _ (by rw [part_len]; exact hk), part_getD _ _ _ _ _ hi, part_getD _ _ _ _ _ hi]
    by_cases h : i = k
    · subst h; simp
    · rw [if_neg h]
      by_cases h2 : i < k
      · rw [if_pos h2, if_pos (by omega)]
      · rw [if_neg h2, if_neg (by omega)]

theorem six_idx (l : List UInt8) (m : Nat) : ((sixB l m).toNat : Int) = ((Rad.six l m : Nat) : Int) := sixB_val l m
theorem n6_val (s : ByteArray) : (8 * (s.size : Int) + 5) / 6 = ((Rad.n6 s.size : Nat) : Int) := by unfold Rad.n6; omega
theorem third_val (s : ByteArray) : (s.size : Int) / 3 = ((s.size / 3 : Nat) : Int) := by omega

end Go.Proofs.YtpfamgahnphceaaDoor.radw
