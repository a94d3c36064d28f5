import Derived.Test.YtgppnklildhmbaaDoorStdTab
import Derived.Test.YtgppnklildhmbaaDoorSplit
import Derived.Deep.MidRow
import Derived.Deep.DrawnRows
namespace Go.Proofs.YtgppnklildhmbaaDoor.radw
open Go.ChangeShapes Go.WideShapes Go.ChangeAt Go.RowKit Go.Proofs.YtgppnklildhmbaaDoor.common
attribute [local go_sem ↓] Go.wp_at_zero Go.wp_at_succ

/-- a reading, of the first k letters of a table -/
def rdT (T : List UInt8) (k : Nat) : List UInt8 := (List.range 256).map fun c => UInt8.ofNat (Rad.rd T k (UInt8.ofNat c))
theorem rdT_len (T : List UInt8) (k : Nat) : (rdT T k).length = 256 := by unfold rdT; rw [List.length_map, List.length_range]
theorem rdT_zero (T : List UInt8) : rdT T 0 = List.replicate 256 0 := by
  apply Rad.list_eq
  · rw [rdT_len, List.length_replicate]
  · intro i hi; rw [rdT_len] at hi; unfold rdT; rw [Rad.getD_map, if_pos hi, List.getD_eq_getElem?_getD, List.getElem?_replicate, if_pos hi]; rfl
theorem rdT_set (T : List UInt8) (k : Nat) : (rdT T k).set (T.getD k 0).toNat (UInt8.ofNat (k + 1)) = rdT T (k + 1) := by
  apply Rad.list_eq
  · rw [List.length_set, rdT_len, rdT_len]
  · intro i hi
    rw [List.length_set, rdT_len] at hi
    rw [set_getD _ _ _ _ (by rw [rdT_len]; exact (T.getD k 0).toNat_lt)]
    unfold rdT
    rw [Rad.getD_map, Rad.getD_map, if_pos hi, if_pos hi]
    by_cases h : i = (T.getD k 0).toNat
    · rw [if_pos h]
      have : T.getD k 0 = UInt8.ofNat i := by rw [h]; exact UInt8.ofNat_toNat.symm
      unfold Rad.rd
      rw [if_pos this]
    · rw [if_neg h]
      have : ¬ T.getD k 0 = UInt8.ofNat i := by
        intro e
        apply h
        rw [e, Rad.toNat_of hi]
      conv => rhs; unfold Rad.rd
      rw [if_neg this]
theorem rdT_at (T : List UInt8) (k : Nat) (c : UInt8) : (rdT T k).getD c.toNat 0 = UInt8.ofNat (Rad.rd T k c) := by
  unfold rdT
  rw [Rad.getD_map, if_pos c.toNat_lt, UInt8.ofNat_toNat]

theorem size256 : (Tryd.prog.info? 41).map (·.size) = some 256 := by kernel_rfl

def zero256 : Array Value := (List.replicate 256 (Value.int .u8 0)).toArray
theorem zero256_run (w : World) : (zeroValue 41).run Tryd.prog w = .ok (.agg zero256) w := by kernel_rfl

end Go.Proofs.YtgppnklildhmbaaDoor.radw
