import Derived.Test.YtdldhpncajelmabDoorUnUrlWalks
import Derived.Test.YtdldhpncajelmabDoorHexWalks
import Derived.Test.YtdldhpncajelmabDoorRadixEq
import Derived.Test.YtdldhpncajelmabDoorShaWalks
import Derived.Test.YtdldhpncajelmabDoorErrWalks
import Derived.Stop.LaidErr
import Derived.Deep.RegionWith
import Derived.BigQuiet
namespace Go.Proofs.YtdldhpncajelmabDoor.radw
open Go.ChangeShapes Go.WideShapes Go.ChangeAt Go.RowKit Go.Proofs.YtdldhpncajelmabDoor.common
open Go.Proofs.YtdldhpncajelmabDoor.errw (Errs E num_1)
attribute [local go_sem ↓] Go.wp_at_zero Go.wp_at_succ

/-- a text of 43 letters with another last letter -/
def last (d : List UInt8) (k : Nat) : List UInt8 := (Rad.b64 Rad.urlT d).take 42 ++ [Rad.urlT.getD k 0]

theorem u_len (d : List UInt8) (hd : d.length = 32) : (Rad.b64 Rad.urlT d).length = 43 := by rw [Rad.b64_len, hd]; rfl
theorem last_len (d : List UInt8) (hd : d.length = 32) (k : Nat) : (last d k).length = 43 := by
  unfold last; rw [List.length_append, List.length_take, u_len d hd]; rfl
theorem last_at (d : List UInt8) (hd : d.length = 32) (k i : Nat) : (last d k).getD i 0 = if i < 42 then (Rad.b64 Rad.urlT d).getD i 0 else ([Rad.urlT.getD k 0]).getD (i - 42) 0 := by
  unfold last
  rw [List.getD_eq_getElem?_getD, List.getElem?_append, List.length_take, u_len d hd, show min 42 43 = 42 by decide]
  by_cases h : i < 42
  · rw [if_pos h, if_pos h, List.getElem?_take_of_lt h, List.getD_eq_getElem?_getD]
  · rw [if_neg h, if_neg h]; rfl
theorem last_valid (d : List UInt8) (hd : d.length = 32) (k : Nat) (hk : k < 64) : Rad.valid Rad.urlT 64 (last d k) := by
  intro i hi
  rw [last_len d hd k] at hi
  rw [last_at d hd]
  by_cases h : i < 42
  · rw [if_pos h]; exact Rad.valid_b64 Rad.urlGood d i (by rw [u_len d hd]; omega)
  · obtain rfl : i = 42 := by omega
    rw [if_neg h]
    show Rad.rd Rad.urlT 64 (Rad.urlT.getD k 0) ≠ 0
    rw [Rad.urlGood.back k hk]; omega
theorem last_num (d : List UInt8) (hd : d.length = 32) (k : Nat) (hk : k < 64) : Rad.num Rad.urlT 64 (last d k) 42 = k := by
  unfold Rad.num
  rw [last_at d hd, if_neg (by decide)]
  show Rad.rd Rad.urlT 64 (Rad.urlT.getD k 0) - 1 = k
  rw [Rad.urlGood.back k hk]; omega
theorem last_rest (d : List UInt8) (hd : d.length = 32) (k : Nat) (hk : k < 64) : Rad.restOk Rad.urlT (last d k) ↔ k % 4 = 0 := by
  unfold Rad.restOk
  rw [last_len d hd k, show 43 - 1 = 42 by decide, last_num d hd k hk]
  constructor
  · intro h; exact h.2.2 (by decide)
  · intro h; exact ⟨by decide, fun h => by omega, fun _ => h⟩
theorem last_low (d : List UInt8) (hd : d.length = 32) (k i : Nat) (hi : i < 42) : Rad.num Rad.urlT 64 (last d k) i = Rad.num Rad.urlT 64 (Rad.b64 Rad.urlT d) i := by
  unfold Rad.num; rw [last_at d hd, if_pos hi]
theorem last_head (d : List UInt8) (hd : d.length = 32) (k : Nat) : (Rad.un64 Rad.urlT (last d k)).take 31 = d.take 31 := by
  have hu := Rad.un64_b64 Rad.urlGood d
  apply Rad.list_eq
  · rw [List.length_take, List.length_take, Rad.un64_len, last_len d hd, hd]; rfl
  · intro i hi
    rw [List.length_take, Rad.un64_len, last_len d hd] at hi
    have hi' : i < 31 := by omega
    have e : ∀ l : List UInt8, (l.take 31).getD i 0 = l.getD i 0 := fun l => by
      rw [List.getD_eq_getElem?_getD, List.getElem?_take_of_lt hi', List.getD_eq_getElem?_getD]
    rw [e, e]
    conv => rhs; rw [← hu]
    unfold Rad.un64
    rw [Rad.getD_map, Rad.getD_map, last_len d hd, u_len d hd, if_pos (by unfold Rad.n8; omega), if_pos (by unfold Rad.n8; omega)]
    congr 1
    unfold Rad.byt
    split
    · rw [last_low d hd _ _ (by omega), last_low d hd _ _ (by omega)]
    · rw [last_low d hd _ _ (by omega), last_low d hd _ _ (by omega)]
    · rename_i h1 h2
      have h3 : i % 3 = 2 := by
        have : i % 3 < 3 := Nat.mod_lt _ (by decide)
        have a : i % 3 ≠ 0 := h1
        have b : i % 3 ≠ 1 := h2
        omega
      rw [last_low d hd _ _ (by omega), last_low d hd _ _ (by omega)]
theorem last_same (d : List UInt8) (hd : d.length = 32) (k : Nat) (hk : k < 64) (h4 : k % 4 = 0) : last d k = Rad.b64 Rad.urlT d ↔ Rad.un64 Rad.urlT (last d k) = d := by
  constructor
  · intro h; rw [h]; exact Rad.un64_b64 Rad.urlGood d
  · intro h
    have := Rad.b64_un64 Rad.urlT (last d k) (last_valid d hd k hk) ((last_rest d hd k hk).2 h4)
    rw [h] at this
    exact this.symm

theorem digest_len (l : List UInt8) : (Sha.digest l).length = 32 := by unfold Sha.digest Sha.bytes; rfl

theorem lit_at (k : Nat) (hk : k < 64) : ((⟨#[65, 66, 67, 68, 69, 70, 71, 72, 73, 74, 75, 76, 77, 78, 79, 80, 81, 82, 83, 84, 85, 86, 87, 88, 89, 90, 97, 98, 99, 100, 101, 102, 103, 104, 105, 106, 107, 108, 109, 110, 111, 112, 113, 114, 115, 116, 117, 118, 119, 120, 121, 122, 48, 49, 50, 51, 52, 53, 54, 55, 56, 57, 45, 95]⟩ : ByteArray).extract k (k + 1)).data.toList = [Rad.urlT.getD k 0] := by
  have : ∀ j : Fin 64, ((⟨#[65, 66, 67, 68, 69, 70, 71, 72, 73, 74, 75, 76, 77, 78, 79, 80, 81, 82, 83, 84, 85, 86, 87, 88, 89, 90, 97, 98, 99, 100, 101, 102, 103, 104, 105, 106, 107, 108, 109, 110, 111, 112, 113, 114, 115, 116, 117, 118, 119, 120, 121, 122, 48, 49, 50, 51, 52, 53, 54, 55, 56, 57, 45, 95]⟩ : ByteArray).extract j.val (j.val + 1)).data.toList = [Rad.urlT.getD j.val 0] := by decide +kernel
  exact this ⟨k, hk⟩

end Go.Proofs.YtdldhpncajelmabDoor.radw
