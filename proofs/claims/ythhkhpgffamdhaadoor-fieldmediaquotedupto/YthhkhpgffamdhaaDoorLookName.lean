import Derived.Test.YthhkhpgffamdhaaDoorByteKit
import Derived.Test.YthhkhpgffamdhaaDoorFieldMath
namespace Go.Proofs.YthhkhpgffamdhaaDoor.lnm
open Go.ChangeShapes Go.WideShapes Go.ChangeAt Go.RowKit Go.Proofs.YthhkhpgffamdhaaDoor.common Go.Proofs.YthhkhpgffamdhaaDoor.bk
attribute [local go_sem ↓] Go.wp_at_zero Go.wp_at_succ

def lowB (s : ByteArray) : List UInt8 := Fd.lows s.data.toList
theorem low_big {c : UInt8} (h : 65 ≤ c.toNat ∧ c.toNat ≤ 90) : (Fd.low c).toNat = c.toNat + 32 := by
  have := c.toNat_lt
  unfold Fd.low; rw [if_pos h, UInt8.toNat_add]; show (c.toNat + 32) % 256 = _; omega
theorem low_not {c : UInt8} (h : ¬ (65 ≤ c.toNat ∧ c.toNat ≤ 90)) : Fd.low c = c := by unfold Fd.low; rw [if_neg h]
theorem low_cases (c : UInt8) : (65 ≤ c.toNat ∧ c.toNat ≤ 90 ∧ (Fd.low c).toNat = c.toNat + 32) ∨ (¬ (65 ≤ c.toNat ∧ c.toNat ≤ 90) ∧ (Fd.low c).toNat = c.toNat) := by
  by_cases h : 65 ≤ c.toNat ∧ c.toNat ≤ 90
  · exact Or.inl ⟨h.1, h.2, low_big h⟩
  · exact Or.inr ⟨h, by rw [low_not h]⟩

theorem lowB_len (s : ByteArray) : (lowB s).length = s.size := by unfold lowB Fd.lows; simp
theorem lowB_take (s : ByteArray) (k : Nat) (h : k < s.size) : (lowB s).take (k + 1) = (lowB s).take k ++ [Fd.low s[k]] := by
  have hl : k < (lowB s).length := by rw [lowB_len]; exact h
  have e : (lowB s)[k] = Fd.low s[k] := List.getElem_map (f := Fd.low) (l := s.data.toList) (i := k) (h := hl)
  rw [List.take_succ_eq_append_getElem hl, e]
theorem low_inj {x y : UInt8} (h : x.toNat = y.toNat) : x = y := UInt8.toNat_inj.1 h

end Go.Proofs.YthhkhpgffamdhaaDoor.lnm
