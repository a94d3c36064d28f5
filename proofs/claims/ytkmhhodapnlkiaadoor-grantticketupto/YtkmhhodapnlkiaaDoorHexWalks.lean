import Derived.Test.YtkmhhodapnlkiaaDoorRefLetters
import Derived.Test.YtkmhhodapnlkiaaDoorRadixKit
namespace Go.Proofs.YtkmhhodapnlkiaaDoor.radw
open Go.ChangeShapes Go.WideShapes Go.ChangeAt Go.RowKit Go.Proofs.YtkmhhodapnlkiaaDoor.common

theorem bit_out (l : List UInt8) (i : Nat) (h : 8 * l.length ≤ i) : Rad.bit l i = 0 := by
  unfold Rad.bit; rw [Rad.g_out (by omega)]; simp

end Go.Proofs.YtkmhhodapnlkiaaDoor.radw

namespace Go.Proofs.YtkmhhodapnlkiaaDoor.radw
open Go.ChangeShapes Go.WideShapes Go.ChangeAt Go.RowKit Go.Proofs.YtkmhhodapnlkiaaDoor.common
attribute [local go_sem ↓] Go.wp_at_zero Go.wp_at_succ

theorem lets_b64 (T l : List UInt8) (n : Nat) (hn : n = l.length) : lets T (Rad.bit l) 6 ((8 * n + 5) / 6) = Rad.b64 T l := by
  subst hn
  unfold lets Rad.b64 Rad.n6
  congr 1
  funext m
  rw [Rad.six_bits]

end Go.Proofs.YtkmhhodapnlkiaaDoor.radw

namespace Go.Proofs.YtkmhhodapnlkiaaDoor.radw
open Go.ChangeShapes Go.WideShapes Go.ChangeAt Go.RowKit Go.Proofs.YtkmhhodapnlkiaaDoor.common

theorem hi_four (l : List UInt8) (k : Nat) (c : UInt8) (h : Rad.g l k = c.toNat) : ((c.toNat : Int) / 16) = ((Rad.four l (2 * k) : Nat) : Int) := by
  rw [Rad.four0, h]; simp
theorem and15 : ∀ c : Fin 256, c.val &&& 15 = c.val % 16 := by decide +kernel
theorem lo_four (l : List UInt8) (k : Nat) (c : UInt8) (h : Rad.g l k = c.toNat) : bits .and .u8 (c.toNat : Int) 15 = ((Rad.four l (2 * k + 1) : Nat) : Int) := by
  rw [Rad.four1, h, ← and15 ⟨c.toNat, c.toNat_lt⟩]
  exact and_nat c 15 (by decide)

end Go.Proofs.YtkmhhodapnlkiaaDoor.radw
