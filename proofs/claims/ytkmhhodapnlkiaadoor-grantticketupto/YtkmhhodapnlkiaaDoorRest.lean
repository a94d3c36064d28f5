import Derived.Test.YtkmhhodapnlkiaaDoorRadixKit
import Derived.Deep.QuietTactic
namespace Go.Proofs.YtkmhhodapnlkiaaDoor.radw
open Go.ChangeShapes Go.WideShapes Go.ChangeAt Go.RowKit Go.Proofs.YtkmhhodapnlkiaaDoor.common
attribute [local go_sem ↓] Go.wp_at_zero Go.wp_at_succ

set_option maxHeartbeats 400000 in
theorem rest2_core (t : ByteArray) (ht : t.size = 2) (g o cap : Nat) (w : World) (l : List UInt8) (hl : Lay w g l) (ho : o + 2 < l.length) (x0 x1 y0 y1 y2 z : UInt8) (hx0 : t[0]'(by omega) = x0) (hx1 : t[1]'(by omega) = x1)
    (h2 : (x1.toNat : Int) * 4 % 256 % 64 = (y2.toNat : Int)) (hz : (x1.toNat : Int) / 16 = (z.toNat : Int)) (h1 : bits .or .u8 (z.toNat : Int) ((x0.toNat : Int) * 16 % 64) = (y1.toNat : Int)) (h0 : (x0.toNat : Int) / 4 = (y0.toNat : Int)) :
    Calls Tryd.prog 23 #[.string t, .slice (some ⟨g, o, none⟩) 3 cap] w fun e w' => e = .returned (.tuple #[]) ∧ Lay w' g ((((l.set (o + 2) y2).set (o + 1) z).set (o + 1) y1).set o y0) ∧ ∀ b, b ≤ g → Below b w w' := by
  have c2 := hl.cell (o + 2) ho
  have c1 := hl.cell (o + 1) (by omega)
  have c0 := hl.cell o (by omega)
  have f2 := hl.frozen (o + 2) ho
  have f1 := hl.frozen (o + 1) (by omega)
  have f0 := hl.frozen o (by omega)
  have HL := hide hl
  clear hl
  go_enter Tryd.func23, Tryd.ntmps23
  go_wp2_with fail
  go_region
  go_wp2
  go_end0
  refine ⟨rfl, ?_, fun b hb => ?_⟩
  · exact ((((HL.out.set (o + 2) (by omega) y2).set (o + 1) (by simp; omega) z).set (o + 1) (by simp; omega) y1).set o (by simp; omega) y0).drew
  · exact (((((Below.refl _ _).setCell hb _).setCell hb _).setCell hb _).setCell hb _).drew

set_option maxHeartbeats 400000 in
theorem rest1_core (t : ByteArray) (ht : t.size = 1) (g o cap : Nat) (w : World) (l : List UInt8) (hl : Lay w g l) (ho : o + 1 < l.length) (hzero : l.getD (o + 1) 0 = 0) (x0 y0 y1 : UInt8) (hx0 : t[0]'(by omega) = x0)
    (h1 : bits .or .u8 0 ((x0.toNat : Int) * 16 % 64) = (y1.toNat : Int)) (h0 : (x0.toNat : Int) / 4 = (y0.toNat : Int)) :
    Calls Tryd.prog 23 #[.string t, .slice (some ⟨g, o, none⟩) 2 cap] w fun e w' => e = .returned (.tuple #[]) ∧ Lay w' g ((l.set (o + 1) y1).set o y0) ∧ ∀ b, b ≤ g → Below b w w' := by
  have c1 : w.cell? ⟨g, o + 1, none⟩ = some (.int .u8 0) := by rw [hl.cell (o + 1) (by omega), hzero]; rfl
  have c0 := hl.cell o (by omega)
  have f1 := hl.frozen (o + 1) (by omega)
  have f0 := hl.frozen o (by omega)
  have HL := hide hl
  clear hl hzero
  go_enter Tryd.func23, Tryd.ntmps23
  go_wp2_with fail
  go_region
  go_wp2
  go_end0
  refine ⟨rfl, ?_, fun b hb => ?_⟩
  · exact ((HL.out.set (o + 1) (by omega) y1).set o (by simp; omega) y0).drew
  · exact (((Below.refl _ _).setCell hb _).setCell hb _).drew

theorem rest0_core (t : ByteArray) (ht : t.size = 0) (v : Value) (w : World) :
    Calls Tryd.prog 23 #[.string t, v] w fun e w' => e = .returned (.tuple #[]) ∧ w' = w := by
  go_enter Tryd.func23, Tryd.ntmps23
  go_wp2_with fail
  go_end0
  exact ⟨rfl, rfl⟩

end Go.Proofs.YtkmhhodapnlkiaaDoor.radw
