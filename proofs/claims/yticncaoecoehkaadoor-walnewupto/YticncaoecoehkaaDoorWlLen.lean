import Derived.Test.YticncaoecoehkaaDoorWlHead2
namespace Go.Proofs.YticncaoecoehkaaDoor.wl
open Go.ChangeShapes Go.WideShapes Go.ChangeAt Go.RowKit Go.Proofs.YticncaoecoehkaaDoor.common Go.Proofs.YticncaoecoehkaaDoor.dk

theorem i64_or_nat (a b : Nat) (ha : a < 4611686018427387904) (hb : b < 4611686018427387904) : bits .or .i64 (a : Int) (b : Int) = ((a ||| b : Nat) : Int) := by
  have hx : a ||| b < 2 ^ 62 := Nat.or_lt_two_pow (by omega) (by omega)
  show IntKind.i64.wrap ((BitVec.ofInt 64 (a : Int) ||| BitVec.ofInt 64 (b : Int)).toNat : Int) = _
  rw [BitVec.toNat_or, ofInt_u64 a (by omega), ofInt_u64 b (by omega)]
  generalize a ||| b = c at *
  rw [IntKind.wrap_i64]
  omega
theorem or_256 (a : Nat) (c : UInt8) (ha : a < 16777216) : bits .or .i64 ((a : Int) * 256) (c.toNat : Int) = ((a * 256 + c.toNat : Nat) : Int) := by
  have hc := c.toNat_lt
  have e : ((a : Int) * 256) = ((a * 256 : Nat) : Int) := by omega
  rw [e, i64_or_nat _ _ (by omega) (by omega)]
  congr 1
  have := Nat.shiftLeft_add_eq_or_of_lt (a := a) (b := c.toNat) (i := 8) (by omega)
  rw [Nat.shiftLeft_eq] at this
  exact this.symm

set_option maxRecDepth 100000 in
set_option maxHeartbeats 1600000 in
theorem length_any (w : World) (a0 a1 a2 a3 a4 a5 a6 a7 : UInt8) :
    Calls Tryd.prog 70 #[.agg #[B a0, B a1, B a2, B a3, B a4, B a5, B a6, B a7]] w fun e w' => e = .returned (.int .i64 (Wl.val4 [a0, a1, a2, a3] : Int)) ∧ Below w.heap.size w w' := by
  have g0 := a0.toNat_lt
  have g1 := a1.toNat_lt
  have g2 := a2.toNat_lt
  have g3 := a3.toNat_lt
  obtain ⟨n1, h1⟩ : ∃ n, n = a0.toNat := ⟨_, rfl⟩
  obtain ⟨n2, h2⟩ : ∃ n, n = n1 * 256 + a1.toNat := ⟨_, rfl⟩
  obtain ⟨n3, h3⟩ : ∃ n, n = n2 * 256 + a2.toNat := ⟨_, rfl⟩
  obtain ⟨n4, h4⟩ : ∃ n, n = n3 * 256 + a3.toNat := ⟨_, rfl⟩
  have hv : Wl.val4 [a0, a1, a2, a3] = n4 := by
    show a0.toNat * 16777216 + a1.toNat * 65536 + a2.toNat * 256 + a3.toNat = n4
    omega
  rw [hv]
  have o0 : bits .or .i64 0 (a0.toNat : Int) = (n1 : Int) := by
    have := or_256 0 a0 (by decide)
    simp at this
    rw [h1]; exact this
  have o1 : bits .or .i64 ((n1 : Int) * 256) (a1.toNat : Int) = (n2 : Int) := by rw [or_256 n1 a1 (by omega), h2]
  have o2 : bits .or .i64 ((n2 : Int) * 256) (a2.toNat : Int) = (n3 : Int) := by rw [or_256 n2 a2 (by omega), h3]
  have o3 : bits .or .i64 ((n3 : Int) * 256) (a3.toNat : Int) = (n4 : Int) := by rw [or_256 n3 a3 (by omega), h4]
  have b1 : n1 ≤ 255 := by omega
  have b2 : n2 ≤ 65535 := by omega
  have b3 : n3 ≤ 16777215 := by omega
  clear h1 h2 h3 h4 hv
  go_enter Tryd.func70, Tryd.ntmps70
  go_wp2
  obtain ⟨W, hW⟩ : ∃ W, W = w.alloc (.cells #[B a0, B a1, B a2, B a3, B a4, B a5, B a6, B a7] 98) := ⟨_, rfl⟩
  have hh : W.heap[w.heap.size]? = some (.cells #[B a0, B a1, B a2, B a3, B a4, B a5, B a6, B a7] 98) := by rw [hW]; exact heap_alloc_new _ _
  have HB : Hid (Below w.heap.size w W) := by rw [hW]; exact (Below.refl _ _).alloc (Nat.le_refl _) _
  have c0 : W.cell? ⟨w.heap.size, 0, none⟩ = some (B a0) := cell_of hh 0
  have c1 : W.cell? ⟨w.heap.size, 1, none⟩ = some (B a1) := cell_of hh 1
  have c2 : W.cell? ⟨w.heap.size, 2, none⟩ = some (B a2) := cell_of hh 2
  have c3 : W.cell? ⟨w.heap.size, 3, none⟩ = some (B a3) := cell_of hh 3
  rw [← hW]
  clear hW hh
  go_loopw [3, 8] (fun n i wr => wr = W ∧ ((i = .int .i64 0 ∧ n = .int .i64 0) ∨ (i = .int .i64 1 ∧ n = .int .i64 (n1 : Int)) ∨ (i = .int .i64 2 ∧ n = .int .i64 (n2 : Int)) ∨ (i = .int .i64 3 ∧ n = .int .i64 (n3 : Int)) ∨ (i = .int .i64 4 ∧ n = .int .i64 (n4 : Int)))) (fun _ i _ => 4 - (intOf i).toNat)
  case atStart => exact ⟨rfl, Or.inl ⟨rfl, rfl⟩⟩
  case round =>
    obtain ⟨rfl, ⟨rfl, rfl⟩ | ⟨rfl, rfl⟩ | ⟨rfl, rfl⟩ | ⟨rfl, rfl⟩ | ⟨rfl, rfl⟩⟩ := hrel
    · go_wp2
      go_roundw
      case rel => exact ⟨trivial, Or.inr (Or.inl ⟨rfl, rfl⟩)⟩
      case measure => simp [intOf]
    · go_wp2
      go_roundw
      case rel => exact ⟨trivial, Or.inr (Or.inr (Or.inl ⟨rfl, rfl⟩))⟩
      case measure => simp [intOf]
    · go_wp2
      go_roundw
      case rel => exact ⟨trivial, Or.inr (Or.inr (Or.inr (Or.inl ⟨rfl, rfl⟩)))⟩
      case measure => simp [intOf]
    · go_wp2
      go_roundw
      case rel => exact ⟨trivial, Or.inr (Or.inr (Or.inr (Or.inr ⟨rfl, rfl⟩)))⟩
      case measure => simp [intOf]
    · go_wp2
      go_ret
      exact ⟨rfl, HB.out⟩
end Go.Proofs.YticncaoecoehkaaDoor.wl
