import Derived.Test.YtpfamgahnphceaaDoorPkOne
namespace Go.Proofs.YtpfamgahnphceaaDoor.pk
open Go.ChangeShapes Go.WideShapes Go.ChangeAt Go.RowKit Go.Proofs.YtpfamgahnphceaaDoor.common

set_option maxRecDepth 100000 in
set_option maxHeartbeats 1600000 in
theorem ask_any (W : World) (id last : ByteArray) (a1 a2 s a3 a4 p : Nat) (gb : Option Nat) (L : List (List UInt8)) (k left : Int) (y : Bool) (hk : 0 ≤ k ∧ k < 4611686018427387904)
    (c1 : W.heap[a1]? = some (.cells #[.int .i64 k] 3 (0, 0))) (c2 : W.heap[a2]? = some (.cells #[.string last] 9 (0, 0))) (c3 : W.heap[a3]? = some (.cells #[.int .i64 left] 3 (0, 0))) (c4 : W.heap[a4]? = some (.cells #[.bool y] 4 (0, 0)))
    (cs : W.heap[s]? = some (.cells #[ptr p] 26 (0, 0))) (h13 : a1 ≠ a3) (hsrc : Src W p gb L) (hg : ∀ g, gb = some g → g ≠ a1 ∧ g ≠ a2) :
    Calls Tryd.prog 8 #[.string id, ptr a1, ptr a2, ptr s, ptr a3, ptr a4] W fun e w' => e = .returned (.bool y) ∧ w' = ((W.setCell ⟨a1, 0, none⟩ (.int .i64 (k + 1))).setCell ⟨a2, 0, none⟩ (.string id)).setCell ⟨a3, 0, none⟩ (.int .i64 L.length) := by
  have n12 : a1 ≠ a2 := fun e => by rw [e, c2] at c1; simp at c1
  have n1s : a1 ≠ s := fun e => by rw [e, cs] at c1; simp at c1
  have n14 : a1 ≠ a4 := fun e => by rw [e, c4] at c1; simp at c1
  have n2s : a2 ≠ s := fun e => by rw [e, cs] at c2; simp at c2
  have n23 : a2 ≠ a3 := fun e => by rw [e, c3] at c2; simp at c2
  have n24 : a2 ≠ a4 := fun e => by rw [e, c4] at c2; simp at c2
  have n34 : a3 ≠ a4 := fun e => by rw [e, c4] at c3; simp at c3
  obtain ⟨vp, hvp, _⟩ := hsrc.lie
  have n1p : p ≠ a1 := fun e => by rw [e, c1] at hvp; simp at hvp
  have n2p : p ≠ a2 := fun e => by rw [e, c2] at hvp; simp at hvp
  obtain ⟨W1, hW1⟩ : ∃ W1, W1 = W.setCell ⟨a1, 0, none⟩ (.int .i64 (k + 1)) := ⟨_, rfl⟩
  obtain ⟨W2, hW2⟩ : ∃ W2, W2 = W1.setCell ⟨a2, 0, none⟩ (.string id) := ⟨_, rfl⟩
  obtain ⟨W3, hW3⟩ : ∃ W3, W3 = W2.setCell ⟨a3, 0, none⟩ (.int .i64 L.length) := ⟨_, rfl⟩
  have e2 : W1.heap[a2]? = some (.cells #[.string last] 9 (0, 0)) := by rw [hW1, set_other _ _ _ _ (Ne.symm n12)]; exact c2
  have es : W2.heap[s]? = some (.cells #[ptr p] 26 (0, 0)) := by rw [hW2, set_other _ _ _ _ (Ne.symm n2s), hW1, set_other _ _ _ _ (Ne.symm n1s)]; exact cs
  have e3 : W2.heap[a3]? = some (.cells #[.int .i64 left] 3 (0, 0)) := by rw [hW2, set_other _ _ _ _ (Ne.symm n23), hW1, set_other _ _ _ _ (Ne.symm h13)]; exact c3
  have e4 : W3.heap[a4]? = some (.cells #[.bool y] 4 (0, 0)) := by rw [hW3, set_other _ _ _ _ (Ne.symm n34), hW2, set_other _ _ _ _ (Ne.symm n24), hW1, set_other _ _ _ _ (Ne.symm n14)]; exact c4
  have hS2 : Src W2 p gb L := hsrc.keep (by rw [hW2, set_other _ _ _ _ n2p, hW1, set_other _ _ _ _ n1p]) fun g hgg => by rw [hW2, set_other _ _ _ _ (hg g hgg).2, hW1, set_other _ _ _ _ (hg g hgg).1]
  have HL := hide (left_any W2 p gb L hS2)
  have x1 := cell0 c1
  have y1 := free0 c1
  have x2 := cell0 e2
  have y2 := free0 e2
  have xs := cell0 es
  have x3 := cell0 e3
  have y3 := free0 e3
  have x4 := cell0 e4
  have HF : Hid (((W.setCell ⟨a1, 0, none⟩ (.int .i64 (k + 1))).setCell ⟨a2, 0, none⟩ (.string id)).setCell ⟨a3, 0, none⟩ (.int .i64 L.length) = W3) := by show _ = _; rw [hW3, hW2, hW1]
  rw [HF.out]
  have HW1 := hide hW1
  have HW2 := hide hW2
  have HW3 := hide hW3
  rw [hW1] at x2 y2
  rw [hW2, hW1] at xs
  have k0 : (0 : Int) ≤ k := hk.1
  have k1 : k < 4611686018427387904 := hk.2
  clear c1 c2 c3 c4 cs hsrc hg e2 es e3 e4 hS2 hvp n12 n1s n14 n2s n23 n24 n34 n1p n2p h13 hW1 hW2 hW3 HF hk
  generalize (L.length : Int) = lf at *
  go_enter Tryd.func8, Tryd.ntmps8
  go_wp2_with fail
  rw [← HW1.out, ← HW2.out]
  refine HL.out.mono ?_
  rintro x w2 ⟨rfl, h2⟩
  obtain rfl := h2.symm
  clear xs x2 y2 h2
  rw [HW3.out] at x4
  go_wp2
  go_ret
  exact ⟨rfl, HW3.out.symm⟩

end Go.Proofs.YtpfamgahnphceaaDoor.pk
