import Derived.Test.YthkbheojjcdglabDoorSameWalks
namespace Go.Proofs.YthkbheojjcdglabDoor.lst
open Go.ChangeShapes Go.WideShapes Go.ChangeAt Go.RowKit Go.Proofs.YthkbheojjcdglabDoor.common
attribute [local go_sem ↓] Go.wp_at_zero Go.wp_at_succ

theorem wrap_le (x : Int) (h0 : 0 ≤ x) (h1 : x ≤ 9223372036854775807) : IntKind.i64.wrap x = x := by
  have hm : x % 18446744073709551616 = x := by omega
  unfold IntKind.wrap
  simp only [IntKind.bits, IntKind.signed, Int.reducePow, Nat.reduceSub, hm]
  rw [if_neg (by simp; omega)]

theorem keepB {b : Nat} {w W W' : World} (h : Below b w W) (hb : Below W.heap.size W W') (hw : b ≤ W.heap.size) : Below b w W' := h.trans (hb.mono hw)
theorem keepD {w W W' : World} (h : Below w.heap.size w W) (hb : Below W.heap.size W W') : Below w.heap.size w W' := keepB h hb h.size

set_option maxRecDepth 100000 in
set_option maxHeartbeats 3200000 in
theorem kept_any (g cap : Nat) (v : Value) (l : List PB) (w : World) (hr : Row w g (l ++ [(bh, bh), (bh, bh)])) (hg : g < w.heap.size) (hv : Lies w v l) (hcap : l.length + 2 ≤ cap) (hs : l.length ≤ 4611686018427387000) :
    Calls Tryd.prog 12 #[.slice (some ⟨g, 0, none⟩) (l.length + 2) cap, v] w fun e w' => e = .returned (.bool true) ∧ Below w.heap.size w w' := by
  have HV := hide hv
  obtain ⟨ov, cv, rfl, _⟩ := hv
  have HR := hide hr
  have HG := hide hg
  have HLI : Hid (Lies w (.slice (some ⟨g, 0, none⟩) l.length cap) l) := by
    have := hr.lies hg l.length cap (by rw [List.length_append]; omega)
    rw [List.take_left] at this
    exact this
  have l1 : l.length < (l ++ [(bh, bh), (bh, bh)]).length := by simp
  have l2 : l.length + 1 < (l ++ [(bh, bh), (bh, bh)]).length := by simp
  have c0 : Hid (w.cell? ⟨g, l.length * 2, none⟩ = some (.string bh) ∧ w.cell? ⟨g, l.length * 2 + 1, none⟩ = some (.string bh)) := by
    refine ⟨?_, ?_⟩
    · have := hr.2 _ _ (cl_get0 _ _ l1); rw [Nat.zero_add] at this; rw [this]; simp
    · have := hr.2 _ _ (cl_get1 _ _ l1); rw [Nat.zero_add] at this; rw [this]; simp
  have c1 : Hid (w.cell? ⟨g, (l.length + 1) * 2, none⟩ = some (.string bh) ∧ w.cell? ⟨g, (l.length + 1) * 2 + 1, none⟩ = some (.string bh)) := by
    refine ⟨?_, ?_⟩
    · have := hr.2 _ _ (cl_get0 _ _ l2); rw [Nat.zero_add] at this; rw [this]; simp
    · have := hr.2 _ _ (cl_get1 _ _ l2); rw [Nat.zero_add] at this; rw [this]; simp
  clear hr hg l1 l2
  go_enter Tryd.func12, Tryd.ntmps12
  go_wp2_with fail
  have e0 : ∀ W, Below w.heap.size w W → W.cell? ⟨g, l.length * 2, none⟩ = some (.string bh) := fun W hW => (hW.cell (p := ⟨g, l.length * 2, none⟩) HG.out).trans c0.out.1
  have e1 : ∀ W, Below w.heap.size w W → W.cell? ⟨g, l.length * 2 + 1, none⟩ = some (.string bh) := fun W hW => (hW.cell (p := ⟨g, l.length * 2 + 1, none⟩) HG.out).trans c0.out.2
  have e2 : ∀ W, Below w.heap.size w W → W.cell? ⟨g, (l.length + 1) * 2, none⟩ = some (.string bh) := fun W hW => (hW.cell (p := ⟨g, (l.length + 1) * 2, none⟩) HG.out).trans c1.out.1
  have e3 : ∀ W, Below w.heap.size w W → W.cell? ⟨g, (l.length + 1) * 2 + 1, none⟩ = some (.string bh) := fun W hW => (hW.cell (p := ⟨g, (l.length + 1) * 2 + 1, none⟩) HG.out).trans c1.out.2
  have ww1 : IntKind.i64.wrap ((l.length : Int) + 1) = (l.length : Int) + 1 := wrap_le _ (by omega) (by omega)
  have ww2 : IntKind.i64.wrap ((l.length : Int) + 2) = (l.length : Int) + 2 := wrap_le _ (by omega) (by omega)
  have n1 : ((l.length : Int) + 1).toNat = l.length + 1 := by omega
  have k0 : (0 : Int) ≤ (l.length : Int) := Int.natCast_nonneg _
  have k1 : (0 : Int) ≤ (l.length : Int) + 1 := by omega
  have k2 : (l.length : Int) < (l.length : Int) + 2 := by omega
  have k3 : (l.length : Int) + 1 < (l.length : Int) + 2 := by omega
  have k4 : (l.length : Int) ≤ (cap : Int) := by omega
  have k5 : l.length ≤ cap := by omega
  go_region_held3 (fun W => Below w.heap.size w W)
    (first
      | exact Below.refl _ _
      | assumption
      | exact keepD (by assumption) (by assumption)
      | exact Below.drew (by assumption)
      | exact (Below.refl _ _).drew)
    (first
      | (go_at_call 15; refine (same_any _ _ l _ (HLI.out.below (by assumption)) (HV.out.below (by assumption)) (by omega)).mono ?_; rintro e w2 ⟨rfl, hb2⟩)
      | (go_at_call 23; refine (behind_any _).mono ?_; rintro e w3 ⟨rfl, hb3⟩))
  all_goals
    go_wp2_with fail
    go_ret
    exact ⟨rfl, by assumption⟩

end Go.Proofs.YthkbheojjcdglabDoor.lst
