import Derived.Test.YtgppnklildhmbaaDoorPkS256
namespace Go.Proofs.YtgppnklildhmbaaDoor.pk
open Go.ChangeShapes Go.WideShapes Go.ChangeAt Go.RowKit Go.Proofs.YtgppnklildhmbaaDoor.common

theorem cellsTwo : Tryd.prog.cellsOf 24 = 2 := by kernel_rfl
theorem keep2 {a b c : World} (h : Below a.heap.size a b) (h2 : Below b.heap.size b c) : Below a.heap.size a c := h.trans (h2.mono h.size)
theorem mt_own (a : ByteArray) : mt a (ch a) = Pk.proof a.data.toList := by unfold mt; rw [sm_self, Bool.and_true]

set_option maxRecDepth 100000 in
set_option maxHeartbeats 3200000 in
theorem lawMatch (a b : ByteArray) (w : World) (ha : a.size ≤ reachBytes) (hb : b.size ≤ reachBytes) (he : Env w) (ht : Tab w) (hr : EnvR w) :
    Calls Tryd.prog 7 #[.agg #[.string a, .string b]] w fun e w' => e = .returned (.bool true) ∧ Below w.heap.size w w' := by
  unfold reachBytes at ha hb
  have hbl : Below w.heap.size w (w.alloc (.cells #[.string a, .string b] 24)) := (Below.refl _ _).alloc (Nat.le_refl _) _
  have hlt : w.heap.size < (w.alloc (.cells #[.string a, .string b] 24)).heap.size := by simp
  have x0 : ∀ X, Below (w.alloc (.cells #[.string a, .string b] 24)).heap.size (w.alloc (.cells #[.string a, .string b] 24)) X → X.cell? ⟨w.heap.size, 0, none⟩ = some (.string a) := fun X hX => (hX.cell hlt).trans (range_new w #[.string a, .string b] _ 0 _ rfl)
  have x1 : ∀ X, Below (w.alloc (.cells #[.string a, .string b] 24)).heap.size (w.alloc (.cells #[.string a, .string b] 24)) X → X.cell? ⟨w.heap.size, 1, none⟩ = some (.string b) := fun X hX => (hX.cell hlt).trans (range_new w #[.string a, .string b] _ 1 _ rfl)
  have H1 : Hid (∀ W, Below w.heap.size w W → Calls Tryd.prog 11 #[.string a, .string b] W fun e w' => e = .returned (.bool (mt a b)) ∧ Below W.heap.size W w') := fun W hW => match_any a b W (by omega) (by omega) (he.below hW) (ht.below hW (Nat.le_refl _))
  have H2 : Hid (∀ W, Below w.heap.size w W → Calls Tryd.prog 18 #[.string a, .string b] W fun e w' => e = .returned (.bool (mt a b)) ∧ Below W.heap.size W w') := fun W hW => refMatch_any a b W (by omega) (hr.below hW)
  have H3 : Hid (∀ W, Below w.heap.size w W → Calls Tryd.prog 17 #[.string a] W fun e w' => e = .returned (.string (ch a)) ∧ Below W.heap.size W w') := fun W hW => refS256_any a W (by omega) (hr.below hW)
  have H4 : Hid (∀ W, Below w.heap.size w W → Calls Tryd.prog 11 #[.string a, .string (ch a)] W fun e w' => e = .returned (.bool (Pk.proof a.data.toList)) ∧ Below W.heap.size W w') := fun W hW => by
    have := match_any a (ch a) W (by omega) (by rw [ch_size]; decide) (he.below hW) (ht.below hW (Nat.le_refl _))
    rwa [mt_own] at this
  have H5 : Hid (∀ W, Calls Tryd.prog 8 #[.string a] W fun e w' => e = .returned (.bool (Pk.proof a.data.toList)) ∧ w' = W) := fun W => refVerifier_any a W
  clear he ht hr hlt ha hb
  generalize ch a = C at *
  generalize mt a b = t at *
  generalize Pk.proof a.data.toList = p at *
  have HBL := hide hbl
  clear hbl
  go_enter Tryd.func7, Tryd.ntmps7
  go_wp2_with fail
  generalize w.alloc (.cells #[.string a, .string b] 24) = W0 at *
  go_region_held3 (fun X => Below W0.heap.size W0 X)
    (first
      | exact Below.refl _ _
      | assumption
      | exact keep2 (by assumption) (by assumption)
      | exact Below.drew (by assumption)
      | exact (Below.refl _ _).drew)
    (first
      | (go_at_call 11; refine (H1.out _ (keep2 HBL.out (by assumption))).mono ?_; rintro x w1 ⟨rfl, hb1⟩)
      | (go_at_call 18; refine (H2.out _ (keep2 HBL.out (by assumption))).mono ?_; rintro x w2 ⟨rfl, hb2⟩))
  all_goals
    have HB2 : Hid (Below W0.heap.size W0 w2) := by assumption
    have hb5 := HB2.out
    go_wp2_with fail
    go_region_held3 (fun X => Below W0.heap.size W0 X)
      (first
        | assumption
        | exact keep2 (by assumption) (by assumption)
        | exact Below.drew (by assumption))
      (first
        | (go_at_call 17; refine (H3.out _ (keep2 HBL.out (by assumption))).mono ?_; rintro x w3 ⟨rfl, hb3⟩)
        | (go_at_call 11; refine (H4.out _ (keep2 HBL.out (by assumption))).mono ?_; rintro x w4 ⟨rfl, hb4⟩)
        | (go_at_call 8; refine (H5.out _).mono ?_; rintro x w5 ⟨rfl, h5⟩; obtain rfl := h5.symm; clear h5))
    all_goals
      have HB6 : Hid (Below W0.heap.size W0 w4) := by assumption
      go_wp2
      go_ret
      exact ⟨by simp, keep2 HBL.out HB6.out⟩

end Go.Proofs.YtgppnklildhmbaaDoor.pk
