import Derived.Test.YtgppnklildhmbaaDoorPkMatchL
namespace Go.Proofs.YtgppnklildhmbaaDoor.pk
open Go.ChangeShapes Go.WideShapes Go.ChangeAt Go.RowKit Go.Proofs.YtgppnklildhmbaaDoor.common

/-- a text that is a verifier -/
abbrev vB : ByteArray := ⟨#[48, 49, 50, 51, 52, 53, 54, 55, 56, 57, 45, 97, 98, 99, 100, 101, 102, 103, 104, 105, 106, 107, 108, 109, 110, 111, 112, 113, 114, 115, 116, 117, 118, 119, 120, 121, 122, 46, 95, 126, 65, 66, 67]⟩
theorem vB_proof : Pk.proof vB.data.toList = true := by decide +kernel
theorem vB_size : vB.size = 43 := rfl

theorem head_any (s : ByteArray) (w : World) (hs : s.size = 43) :
    Calls Tryd.prog 13 #[.string s, .int .i64 42] w fun e w' => e = .returned (.string (s.extract 0 42)) ∧ w' = w := by
  have h1 : ¬ (s.size : Int) ≤ 42 := by omega
  have h2 : (42 : Int) ≤ (s.size : Int) := by omega
  have h3 : (42 : Nat) ≤ s.size := by omega
  clear hs
  go_enter Tryd.func13, Tryd.ntmps13
  go_wp2
  go_ret
  exact ⟨rfl, rfl⟩

theorem add_run (a b : ByteArray) (X : World) (h : a.size + b.size ≤ 9223372036854775807) : (Op.stringOp .add a b).run Tryd.prog X = .ok (.string (a ++ b)) X := run_string_add_sum X _ _ h

theorem size_ne {a b : ByteArray} (h : a.size ≠ b.size) : a ≠ b := fun e => h (by rw [e])

set_option maxRecDepth 100000 in
set_option maxHeartbeats 6400000 in
theorem lawOnly (a b : ByteArray) (w : World) (ha : a.size ≤ reachBytes) (hb : b.size ≤ reachBytes) (he : Env w) (ht : Tab w) :
    Calls Tryd.prog 4 #[.agg #[.string a, .string b]] w fun e w' => e = .returned (.bool true) ∧ Below w.heap.size w w' := by
  unfold reachBytes at ha hb
  have hbl : Below w.heap.size w (w.alloc (.cells #[.string a, .string b] 24)) := (Below.refl _ _).alloc (Nat.le_refl _) _
  have hlt : w.heap.size < (w.alloc (.cells #[.string a, .string b] 24)).heap.size := by simp
  have x0 : ∀ X, Below (w.alloc (.cells #[.string a, .string b] 24)).heap.size (w.alloc (.cells #[.string a, .string b] 24)) X → X.cell? ⟨w.heap.size, 0, none⟩ = some (.string a) := fun X hX => (hX.cell hlt).trans (range_new w #[.string a, .string b] _ 0 _ rfl)
  have x1 : ∀ X, Below (w.alloc (.cells #[.string a, .string b] 24)).heap.size (w.alloc (.cells #[.string a, .string b] 24)) X → X.cell? ⟨w.heap.size, 1, none⟩ = some (.string b) := fun X hX => (hX.cell hlt).trans (range_new w #[.string a, .string b] _ 1 _ rfl)
  have V1 : Hid (∀ W, Below w.heap.size w W → Calls Tryd.prog 9 #[.string vB] W fun e w' => e = .returned (.bool true) ∧ w' = W) := fun W hW => by
    have := verifier_any vB W (ht.below hW (Nat.le_refl _))
    rwa [vB_proof] at this
  have V2 : Hid (∀ W, Below w.heap.size w W → Calls Tryd.prog 12 #[.string vB] W fun e w' => e = .returned (.string (ch vB)) ∧ Below W.heap.size W w') := fun W hW => s256_any vB W (by rw [vB_size]; decide) (he.below hW)
  have V3 : Hid (∀ W, Below w.heap.size w W → Calls Tryd.prog 11 #[.string vB, .string (ch vB)] W fun e w' => e = .returned (.bool true) ∧ Below W.heap.size W w') := fun W hW => by
    have := match_any vB (ch vB) W (by rw [vB_size]; decide) (by rw [ch_size]; decide) (he.below hW) (ht.below hW (Nat.le_refl _))
    rwa [mt_own, vB_proof] at this
  generalize ch vB = CV at *
  have H1 : Hid (∀ W, Below w.heap.size w W → Calls Tryd.prog 9 #[.string a] W fun e w' => e = .returned (.bool (Pk.proof a.data.toList)) ∧ w' = W) := fun W hW => verifier_any a W (ht.below hW (Nat.le_refl _))
  have H2 : Hid (∀ W, Below w.heap.size w W → Calls Tryd.prog 12 #[.string a] W fun e w' => e = .returned (.string (ch a)) ∧ Below W.heap.size W w') := fun W hW => s256_any a W (by omega) (he.below hW)
  have HM : Hid (∀ X W, X.size ≤ 4611686018427387904 → Below w.heap.size w W → Calls Tryd.prog 11 #[.string a, .string X] W fun e w' => e = .returned (.bool (Pk.proof a.data.toList && sm X (ch a))) ∧ Below W.heap.size W w') := fun X W hX hW => match_any a X W (by omega) hX (he.below hW) (ht.below hW (Nat.le_refl _))
  have hbz : b.size ≤ 4611686018427387904 := by omega
  have hcz := ch_size a
  clear he ht hlt ha hb
  generalize ch a = C at *
  have HBL := hide hbl
  clear hbl
  have hcz' : C.size ≤ 4611686018427387904 := by omega
  cases hp : Pk.proof a.data.toList with
  | false =>
    rw [hp] at H1
    have M1 : Hid (∀ W, Below w.heap.size w W → Calls Tryd.prog 11 #[.string a, .string b] W fun e w' => e = .returned (.bool false) ∧ Below W.heap.size W w') := fun W hW => by
      have := HM.out b W hbz hW
      rwa [hp, Bool.false_and] at this
    have M2 : Hid (∀ W, Below w.heap.size w W → Calls Tryd.prog 11 #[.string a, .string C] W fun e w' => e = .returned (.bool false) ∧ Below W.heap.size W w') := fun W hW => by
      have := HM.out C W hcz' hW
      rwa [hp, Bool.false_and] at this
    clear hp HM hbz hcz hcz'
    go_enter Tryd.func4, Tryd.ntmps4
    go_wp2_with fail
    generalize w.alloc (.cells #[.string a, .string b] 24) = W0 at *
    refine (V1.out _ HBL.out).mono ?_
    rintro x w1 ⟨rfl, h1⟩
    obtain rfl := h1.symm
    go_wp2_with fail
    refine (V2.out _ HBL.out).mono ?_
    rintro x w2 ⟨rfl, h2⟩
    have B2 := hide h2
    clear h2 h1
    go_wp2_with fail
    refine (V3.out _ (keep2 HBL.out B2.out)).mono ?_
    rintro x w3 ⟨rfl, h3⟩
    have B3 := hide (keep2 B2.out h3)
    clear h3
    have y0 := x0 _ B3.out
    go_wp2_with fail
    refine (H1.out _ (keep2 HBL.out B3.out)).mono ?_
    rintro x w4 ⟨rfl, h4⟩
    obtain rfl := h4.symm
    clear h4
    have b3 := B3.out
    go_wp2_with fail
    go_region_held3 (fun X => Below W0.heap.size W0 X)
      (first
        | assumption
        | exact keep2 (by assumption) (by assumption)
        | exact Below.drew (by assumption))
      (first
        | (go_at_call 12; refine (H2.out _ (keep2 HBL.out (by assumption))).mono ?_; rintro x w5 ⟨rfl, hb5⟩)
        | (go_at_call 11; first
            | (with_reducible refine (M1.out _ (keep2 HBL.out (by assumption))).mono ?_; rintro x w6 ⟨rfl, hb6⟩)
            | (with_reducible refine (M2.out _ (keep2 HBL.out (by assumption))).mono ?_; rintro x w7 ⟨rfl, hb7⟩)))
    all_goals
      have HB7 : Hid (Below W0.heap.size W0 w7) := by assumption
      go_wp2
      go_ret
      exact ⟨by simp, keep2 HBL.out HB7.out⟩
  | true =>
    rw [hp] at H1
    obtain ⟨t, htt⟩ : ∃ t, sm b C = t := ⟨_, rfl⟩
    have M1 : Hid (∀ W, Below w.heap.size w W → Calls Tryd.prog 11 #[.string a, .string C] W fun e w' => e = .returned (.bool true) ∧ Below W.heap.size W w') := fun W hW => by
      have := HM.out C W hcz' hW
      rwa [hp, Bool.true_and, sm_self] at this
    have M2 : Hid (∀ W, Below w.heap.size w W → Calls Tryd.prog 11 #[.string a, .string b] W fun e w' => e = .returned (.bool t) ∧ Below W.heap.size W w') := fun W hW => by
      have := HM.out b W hbz hW
      rwa [hp, Bool.true_and, htt] at this
    have M3 : Hid (∀ W, Below w.heap.size w W → Calls Tryd.prog 11 #[.string a, .string (C ++ ⟨#[65]⟩)] W fun e w' => e = .returned (.bool false) ∧ Below W.heap.size W w') := fun W hW => by
      have h1 : (⟨#[65]⟩ : ByteArray).size = 1 := rfl
      have := HM.out (C ++ ⟨#[65]⟩) W (by rw [ByteArray.size_append]; omega) hW
      rwa [hp, Bool.true_and, sm_ne (size_ne (by rw [ByteArray.size_append]; omega))] at this
    have M4 : Hid (∀ W, Below w.heap.size w W → Calls Tryd.prog 11 #[.string a, .string (C.extract 0 42)] W fun e w' => e = .returned (.bool false) ∧ Below W.heap.size W w') := fun W hW => by
      have := HM.out (C.extract 0 42) W (by rw [ByteArray.size_extract]; omega) hW
      rwa [hp, Bool.true_and, sm_ne (size_ne (by rw [ByteArray.size_extract]; omega))] at this
    have HH := hide (fun W => head_any C W hcz)
    have q65 : ∀ X : World, (Op.stringOp .add C ⟨#[65]⟩).run Tryd.prog X = .ok (.string (C ++ ⟨#[65]⟩)) X := fun X => add_run C ⟨#[65]⟩ X (by have h1 : (⟨#[65]⟩ : ByteArray).size = 1 := rfl; omega)
    generalize C ++ ⟨#[65]⟩ = C5 at *
    have htl : (b.toList == C.toList) = t := htt
    clear hp HM hbz htt hcz
    generalize C.extract 0 42 = C4 at *
    go_enter Tryd.func4, Tryd.ntmps4
    go_wp2_with fail
    generalize w.alloc (.cells #[.string a, .string b] 24) = W0 at *
    refine (V1.out _ HBL.out).mono ?_
    rintro x w1 ⟨rfl, h1⟩
    obtain rfl := h1.symm
    go_wp2_with fail
    refine (V2.out _ HBL.out).mono ?_
    rintro x w2 ⟨rfl, h2⟩
    have B2 := hide h2
    clear h2 h1
    go_wp2_with fail
    refine (V3.out _ (keep2 HBL.out B2.out)).mono ?_
    rintro x w3 ⟨rfl, h3⟩
    have B3 := hide (keep2 B2.out h3)
    clear h3
    have y0 := x0 _ B3.out
    go_wp2_with fail
    refine (H1.out _ (keep2 HBL.out B3.out)).mono ?_
    rintro x w4 ⟨rfl, h4⟩
    obtain rfl := h4.symm
    clear h4
    go_wp2_with fail
    refine (H2.out _ (keep2 HBL.out B3.out)).mono ?_
    rintro x w5 ⟨rfl, h5⟩
    have B5 := hide (keep2 B3.out h5)
    clear h5 y0
    have b5 := B5.out
    go_wp2_with fail
    go_region_held3 (fun X => Below W0.heap.size W0 X)
      (first
        | assumption
        | exact keep2 (by assumption) (by assumption)
        | exact Below.drew (by assumption))
      (first
        | (go_at_call 13; refine (HH.out _).mono ?_; rintro x w10 ⟨rfl, h10⟩; obtain rfl := h10.symm; clear h10)
        | (go_at_call 11; first
            | (with_reducible refine (M1.out _ (keep2 HBL.out (by assumption))).mono ?_; rintro x w6 ⟨rfl, hb6⟩)
            | (with_reducible refine (M2.out _ (keep2 HBL.out (by assumption))).mono ?_; rintro x w7 ⟨rfl, hb7⟩)
            | (with_reducible refine (M3.out _ (keep2 HBL.out (by assumption))).mono ?_; rintro x w8 ⟨rfl, hb8⟩)
            | (with_reducible refine (M4.out _ (keep2 HBL.out (by assumption))).mono ?_; rintro x w9 ⟨rfl, hb9⟩)))
    all_goals
      have HB9 : Hid (Below W0.heap.size W0 w9) := by assumption
      go_wp2
      go_ret
      exact ⟨by simp, keep2 HBL.out HB9.out⟩

end Go.Proofs.YtgppnklildhmbaaDoor.pk
