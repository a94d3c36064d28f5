import Derived.Test.YtjalggkhpnfbiaaDoorBInList
namespace Go.Proofs.YtjalggkhpnfbiaaDoor.pg
open Go.ChangeShapes Go.WideShapes Go.ChangeAt Go.RowKit Go.Proofs.YtjalggkhpnfbiaaDoor.common Go.Maps
attribute [local go_sem ↓] Go.wp_at_zero Go.wp_at_succ

/-- an input as a value -/
def inV (x : Inp) : Value := .agg #[.int .i64 x.kind, .string x.name, .string x.value, .string x.label]
def hiddenP (x : Inp) : List ByteArray := [mHiddenName, x.name, mInputValue, x.value, mHiddenEnd]
def textP (x : Inp) : List ByteArray := [mLabelHead, x.label, mTextName, x.name, mInputValue, x.value, mTypedEnd]
def secretP (x : Inp) : List ByteArray := [mLabelHead, x.label, mSecretName, x.name, mTypedEnd]
def boxP (x : Inp) : List ByteArray := [mBoxHead, x.name, mInputValue, x.value, mBoxLabel, x.label, mLabelEnd]
def kindP (x : Inp) : List ByteArray := if x.kind = 1 then hiddenP x else if x.kind = 2 then textP x else if x.kind = 3 then secretP x else boxP x
/-- the line of an input -/
def lineL (x : Inp) : List UInt8 := partsA true (kindP x)
def inW (x : Inp) : Nat := x.name.size + x.value.size + x.label.size
theorem kindP_wt (x : Inp) : wt (kindP x) ≤ inW x + 100 := by
  unfold kindP inW
  split
  · show 27 + (x.name.size + (9 + (x.value.size + (3 + 0)))) ≤ _; omega
  split
  · show 10 + (x.label.size + (26 + (x.name.size + (9 + (x.value.size + (15 + 0)))))) ≤ _; omega
  split
  · show 10 + (x.label.size + (30 + (x.name.size + (15 + 0)))) ≤ _; omega
  · show 39 + (x.name.size + (9 + (x.value.size + (11 + (x.label.size + (13 + 0)))))) ≤ _; omega

set_option maxRecDepth 100000 in
set_option maxHeartbeats 800000 in
theorem wHidden_any (b : Nat) (w : World) (xs : List Value) (l : List UInt8) (x : Inp) (h : Bd w b 56 xs l) (ht : Esc w) (hB : 4 < b) (hl : l.length + 6 * wt (hiddenP x) + 6 ≤ 140737488355328) :
    Calls Tryd.prog 30 #[ptr b, inV x] w fun e w' => e = .returned (.tuple #[]) ∧ Bd w' b 56 xs (l ++ partsA true (hiddenP x)) ∧ Fr b w w' := by
  obtain ⟨kd, nm, vl, lb⟩ := x
  unfold inV
  have HH := hide h
  have HT := hide ht
  have HB := hide hB
  have HL := hide hl
  clear h ht hB hl
  go_enter Tryd.func30, Tryd.ntmps30
  go_wp2_with fail
  have B1 : Below w.heap.size w (w.alloc (.cells #[.int .i64 kd, .string nm, .string vl, .string lb] 28)) := (Below.refl _ _).alloc (Nat.le_refl _) _
  have HL1 := hide (lit_stays (w.alloc (.cells #[.int .i64 kd, .string nm, .string vl, .string lb] 28)) b (w.heap.size + 1) (hiddenP ⟨kd, nm, vl, lb⟩) (by simp) (by have := HH.out.lt; simp; omega))
  have B2 : Below w.heap.size w ((w.alloc (.cells #[.int .i64 kd, .string nm, .string vl, .string lb] 28)).alloc (.cells ((hiddenP ⟨kd, nm, vl, lb⟩).map Value.string).toArray 9)) := B1.alloc B1.size _
  have HP := hide (parts_any b _ xs l _ (hiddenP ⟨kd, nm, vl, lb⟩) (HH.out.next B2) (HT.out.next B2) HB.out HL1.out (by
    intro i hi hp
    match i, hi, hp with
    | 0, _, _ => show 0 < mHiddenName.size; decide
    | 1, _, hp => exact absurd hp (by decide)
    | 2, _, _ => show 0 < mInputValue.size; decide
    | 3, _, hp => exact absurd hp (by decide)
    | 4, _, _ => show 0 < mHiddenEnd.size; decide
    | k + 5, hi, _ => exact absurd hi (by show ¬ k + 5 < 5; omega)) HL.out (by show 5 ≤ 4611686018427387904; omega))
  have HF := hide (fr_of_below B2 b (Nat.le_of_lt HH.out.lt))
  refine HP.out.mono ?_
  rintro e w' ⟨rfl, hbd, hfr⟩
  have H1 := hide hbd
  have H2 := hide (HF.out.trans hfr)
  clear hbd hfr B1 B2
  go_wp2
  go_end0
  exact ⟨rfl, H1.out, H2.out⟩

set_option maxRecDepth 100000 in
set_option maxHeartbeats 800000 in
theorem wText_any (b : Nat) (w : World) (xs : List Value) (l : List UInt8) (x : Inp) (h : Bd w b 56 xs l) (ht : Esc w) (hB : 4 < b) (hl : l.length + 6 * wt (textP x) + 6 ≤ 140737488355328) :
    Calls Tryd.prog 32 #[ptr b, inV x] w fun e w' => e = .returned (.tuple #[]) ∧ Bd w' b 56 xs (l ++ partsA true (textP x)) ∧ Fr b w w' := by
  obtain ⟨kd, nm, vl, lb⟩ := x
  unfold inV
  have HH := hide h
  have HT := hide ht
  have HB := hide hB
  have HL := hide hl
  clear h ht hB hl
  go_enter Tryd.func32, Tryd.ntmps32
  go_wp2_with fail
  have B1 : Below w.heap.size w (w.alloc (.cells #[.int .i64 kd, .string nm, .string vl, .string lb] 28)) := (Below.refl _ _).alloc (Nat.le_refl _) _
  have HL1 := hide (lit_stays (w.alloc (.cells #[.int .i64 kd, .string nm, .string vl, .string lb] 28)) b (w.heap.size + 1) (textP ⟨kd, nm, vl, lb⟩) (by simp) (by have := HH.out.lt; simp; omega))
  have B2 : Below w.heap.size w ((w.alloc (.cells #[.int .i64 kd, .string nm, .string vl, .string lb] 28)).alloc (.cells ((textP ⟨kd, nm, vl, lb⟩).map Value.string).toArray 9)) := B1.alloc B1.size _
  have HP := hide (parts_any b _ xs l _ (textP ⟨kd, nm, vl, lb⟩) (HH.out.next B2) (HT.out.next B2) HB.out HL1.out (by
    intro i hi hp
    match i, hi, hp with
    | 0, _, _ => show 0 < mLabelHead.size; decide
    | 1, _, hp => exact absurd hp (by decide)
    | 2, _, _ => show 0 < mTextName.size; decide
    | 3, _, hp => exact absurd hp (by decide)
    | 4, _, _ => show 0 < mInputValue.size; decide
    | 5, _, hp => exact absurd hp (by decide)
    | 6, _, _ => show 0 < mTypedEnd.size; decide
    | k + 7, hi, _ => exact absurd hi (by show ¬ k + 7 < 7; omega)) HL.out (by show 7 ≤ 4611686018427387904; omega))
  have HF := hide (fr_of_below B2 b (Nat.le_of_lt HH.out.lt))
  refine HP.out.mono ?_
  rintro e w' ⟨rfl, hbd, hfr⟩
  have H1 := hide hbd
  have H2 := hide (HF.out.trans hfr)
  clear hbd hfr B1 B2
  go_wp2
  go_end0
  exact ⟨rfl, H1.out, H2.out⟩

set_option maxRecDepth 100000 in
set_option maxHeartbeats 800000 in
theorem wSecret_any (b : Nat) (w : World) (xs : List Value) (l : List UInt8) (x : Inp) (h : Bd w b 56 xs l) (ht : Esc w) (hB : 4 < b) (hl : l.length + 6 * wt (secretP x) + 6 ≤ 140737488355328) :
    Calls Tryd.prog 34 #[ptr b, inV x] w fun e w' => e = .returned (.tuple #[]) ∧ Bd w' b 56 xs (l ++ partsA true (secretP x)) ∧ Fr b w w' := by
  obtain ⟨kd, nm, vl, lb⟩ := x
  unfold inV
  have HH := hide h
  have HT := hide ht
  have HB := hide hB
  have HL := hide hl
  clear h ht hB hl
  go_enter Tryd.func34, Tryd.ntmps34
  go_wp2_with fail
  have B1 : Below w.heap.size w (w.alloc (.cells #[.int .i64 kd, .string nm, .string vl, .string lb] 28)) := (Below.refl _ _).alloc (Nat.le_refl _) _
  have HL1 := hide (lit_stays (w.alloc (.cells #[.int .i64 kd, .string nm, .string vl, .string lb] 28)) b (w.heap.size + 1) (secretP ⟨kd, nm, vl, lb⟩) (by simp) (by have := HH.out.lt; simp; omega))
  have B2 : Below w.heap.size w ((w.alloc (.cells #[.int .i64 kd, .string nm, .string vl, .string lb] 28)).alloc (.cells ((secretP ⟨kd, nm, vl, lb⟩).map Value.string).toArray 9)) := B1.alloc B1.size _
  have HP := hide (parts_any b _ xs l _ (secretP ⟨kd, nm, vl, lb⟩) (HH.out.next B2) (HT.out.next B2) HB.out HL1.out (by
    intro i hi hp
    match i, hi, hp with
    | 0, _, _ => show 0 < mLabelHead.size; decide
    | 1, _, hp => exact absurd hp (by decide)
    | 2, _, _ => show 0 < mSecretName.size; decide
    | 3, _, hp => exact absurd hp (by decide)
    | 4, _, _ => show 0 < mTypedEnd.size; decide
    | k + 5, hi, _ => exact absurd hi (by show ¬ k + 5 < 5; omega)) HL.out (by show 5 ≤ 4611686018427387904; omega))
  have HF := hide (fr_of_below B2 b (Nat.le_of_lt HH.out.lt))
  refine HP.out.mono ?_
  rintro e w' ⟨rfl, hbd, hfr⟩
  have H1 := hide hbd
  have H2 := hide (HF.out.trans hfr)
  clear hbd hfr B1 B2
  go_wp2
  go_end0
  exact ⟨rfl, H1.out, H2.out⟩

set_option maxRecDepth 100000 in
set_option maxHeartbeats 800000 in
theorem wBox_any (b : Nat) (w : World) (xs : List Value) (l : List UInt8) (x : Inp) (h : Bd w b 56 xs l) (ht : Esc w) (hB : 4 < b) (hl : l.length + 6 * wt (boxP x) + 6 ≤ 140737488355328) :
    Calls Tryd.prog 35 #[ptr b, inV x] w fun e w' => e = .returned (.tuple #[]) ∧ Bd w' b 56 xs (l ++ partsA true (boxP x)) ∧ Fr b w w' := by
  obtain ⟨kd, nm, vl, lb⟩ := x
  unfold inV
  have HH := hide h
  have HT := hide ht
  have HB := hide hB
  have HL := hide hl
  clear h ht hB hl
  go_enter Tryd.func35, Tryd.ntmps35
  go_wp2_with fail
  have B1 : Below w.heap.size w (w.alloc (.cells #[.int .i64 kd, .string nm, .string vl, .string lb] 28)) := (Below.refl _ _).alloc (Nat.le_refl _) _
  have HL1 := hide (lit_stays (w.alloc (.cells #[.int .i64 kd, .string nm, .string vl, .string lb] 28)) b (w.heap.size + 1) (boxP ⟨kd, nm, vl, lb⟩) (by simp) (by have := HH.out.lt; simp; omega))
  have B2 : Below w.heap.size w ((w.alloc (.cells #[.int .i64 kd, .string nm, .string vl, .string lb] 28)).alloc (.cells ((boxP ⟨kd, nm, vl, lb⟩).map Value.string).toArray 9)) := B1.alloc B1.size _
  have HP := hide (parts_any b _ xs l _ (boxP ⟨kd, nm, vl, lb⟩) (HH.out.next B2) (HT.out.next B2) HB.out HL1.out (by
    intro i hi hp
    match i, hi, hp with
    | 0, _, _ => show 0 < mBoxHead.size; decide
    | 1, _, hp => exact absurd hp (by decide)
    | 2, _, _ => show 0 < mInputValue.size; decide
    | 3, _, hp => exact absurd hp (by decide)
    | 4, _, _ => show 0 < mBoxLabel.size; decide
    | 5, _, hp => exact absurd hp (by decide)
    | 6, _, _ => show 0 < mLabelEnd.size; decide
    | k + 7, hi, _ => exact absurd hi (by show ¬ k + 7 < 7; omega)) HL.out (by show 7 ≤ 4611686018427387904; omega))
  have HF := hide (fr_of_below B2 b (Nat.le_of_lt HH.out.lt))
  refine HP.out.mono ?_
  rintro e w' ⟨rfl, hbd, hfr⟩
  have H1 := hide hbd
  have H2 := hide (HF.out.trans hfr)
  clear hbd hfr B1 B2
  go_wp2
  go_end0
  exact ⟨rfl, H1.out, H2.out⟩

end Go.Proofs.YtjalggkhpnfbiaaDoor.pg
