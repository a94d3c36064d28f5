import Derived.Test.YthkbheojjcdglabDoorRefForm
import Derived.Test.YthkbheojjcdglabDoorKeptWalks
import Derived.Test.YthkbheojjcdglabDoorTurnList
namespace Go.Proofs.YthkbheojjcdglabDoor.pctw
open Go.ChangeShapes Go.WideShapes Go.ChangeAt Go.RowKit Go.Proofs.YthkbheojjcdglabDoor.common
open Go.Proofs.YthkbheojjcdglabDoor.lst (PB Lies takeP own_below keepD keepT spare_any copied_any kept_any turn_any turn_own lies_of_own lies_map bh)
attribute [local go_sem ↓] Go.wp_at_zero Go.wp_at_succ

theorem tot_map (l : List PB) : tot (l.map fun p => (p.2, p.1)) = tot l := by
  induction l with
  | nil => rfl
  | cons p r ih => show p.2.size + p.1.size + 1 + tot (r.map fun p => (p.2, p.1)) = p.1.size + p.2.size + 1 + tot r; rw [ih]; omega

set_option maxRecDepth 100000 in
set_option maxHeartbeats 6400000 in
theorem lawForms (v : Value) (l : List PB) (w : World) (hl : Lies w v l) (ht : Tab w) (hs : 4 * tot l ≤ 140737488355328) (hn : (l.length + 2) * 32 ≤ 140737488355328) :
    Calls Tryd.prog 3 #[v] w fun e w' => e = .returned (.bool true) ∧ Below w.heap.size w w' := by
  have HL := hide hl
  have HT := hide ht
  obtain ⟨ov, cv, rfl, _⟩ := hl
  clear ht
  go_enter Tryd.func3, Tryd.ntmps3
  go_wp2_with fail
  refine (spare_any _ l w HL.out hn).mono ?_
  rintro x w1 ⟨g, cap, rfl, hg0, hg, hcap, hrow, hb1⟩
  have HR1 := hide hrow
  have HG1 := hide hg
  have HB1 := hide hb1
  have HFL : Hid (Lies w1 (.slice (some ⟨g, 0, none⟩) l.length cap) l) := by
    have := hrow.lies hg l.length cap (by rw [List.length_append]; omega)
    rw [List.take_left] at this
    exact this
  clear hb1 hrow
  have k0 : (0 : Int) ≤ (l.length : Int) := Int.natCast_nonneg _
  have k4 : (l.length : Int) ≤ (cap : Int) := by omega
  have k5 : l.length ≤ cap := by omega
  have hll : l.length ≤ 4611686018427387000 := by omega
  go_wp2_with fail
  refine (form_any _ l _ HFL.out (HT.out.below HB1.out (Nat.le_refl _)) hs (by omega)).mono ?_
  rintro x w2 ⟨rfl, hb2⟩
  have HR2 := hide (HR1.out.below hb2 HG1.out)
  have HG2 : Hid (g < w2.heap.size) := Nat.lt_of_lt_of_le HG1.out hb2.size
  have HB2 : Hid (Below w.heap.size w w2) := HB1.out.trans (hb2.mono HB1.out.size)
  clear hb2 HR1 HG1 HFL HB1
  obtain ⟨Y, hY⟩ : ∃ Y : ByteArray, (⟨(Pct.form (l.map pr)).toArray⟩ : ByteArray) = Y := ⟨_, rfl⟩
  rw [show S (Pct.form (l.map pr)) = .string Y from congrArg Value.string hY]
  have HY := hide hY
  clear hY
  go_wp2_with fail
  refine (copied_any _ l _ (HL.out.below HB2.out) (by omega)).mono ?_
  rintro x w3 ⟨v3, rfl, ho3, hb3⟩
  have HO3 := hide (lies_of_own ho3)
  have HR3 := hide (HR2.out.below hb3 HG2.out)
  have HG3 : Hid (g < w3.heap.size) := Nat.lt_of_lt_of_le HG2.out hb3.size
  have HB3 : Hid (Below w.heap.size w w3) := HB2.out.trans (hb3.mono HB2.out.size)
  clear hb3 ho3 HR2 HG2 HB2
  go_wp2_with fail
  refine (refForm_any _ l _ HO3.out hs (by omega)).mono ?_
  rintro x w4 ⟨rfl, hb4⟩
  rw [show S (Pct.form (l.map pr)) = .string Y from congrArg Value.string HY.out]
  have HR4 := hide (HR3.out.below hb4 HG3.out)
  have HG4 : Hid (g < w4.heap.size) := Nat.lt_of_lt_of_le HG3.out hb4.size
  have HB4 : Hid (Below w.heap.size w w4) := HB3.out.trans (hb4.mono HB3.out.size)
  clear hb4 HO3 HR3 HG3 HB3
  go_wp2_with fail
  refine (kept_any g cap _ l _ HR4.out HG4.out (HL.out.below HB4.out) hcap (by omega)).mono ?_
  rintro x w5 ⟨rfl, hb5⟩
  have HR5 := hide (HR4.out.below hb5 HG4.out)
  have HG5 : Hid (g < w5.heap.size) := Nat.lt_of_lt_of_le HG4.out hb5.size
  have HB5 : Hid (Below w.heap.size w w5) := HB4.out.trans (hb5.mono HB4.out.size)
  clear hb5 HR4 HG4 HB4
  go_wp2_with fail
  refine (turn_any g l.length cap l [(bh, bh), (bh, bh)] _ rfl HR5.out (by omega)).mono ?_
  rintro x w6 ⟨rfl, hr6, hb6⟩
  have HL6 := hide (lies_map l hr6 (Nat.lt_of_lt_of_le HG5.out hb6.size) cap)
  have HB6 : Hid (Below w.heap.size w w6) := keepT hg0 HB5.out hb6
  clear hr6 hb6 HR5 HG5 HB5
  have HTM := hide (tot_map l)
  go_wp2_with fail
  refine (form_any _ (l.map fun p => (p.2, p.1)) _ HL6.out (HT.out.below HB6.out (Nat.le_refl _)) (by rw [HTM.out]; exact hs) (by rw [List.length_map]; omega)).mono ?_
  rintro x w7 ⟨rfl, hb7⟩
  have HB7 : Hid (Below w.heap.size w w7) := HB6.out.trans (hb7.mono HB6.out.size)
  clear hb7 HL6 HB6
  obtain ⟨Z, hZ⟩ : ∃ Z : ByteArray, (⟨(Pct.form ((l.map fun p => (p.2, p.1)).map pr)).toArray⟩ : ByteArray) = Z := ⟨_, rfl⟩
  rw [show S (Pct.form ((l.map fun p => (p.2, p.1)).map pr)) = .string Z from congrArg Value.string hZ]
  have HZ := hide hZ
  clear hZ
  go_wp2_with fail
  refine (copied_any _ l _ (HL.out.below HB7.out) (by omega)).mono ?_
  rintro x w8 ⟨v8, rfl, ho8, hb8⟩
  have HB8 : Hid (Below w.heap.size w w8) := HB7.out.trans (hb8.mono HB7.out.size)
  have HO8 := hide ho8
  clear hb8 ho8
  go_wp2_with fail
  refine (turn_own _ l _ HO8.out (by omega)).mono ?_
  rintro x w9 ⟨rfl, hl9, hb9⟩
  have HB9 : Hid (Below w.heap.size w w9) := keepT HB7.out.size HB8.out hb9
  have HL9 := hide hl9
  clear hb9 hl9 HO8
  go_wp2_with fail
  refine (refForm_any _ (l.map fun p => (p.2, p.1)) _ HL9.out (by rw [HTM.out]; exact hs) (by rw [List.length_map]; omega)).mono ?_
  rintro x w10 ⟨rfl, hb10⟩
  rw [show S (Pct.form ((l.map fun p => (p.2, p.1)).map pr)) = .string Z from congrArg Value.string HZ.out]
  have HB10 : Hid (Below w.heap.size w w10) := HB9.out.trans (hb10.mono HB9.out.size)
  clear hb10
  go_wp2_with fail
  go_ret
  exact ⟨by simp, HB10.out⟩

end Go.Proofs.YthkbheojjcdglabDoor.pctw
