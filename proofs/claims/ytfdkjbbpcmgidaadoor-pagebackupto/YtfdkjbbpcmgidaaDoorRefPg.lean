import Derived.Test.YtfdkjbbpcmgidaaDoorRefMay
namespace Go.Proofs.YtfdkjbbpcmgidaaDoor.pg
open Go.ChangeShapes Go.WideShapes Go.ChangeAt Go.RowKit Go.Proofs.YtfdkjbbpcmgidaaDoor.common Go.Maps
attribute [local go_sem ↓] Go.wp_at_zero Go.wp_at_succ

theorem cat_list (a b : ByteArray) : (a ++ b).data.toList = a.data.toList ++ b.data.toList := by simp
abbrev eb (s : ByteArray) : ByteArray := ⟨(Pg.esc s.data.toList).toArray⟩
theorem S_of {l : List UInt8} {b : ByteArray} (h : l = b.data.toList) : S l = .string b := congrArg Value.string (str_eq l b h)
theorem line1 (nm vl lb : ByteArray) : lineL ⟨1, nm, vl, lb⟩ = (mHiddenName ++ eb nm ++ mInputValue ++ eb vl ++ mHiddenEnd).data.toList := by
  simp only [cat_list, List.append_assoc]
  show partsA true (hiddenP _) = _
  simp only [hiddenP, partsA, List.append_nil]
theorem line2 (nm vl lb : ByteArray) : lineL ⟨2, nm, vl, lb⟩ = (mLabelHead ++ eb lb ++ mTextName ++ eb nm ++ mInputValue ++ eb vl ++ mTypedEnd).data.toList := by
  simp only [cat_list, List.append_assoc]
  show partsA true (textP _) = _
  simp only [textP, partsA, List.append_nil]
theorem line3 (nm vl lb : ByteArray) : lineL ⟨3, nm, vl, lb⟩ = (mLabelHead ++ eb lb ++ mSecretName ++ eb nm ++ mTypedEnd).data.toList := by
  simp only [cat_list, List.append_assoc]
  show partsA true (secretP _) = _
  simp only [secretP, partsA, List.append_nil]
theorem line4 (kd : Int) (nm vl lb : ByteArray) (h1 : kd ≠ 1) (h2 : kd ≠ 2) (h3 : kd ≠ 3) : lineL ⟨kd, nm, vl, lb⟩ = (mBoxHead ++ eb nm ++ mInputValue ++ eb vl ++ mBoxLabel ++ eb lb ++ mLabelEnd).data.toList := by
  simp only [cat_list, List.append_assoc]
  have : kindP ⟨kd, nm, vl, lb⟩ = boxP ⟨kd, nm, vl, lb⟩ := by unfold kindP; rw [if_neg h1, if_neg h2, if_neg h3]
  unfold lineL
  rw [this]
  simp only [boxP, partsA, List.append_nil]

set_option maxRecDepth 100000 in
set_option maxHeartbeats 1600000 in
theorem refLine_any (x : Inp) (w : World) (hs : 6 * inW x + 6 ≤ 140737488355) :
    Calls Tryd.prog 74 #[inV x] w fun e w' => e = .returned (S (lineL x)) ∧ Below w.heap.size w w' := by
  obtain ⟨kd, nm, vl, lb⟩ := x
  have hs' : 6 * (nm.size + vl.size + lb.size) + 6 ≤ 140737488355 := hs
  have BA : Below w.heap.size w (w.alloc (.cells #[.int .i64 kd, .string nm, .string vl, .string lb] 38)) := (Below.refl _ _).alloc (Nat.le_refl _) _
  have hI : (w.alloc (.cells #[.int .i64 kd, .string nm, .string vl, .string lb] 38)).heap[w.heap.size]? = some (.cells #[.int .i64 kd, .string nm, .string vl, .string lb] 38) := by show (w.heap.push _)[w.heap.size]? = _; simp
  have hIl := (Array.getElem?_eq_some_iff.1 hI).1
  have HI := hide hI
  have HBA := hide BA
  unfold inV
  clear BA hI
  go_enter Tryd.func74, Tryd.ntmps74
  go_wp2_with fail
  generalize w.alloc (.cells #[.int .i64 kd, .string nm, .string vl, .string lb] 38) = W at *
  refine (refEscape_any nm W (by omega)).mono ?_
  rintro e w1 ⟨rfl, hb1⟩
  have hI1 := (hb1.block _ hIl).trans HI.out
  have c1 : w1.cell? ⟨w.heap.size, 2, none⟩ = some (.string vl) := by simp [World.cell?, hI1]
  have H1 := hide hb1
  clear hb1 hI1
  go_wp2_with fail
  refine (refEscape_any vl w1 (by omega)).mono ?_
  rintro e w2 ⟨rfl, hb2⟩
  have H2 := hide (H1.out.trans (hb2.mono H1.out.size))
  have hI2 := (H2.out.block _ hIl).trans HI.out
  have c2 : w2.cell? ⟨w.heap.size, 3, none⟩ = some (.string lb) := by simp [World.cell?, hI2]
  clear hb2 hI2 c1 H1
  go_wp2_with fail
  refine (refEscape_any lb w2 (by omega)).mono ?_
  rintro e w3 ⟨rfl, hb3⟩
  have H3 := hide (H2.out.trans (hb3.mono H2.out.size))
  have hI3 := (H3.out.block _ hIl).trans HI.out
  have c3 : w3.cell? ⟨w.heap.size, 0, none⟩ = some (.int .i64 kd) := by simp [World.cell?, hI3]
  have HZ : Hid (Below w.heap.size w w3) := HBA.out.trans (H3.out.mono HBA.out.size)
  clear hb3 hI3 c2 H2 H3
  have HR1 := hide (fun h : kd = 1 => S_of (by rw [h]; exact line1 nm vl lb : lineL ⟨kd, nm, vl, lb⟩ = _))
  have HR2 := hide (fun h : kd = 2 => S_of (by rw [h]; exact line2 nm vl lb : lineL ⟨kd, nm, vl, lb⟩ = _))
  have HR3 := hide (fun h : kd = 3 => S_of (by rw [h]; exact line3 nm vl lb : lineL ⟨kd, nm, vl, lb⟩ = _))
  have HR4 := hide (fun (h1 : kd ≠ 1) (h2 : kd ≠ 2) (h3 : kd ≠ 3) => S_of (line4 kd nm vl lb h1 h2 h3))
  have hn := (Pg.esc_len nm.data.toList).2
  have hv := (Pg.esc_len vl.data.toList).2
  have hb := (Pg.esc_len lb.data.toList).2
  rw [len_list] at hn hv hb
  by_cases h1 : kd = 1
  · go_wp2_with fail
    go_ret
    exact ⟨by rw [HR1.out h1]; rfl, HZ.out⟩
  by_cases h2 : kd = 2
  · go_wp2_with fail
    go_ret
    exact ⟨by rw [HR2.out h2]; rfl, HZ.out⟩
  by_cases h3 : kd = 3
  · go_wp2_with fail
    go_ret
    exact ⟨by rw [HR3.out h3]; rfl, HZ.out⟩
  · go_wp2_with fail
    go_ret
    exact ⟨by rw [HR4.out h1 h2 h3]; rfl, HZ.out⟩
end Go.Proofs.YtfdkjbbpcmgidaaDoor.pg
