import Derived.Test.YtaejlcffimkopaaDoorPageAll
namespace Go.Proofs.YtaejlcffimkopaaDoor.pg
open Go.ChangeShapes Go.WideShapes Go.ChangeAt Go.RowKit Go.Proofs.YtaejlcffimkopaaDoor.common Go.Maps
attribute [local go_sem ↓] Go.wp_at_zero Go.wp_at_succ

set_option maxRecDepth 100000 in
set_option maxHeartbeats 1600000 in
theorem refMayBe_any (x : Inp) (w : World) :
    Calls Tryd.prog 53 #[inV x] w fun e w' => e = .returned (.bool (mayB x)) ∧ Below w.heap.size w w' := by
  obtain ⟨kd, nm, vl, lb⟩ := x
  have HB1 : Hid (Below w.heap.size w (w.alloc (.cells #[.int .i64 kd, .string nm, .string vl, .string lb] 28))) := (Below.refl _ _).alloc (Nat.le_refl _) _
  unfold inV
  by_cases hk0 : kd < 1
  · have HM : Hid (mayB ⟨kd, nm, vl, lb⟩ = false) := by
      show _ = _
      unfold mayB
      simp only
      rw [if_neg (by omega), if_neg (by omega), if_neg (by omega), if_neg (by omega), Bool.and_false]
    go_enter Tryd.func53, Tryd.ntmps53
    go_wp2_with fail
    go_ret
    exact ⟨by rw [HM.out]; rfl, HB1.out⟩
  by_cases hk5 : 4 < kd
  · have HM : Hid (mayB ⟨kd, nm, vl, lb⟩ = false) := by
      show _ = _
      unfold mayB
      simp only
      rw [if_neg (by omega), if_neg (by omega), if_neg (by omega), if_neg (by omega), Bool.and_false]
    go_enter Tryd.func53, Tryd.ntmps53
    go_wp2_with fail
    go_ret
    exact ⟨by rw [HM.out]; rfl, HB1.out⟩
  obtain ⟨en, hen⟩ : ∃ en, nm.toList.isEmpty = en := ⟨_, rfl⟩
  obtain ⟨el, hel⟩ : ∃ el, lb.toList.isEmpty = el := ⟨_, rfl⟩
  obtain ⟨ev, hev⟩ : ∃ ev, vl.toList.isEmpty = ev := ⟨_, rfl⟩
  have hk : kd = 1 ∨ kd = 2 ∨ kd = 3 ∨ kd = 4 := by omega
  have HM : Hid (mayB ⟨kd, nm, vl, lb⟩ = (!en && (if kd = 1 then el else if kd = 2 then true else if kd = 3 then ev else if kd = 4 then true else false))) := by
    show _ = _
    unfold mayB emp
    simp only [hen, hel, hev]
  clear hk0 hk5
  rcases hk with rfl | rfl | rfl | rfl <;> cases en <;> cases el <;> cases ev
  all_goals
    go_enter Tryd.func53, Tryd.ntmps53
    go_wp2_with fail
    go_ret
    exact ⟨by rw [HM.out]; rfl, HB1.out⟩

end Go.Proofs.YtaejlcffimkopaaDoor.pg

namespace Go.Proofs.YtaejlcffimkopaaDoor.pg
open Go.ChangeShapes Go.WideShapes Go.ChangeAt Go.RowKit Go.Proofs.YtaejlcffimkopaaDoor.common Go.Maps
attribute [local go_sem ↓] Go.wp_at_zero Go.wp_at_succ

theorem cat_list (a b : ByteArray) : (a ++ b).data.toList = a.data.toList ++ b.data.toList := by simp
abbrev eb (s : ByteArray) : ByteArray := ⟨(Pg.esc s.data.toList).toArray⟩
theorem S_of {l : List UInt8} {b : ByteArray} (h : l = b.data.toList) : S l = .string b := congrArg Value.string (str_eq l b h)
theorem line1 (nm vl lb : ByteArray) : lineL ⟨1, nm, vl, lb⟩ = (mHiddenName ++ eb nm ++ mInputValue ++ eb vl ++ mHiddenEnd).data.toList := by
  simp only [cat_list, List.append_assoc]
  show partsA true (hiddenP _) = _
  simp only [hiddenP, partsA, List.append_nil]
theorem line2 (nm vl lb : ByteArray) : lineL ⟨2, nm, vl, lb⟩ = (mLabelHead ++ eb lb ++ mTextName ++ eb nm ++ mInputValue ++ eb vl ++ mTypedEnd).data.toList := by
  simp only [cat_list, List.append_assoc]
  show partsA true (textP _) = _
  simp only [textP, partsA, List.append_nil]
theorem line3 (nm vl lb : ByteArray) : lineL ⟨3, nm, vl, lb⟩ = (mLabelHead ++ eb lb ++ mSecretName ++ eb nm ++ mTypedEnd).data.toList := by
  simp only [cat_list, List.append_assoc]
  show partsA true (secretP _) = _
  simp only [secretP, partsA, List.append_nil]
theorem line4 (kd : Int) (nm vl lb : ByteArray) (h1 : kd ≠ 1) (h2 : kd ≠ 2) (h3 : kd ≠ 3) : lineL ⟨kd, nm, vl, lb⟩ = (mBoxHead ++ eb nm ++ mInputValue ++ eb vl ++ mBoxLabel ++ eb lb ++ mLabelEnd).data.toList := by
  simp only [cat_list, List.append_assoc]
  have : kindP ⟨kd, nm, vl, lb⟩ = boxP ⟨kd, nm, vl, lb⟩ := by unfold kindP; rw [if_neg h1, if_neg h2, if_neg h3]
  unfold lineL
  rw [this]
  simp only [boxP, partsA, List.append_nil]

set_option maxRecDepth 100000 in
set_option maxHeartbeats 1600000 in
theorem refLine_any (x : Inp) (w : World) (hs : 6 * inW x + 6 ≤ 140737488355) :
    Calls Tryd.prog 71 #[inV x] w fun e w' => e = .returned (S (lineL x)) ∧ Below w.heap.size w w' := by
  obtain ⟨kd, nm, vl, lb⟩ := x
  have hs' : 6 * (nm.size + vl.size + lb.size) + 6 ≤ 140737488355 := hs
  have BA : Below w.heap.size w (w.alloc (.cells #[.int .i64 kd, .string nm, .string vl, .string lb] 28)) := (Below.refl _ _).alloc (Nat.le_refl _) _
  have hI : (w.alloc (.cells #[.int .i64 kd, .string nm, .string vl, .string lb] 28)).heap[w.heap.size]? = some (.cells #[.int .i64 kd, .string nm, .string vl, .string lb] 28) := by show (w.heap.push _)[w.heap.size]? = _; simp
  have hIl := (Array.getElem?_eq_some_iff.1 hI).1
  have HI := hide hI
  have HBA := hide BA
  unfold inV
  clear BA hI
  go_enter Tryd.func71, Tryd.ntmps71
  go_wp2_with fail
  generalize w.alloc (.cells #[.int .i64 kd, .string nm, .string vl, .string lb] 28) = W at *
  refine (refEscape_any nm W (by omega)).mono ?_
  rintro e w1 ⟨rfl, hb1⟩
  have hI1 := (hb1.block _ hIl).trans HI.out
  have c1 : w1.cell? ⟨w.heap.size, 2, none⟩ = some (.string vl) := by simp [World.cell?, hI1]
  have H1 := hide hb1
  clear hb1 hI1
  go_wp2_with fail
  refine (refEscape_any vl w1 (by omega)).mono ?_
  rintro e w2 ⟨rfl, hb2⟩
  have H2 := hide (H1.out.trans (hb2.mono H1.out.size))
  have hI2 := (H2.out.block _ hIl).trans HI.out
  have c2 : w2.cell? ⟨w.heap.size, 3, none⟩ = some (.string lb) := by simp [World.cell?, hI2]
  clear hb2 hI2 c1 H1
  go_wp2_with fail
  refine (refEscape_any lb w2 (by omega)).mono ?_
  rintro e w3 ⟨rfl, hb3⟩
  have H3 := hide (H2.out.trans (hb3.mono H2.out.size))
  have hI3 := (H3.out.block _ hIl).trans HI.out
  have c3 : w3.cell? ⟨w.heap.size, 0, none⟩ = some (.int .i64 kd) := by simp [World.cell?, hI3]
  have HZ : Hid (Below w.heap.size w w3) := HBA.out.trans (H3.out.mono HBA.out.size)
  clear hb3 hI3 c2 H2 H3
  have HR1 := hide (fun h : kd = 1 => S_of (by rw [h]; exact line1 nm vl lb : lineL ⟨kd, nm, vl, lb⟩ = _))
  have HR2 := hide (fun h : kd = 2 => S_of (by rw [h]; exact line2 nm vl lb : lineL ⟨kd, nm, vl, lb⟩ = _))
  have HR3 := hide (fun h : kd = 3 => S_of (by rw [h]; exact line3 nm vl lb : lineL ⟨kd, nm, vl, lb⟩ = _))
  have HR4 := hide (fun (h1 : kd ≠ 1) (h2 : kd ≠ 2) (h3 : kd ≠ 3) => S_of (line4 kd nm vl lb h1 h2 h3))
  have hn := (Pg.esc_len nm.data.toList).2
  have hv := (Pg.esc_len vl.data.toList).2
  have hb := (Pg.esc_len lb.data.toList).2
  rw [len_list] at hn hv hb
  by_cases h1 : kd = 1
  · go_wp2_with fail
    go_ret
    exact ⟨by rw [HR1.out h1]; rfl, HZ.out⟩
  by_cases h2 : kd = 2
  · go_wp2_with fail
    go_ret
    exact ⟨by rw [HR2.out h2]; rfl, HZ.out⟩
  by_cases h3 : kd = 3
  · go_wp2_with fail
    go_ret
    exact ⟨by rw [HR3.out h3]; rfl, HZ.out⟩
  · go_wp2_with fail
    go_ret
    exact ⟨by rw [HR4.out h1 h2 h3]; rfl, HZ.out⟩
end Go.Proofs.YtaejlcffimkopaaDoor.pg

namespace Go.Proofs.YtaejlcffimkopaaDoor.pg
open Go.ChangeShapes Go.WideShapes Go.ChangeAt Go.RowKit Go.Proofs.YtaejlcffimkopaaDoor.common Go.Maps
attribute [local go_sem ↓] Go.wp_at_zero Go.wp_at_succ

/-- a text behind bytes of one's own -/
theorem app_str (w : World) {ops : Array Oper} {rest : List Oper} {o : Oper} {a : Act} {Q : Exit → Act → World → Prop} (hgd : o.guard = none) (s x : Operand)
    (ho : o.op = .call { callee := .builtin .append, args := #[s, x], argTypes := #[56, 9] }) (base : Nat) (v : Value) (l : List UInt8) (hs : a.eval s = v) (hown : w.ownsRow base 5 1 v l.length (l.map B)) (Z : ByteArray) (hx : a.eval x = .string Z) (hb : l.length + Z.size ≤ 140737488355328) (hbase : base ≤ w.heap.size)
    (h : ∀ v' w' (l' : List UInt8), Hid (l' = l ++ Z.data.toList) → Hid (l'.length = l.length + Z.size) → w'.ownsRow base 5 1 v' l'.length (l'.map B) → (∀ a0 : World, Below base a0 w → Below base a0 w') → wpList Tryd.prog ops Q rest (a.put o.dst v') w') : wpList Tryd.prog ops Q (o :: rest) a w := by
  obtain ⟨i0, hi, hz0, hz1, hz2⟩ := info_parts info8
  refine Lib.wpList_append_own_string _ hgd _ _ 56 9 ho base 5 i0 Tryd.underlying56 Tryd.underlying9 hi hz0 hz1 hz2 _ _ _ hs hown Z hx ?c3 hb hbase ?_
  case c3 => unfold maxLen; omega
  intro v' w2 hown' hgrow _
  refine h v' w2 (l ++ Z.data.toList) rfl (by show _ = _; rw [List.length_append, len_list]) ?_ (fun a0 h0 => h0.grown hgrow hbase (own_ge hown))
  rw [List.length_append, List.map_append, len_list]
  exact hown'

abbrev mFormEnd1 : ByteArray := ⟨#[60, 47, 98, 117, 116, 116, 111, 110, 62, 60, 47, 112, 62, 10]⟩
abbrev mFormEnd2 : ByteArray := ⟨#[60, 47, 102, 111, 114, 109, 62, 10]⟩
theorem formL_is (act : ByteArray) (xs : List Inp) (but : ByteArray) : formL act xs but = ((((((([] ++ mFormHead.data.toList) ++ (eb act).data.toList) ++ mFormInputs.data.toList) ++ insL xs) ++ mFormButton.data.toList) ++ (eb but).data.toList) ++ mFormEnd1.data.toList) ++ mFormEnd2.data.toList := by
  unfold formL
  simp only [partsA, List.append_nil, List.nil_append, List.append_assoc]
  rfl

set_option maxRecDepth 100000 in
set_option maxHeartbeats 3200000 in
theorem refForm_any (w : World) (act but : ByteArray) (vI : Value) (xs : List Inp) (hI : LiesI w vI xs) (hl : 6 * formW act xs but + 6 ≤ 140737488355) (hs : xs.length ≤ 4611686018427387904) :
    Calls Tryd.prog 55 #[.agg #[.string act, vI, .string but]] w fun e w' => e = .returned (S (formL act xs but)) ∧ Below w.heap.size w w' := by
  have HI := hide hI
  obtain ⟨oi, ci, rfl, hIc⟩ := hI
  have hfl : 6 * (act.size + insW xs + but.size + 100) + 6 ≤ 140737488355 := hl
  have BA : Below w.heap.size w (w.alloc (.cells #[.string act, .slice oi xs.length ci, .string but] 31)) := (Below.refl _ _).alloc (Nat.le_refl _) _
  have hP : (w.alloc (.cells #[.string act, .slice oi xs.length ci, .string but] 31)).heap[w.heap.size]? = some (.cells #[.string act, .slice oi xs.length ci, .string but] 31) := by show (w.heap.push _)[w.heap.size]? = _; simp
  have hPl := (Array.getElem?_eq_some_iff.1 hP).1
  have HP := hide hP
  have HBA := hide BA
  have HIC := hide hIc
  have hea := (Pg.esc_len act.data.toList).2
  have heb := (Pg.esc_len but.data.toList).2
  rw [len_list] at hea heb
  have ha' : (eb act).size ≤ 6 * act.size := by rw [str_size]; exact hea
  have hb' : (eb but).size ≤ 6 * but.size := by rw [str_size]; exact heb
  clear hP BA hIc
  go_enter Tryd.func55, Tryd.ntmps55
  go_wp2_with fail
  generalize w.alloc (.cells #[.string act, .slice oi xs.length ci, .string but] 31) = W at *
  have hwW := HBA.out.size
  refine (refEscape_any act W (by omega)).mono ?_
  rintro e w1 ⟨rfl, hb1⟩
  have H1 := hide hb1
  have hz1 := hb1.size
  clear hb1
  have s1 : mFormHead.size = 28 := rfl
  have s2 : mFormInputs.size = 3 := rfl
  have s3 : mFormButton.size = 25 := rfl
  have s4 : mFormEnd1.size = 14 := rfl
  have s5 : mFormEnd2.size = 8 := rfl
  go_wp2_with (at_builtin; refine app_str _ rfl _ _ rfl W.heap.size _ [] rfl (World.ownsRow_nil _ _ _ _) mFormHead rfl (by rw [s1]; decide) hz1 ?_)
  intro v2 w2 L2 E2 N2 own2 k2
  have O2 := hide own2
  have H2 := hide (k2 _ H1.out)
  obtain ⟨ao2, n2, c2, rfl⟩ := own_form own2
  clear own2 k2 H1
  have n2' : L2.length = 28 := N2.out
  go_wp2_with (at_builtin; refine app_str _ rfl _ _ rfl W.heap.size _ L2 rfl O2.out (eb act) rfl (by omega) H2.out.size ?_)
  intro v3 w3 L3 E3 N3 own3 k3
  have O3 := hide own3
  have H3 := hide (k3 _ H2.out)
  obtain ⟨ao3, n3, c3, rfl⟩ := own_form own3
  have n3' := N3.out
  clear own3 k3 H2 O2
  go_wp2_with (at_builtin; refine app_str _ rfl _ _ rfl W.heap.size _ L3 rfl O3.out mFormInputs rfl (by rw [s2]; omega) H3.out.size ?_)
  intro v4 w4 L4 E4 N4 own4 k4
  have O4 := hide own4
  have H4 := hide (k4 _ H3.out)
  obtain ⟨ao4, n4, c4, rfl⟩ := own_form own4
  have n4' : L4.length = L3.length + 3 := by have := N4.out; omega
  clear own4 k4 H3 O3
  go_wp2_with fail
  go_loopw [3, 5] (fun v i wr => ∃ (k : Nat) (L : List UInt8), k ≤ xs.length ∧ i = .int .i64 k ∧ Hid (L = L4 ++ insL (xs.take k)) ∧ Hid (wr.ownsRow W.heap.size 5 1 v L.length (L.map B)) ∧ Hid (Below W.heap.size W wr)) (fun _ i _ => xs.length - (intOf i).toNat)
  case atStart => exact ⟨0, L4, by omega, rfl, by show _ = _; rw [List.take_zero]; show _ = _ ++ []; rw [List.append_nil], O4, H4⟩
  case round =>
    obtain ⟨k, L, hk, rfl, EL, OL, HL⟩ := hrel
    obtain ⟨aol, nl, cll, rfl⟩ := own_form OL.out
    clear O4 H4
    have hPr := (HL.out.block _ hPl).trans HP.out
    have f1 : wr.cell? ⟨w.heap.size, 1, none⟩ = some (.slice oi xs.length ci) := by simp [World.cell?, hPr]
    have HPR := hide hPr
    clear hPr
    have hbr : Below w.heap.size w wr := HBA.out.trans (HL.out.mono hwW)
    by_cases hlt : k < xs.length
    · have hki : (k : Int) < (xs.length : Int) := by omega
      have k0 : (0 : Int) ≤ (k : Int) := Int.natCast_nonneg _
      have HS := hide (insL_snoc xs k hlt)
      have HLN : Hid (L.length + 6 * (inW xs[k] + 100) ≤ 140737488355) := by
        have h1 := insL_len (xs.take k)
        have h2 := insW_take xs k hlt
        show _ ≤ _
        rw [EL.out, List.length_append]
        omega
      obtain ⟨bl, o, ho, hbl, c0, c1, c2, c3⟩ := HIC.out k hlt
      cases ho
      have d0 := (hbr.cell (p := ⟨bl, o + k * 4, none⟩) hbl).trans c0
      have d1 := (hbr.cell (p := ⟨bl, o + k * 4 + 1, none⟩) hbl).trans c1
      have d2 := (hbr.cell (p := ⟨bl, o + k * 4 + 2, none⟩) hbl).trans c2
      have d3 := (hbr.cell (p := ⟨bl, o + k * 4 + 3, none⟩) hbl).trans c3
      clear c0 c1 c2 c3 hbr
      obtain ⟨X, hXe⟩ : ∃ X, xs[k] = X := ⟨_, rfl⟩
      rw [hXe] at HS HLN d0 d1 d2 d3
      clear hXe
      have HLL := hide (line_len X)
      have HC := hide (refLine_any X wr (by have := HLN.out; omega))
      unfold inV at HC
      go_wp2_with fail
      refine HC.out.mono ?_
      rintro e w5 ⟨rfl, hb5⟩
      have O5 := hide (own_below OL.out hb5)
      have H5 := hide (HL.out.trans (hb5.mono HL.out.size))
      clear hb5 d0 d1 d2 d3 HC
      obtain ⟨Z, hZ⟩ : ∃ Z : ByteArray, (⟨(lineL X).toArray⟩ : ByteArray) = Z := ⟨_, rfl⟩
      have hZs : Hid (Z.size ≤ 6 * (inW X + 100)) := by show _ ≤ _; rw [← hZ, str_size]; exact HLL.out
      have hZl : Hid (Z.data.toList = lineL X) := by show _ = _; rw [← hZ]
      rw [show S (lineL X) = Value.string Z from congrArg Value.string hZ]
      clear hZ
      go_wp2_with (at_builtin; refine app_str _ rfl _ _ rfl W.heap.size _ L rfl O5.out Z rfl (by have := HLN.out; have := hZs.out; omega) H5.out.size ?_)
      intro v6 w6 L6 E6 N6 own6 k6
      have O6 := hide own6
      have H6 := hide (k6 _ H5.out)
      clear own6 k6 O5 H5
      go_wp2
      go_roundw
      case rel => exact ⟨k + 1, L6, by omega, by go_num, by show _ = _; rw [E6.out, EL.out, hZl.out, HS.out, List.append_assoc], O6, H6⟩
      case measure => simp [intOf] <;> omega
    · have hk8 : ¬ (k : Int) < (xs.length : Int) := by omega
      obtain rfl : k = xs.length := by omega
      rw [List.take_length] at EL
      have hLn : L.length ≤ L4.length + 6 * insW xs := by
        have h1 := insL_len xs
        rw [EL.out, List.length_append]
        omega
      have f2 : wr.cell? ⟨w.heap.size, 2, none⟩ = some (.string but) := by have := HPR.out; simp [World.cell?, this]
      clear hbr
      go_wp2_with fail
      refine (refEscape_any but wr (by omega)).mono ?_
      rintro e w5 ⟨rfl, hb5⟩
      have O5 := hide (own_below OL.out hb5)
      have H5 := hide (HL.out.trans (hb5.mono HL.out.size))
      clear hb5
      go_wp2_with (at_builtin; refine app_str _ rfl _ _ rfl W.heap.size _ L rfl O5.out mFormButton rfl (by rw [s3]; omega) H5.out.size ?_)
      intro v6 w6 L6 E6 N6 own6 k6
      have O6 := hide own6
      have H6 := hide (k6 _ H5.out)
      obtain ⟨ao6, n6, c6, rfl⟩ := own_form own6
      have n6' : L6.length = L.length + 25 := by have := N6.out; omega
      clear own6 k6 O5 H5
      go_wp2_with (at_builtin; refine app_str _ rfl _ _ rfl W.heap.size _ L6 rfl O6.out (eb but) rfl (by omega) H6.out.size ?_)
      intro v7 w7 L7 E7 N7 own7 k7
      have O7 := hide own7
      have H7 := hide (k7 _ H6.out)
      obtain ⟨ao7, n7, c7, rfl⟩ := own_form own7
      have n7' := N7.out
      clear own7 k7 O6 H6
      go_wp2_with (at_builtin; refine app_str _ rfl _ _ rfl W.heap.size _ L7 rfl O7.out mFormEnd1 rfl (by rw [s4]; omega) H7.out.size ?_)
      intro v8 w8 L8 E8 N8 own8 k8
      have O8 := hide own8
      have H8 := hide (k8 _ H7.out)
      obtain ⟨ao8, n8, c8, rfl⟩ := own_form own8
      have n8' : L8.length = L7.length + 14 := by have := N8.out; omega
      clear own8 k8 O7 H7
      go_wp2_with (at_builtin; refine app_str _ rfl _ _ rfl W.heap.size _ L8 rfl O8.out mFormEnd2 rfl (by rw [s5]; omega) H8.out.size ?_)
      intro v9 w9 L9 E9 N9 own9 k9
      have hc := conv_own own9 rfl
      have H9 := hide (HBA.out.trans ((k9 _ H8.out).mono hwW))
      have HR : Hid (formL act xs but = L9) := by
        show _ = _
        rw [formL_is, E9.out, E8.out, E7.out, E6.out, EL.out, E4.out, E3.out, E2.out]
        try rfl
      clear own9 k9 O8 H8
      go_wp2
      go_ret
      exact ⟨by rw [HR.out]; rfl, H9.out⟩
end Go.Proofs.YtaejlcffimkopaaDoor.pg
