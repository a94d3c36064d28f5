import Derived.Test.YtaejlcffimkopaaDoorRdNm
namespace Go.Proofs.YtaejlcffimkopaaDoor.pg
open Go.ChangeShapes Go.WideShapes Go.ChangeAt Go.RowKit Go.Proofs.YtaejlcffimkopaaDoor.common Go.Maps
attribute [local go_sem ↓] Go.wp_at_zero Go.wp_at_succ

theorem last_at {v : ByteArray} (h : 0 < v.size) : v.data.toList.getLast? = some (v[v.size - 1]'(by omega)) := by
  rw [List.getLast?_eq_getElem?, List.getElem?_eq_getElem (by rw [len_list]; omega)]
  simp only [len_list]
  rfl
theorem drop_last (v : ByteArray) : v.extract 0 (v.size - 1) = ⟨v.data.toList.dropLast.toArray⟩ := by
  apply ba_ext
  rw [ext_list]
  simp [List.dropLast_eq_take]

set_option maxRecDepth 100000 in
set_option maxHeartbeats 3200000 in
theorem labelled_any (p : Nat) (s : ByteArray) (a : Nat) (l : Bool) (w : World) (h : Pl w p s a l) (ha : a ≤ s.size) (hs : s.size ≤ 1099511627776) :
    Calls Tryd.prog 86 #[ptr p] w fun e w' => ∃ x a' l', e = .returned (inV x) ∧ Kr p w w' ∧ Pl w' p s a' l' ∧ a ≤ a' ∧ a' ≤ s.size ∧ Rel lbD s a l x a' l' := by
  have hpw := h.lt
  have HP := hide (h.more (.cells #[.int .i64 0, .string ⟨#[]⟩, .string ⟨#[]⟩, .string ⟨#[]⟩] 28))
  have HR0 := hide (heap_new w (.cells #[.int .i64 0, .string ⟨#[]⟩, .string ⟨#[]⟩, .string ⟨#[]⟩] 28))
  have HK0 : Hid (Kr p w (w.alloc (.cells #[.int .i64 0, .string ⟨#[]⟩, .string ⟨#[]⟩, .string ⟨#[]⟩] 28))) := (Kr.refl p w).more _
  clear h
  go_enter Tryd.func86, Tryd.ntmps86
  go_wp2_with fail
  generalize w.alloc (.cells #[.int .i64 0, .string ⟨#[]⟩, .string ⟨#[]⟩, .string ⟨#[]⟩] 28) = V at *
  refine (pass_rel p s mLabelHead a l V HP.out ha hs (by decide)).mono ?_
  rintro e w1 ⟨a1, l1, rfl, K1, P1, le1, ha1, R1⟩
  have HK1 := hide (HK0.out.trans K1)
  have HP1 := hide P1
  have HR1 := hide (K1.keep HR0.out (by omega))
  have HL1 := hide R1
  clear K1 P1 R1 HK0 HP HR0
  go_wp2_with fail
  refine (upTo_any p s 60 a1 l1 w1 HP1.out ha1 hs).mono ?_
  rintro e w2 ⟨v, a2, l2, rfl, K2, P2, le2, ha2, R2⟩
  have HK2 := hide (HK1.out.trans K2)
  have hR2 := K2.keep HR1.out (by omega)
  have HR2 := hide hR2
  have hP2 : w2.heap[p]? = some (.cells #[.string s, .int .i64 a2, .bool l2] 71) := P2
  have c1 : w2.cell? ⟨p, 1, none⟩ = some (.int .i64 a2) := cell_of hP2 1
  have c2 : w2.cell? ⟨p, 2, none⟩ = some (.bool l2) := cell_of hP2 2
  have f1 : w2.frozen? ⟨p, 1, none⟩ = false := free_of hP2 1
  have f2 : w2.frozen? ⟨p, 2, none⟩ = false := free_of hP2 2
  have HP2 := hide P2
  have HL2 := hide R2
  clear K2 P2 R2 hP2 HK1 HP1 HR1
  by_cases hv : v.data.toList.getLast? = some 32
  · have hv0 : 0 < v.size := by
      rcases Nat.eq_zero_or_pos v.size with h0 | h0
      · have : v.data.toList = [] := List.eq_nil_of_length_eq_zero (by rw [len_list]; exact h0)
        rw [this] at hv
        cases hv
      · exact h0
    have hvi : ¬ ((v.size : Int) = 0) := by omega
    have hve : ¬ (v = ByteArray.empty) := fun e => by rw [e] at hv0; exact absurd hv0 (by decide)
    have hlast : v[v.size - 1]'(by omega) = 32 := by
      rw [last_at hv0] at hv
      injection hv
    have HDR := hide (drop_last v)
    have hv1 : (0 : Int) ≤ (v.size : Int) - 1 := by omega
    have ea : ((a2 : Int) - 1) = ((a2 - 1 : Nat) : Int) := by omega
    clear hR2
    go_wp2_with fail
    rw [HDR.out]
    have hz3 : (w2.setCell ⟨p, 1, none⟩ (.int .i64 ((a2 - 1 : Nat) : Int))).heap.size = w2.heap.size := size_set _ _ _
    have hX3 := heap_new (w2.setCell ⟨p, 1, none⟩ (.int .i64 ((a2 - 1 : Nat) : Int))) (.cells #[.int .i64 2, .string ⟨#[]⟩, .string ⟨#[]⟩, .string ⟨v.data.toList.dropLast.toArray⟩] 28)
    rw [hz3] at hX3
    have HX := hide hX3
    have HR := hide (heap_old (w2.setCell ⟨p, 1, none⟩ (.int .i64 ((a2 - 1 : Nat) : Int))) (.cells #[.int .i64 2, .string ⟨#[]⟩, .string ⟨#[]⟩, .string ⟨v.data.toList.dropLast.toArray⟩] 28) (heap_set w2 ⟨p, 1, none⟩ (.int .i64 ((a2 - 1 : Nat) : Int)) HR2.out (by show w.heap.size ≠ p; omega)))
    have HP3 := hide ((HP2.out.at1 (a2 - 1)).more (.cells #[.int .i64 2, .string ⟨#[]⟩, .string ⟨#[]⟩, .string ⟨v.data.toList.dropLast.toArray⟩] 28))
    have HK3 := hide ((HK2.out.trans (Kr.set p w2 1 (.int .i64 ((a2 - 1 : Nat) : Int)))).more (.cells #[.int .i64 2, .string ⟨#[]⟩, .string ⟨#[]⟩, .string ⟨v.data.toList.dropLast.toArray⟩] 28))
    have hXw : w.heap.size < w2.heap.size := (Array.getElem?_eq_some_iff.1 HR2.out).1
    have HLB : Hid (∀ x a3 l3, Rel (lbT ⟨v.data.toList.dropLast.toArray⟩) s (a2 - 1) l2 x a3 l3 → Rel lbD s a l x a3 l3) := fun x a3 l3 h => lb_yes HL1.out HL2.out hv ha1 ha2 h
    clear hX3 HL1 HL2 HDR ea c1 c2 f1 f2 HP2 HK2 HR2 hvi hve hlast hv1 hv
    generalize (⟨v.data.toList.dropLast.toArray⟩ : ByteArray) = lb at *
    generalize (w2.setCell ⟨p, 1, none⟩ (.int .i64 ((a2 - 1 : Nat) : Int))).alloc (.cells #[.int .i64 2, .string ⟨#[]⟩, .string ⟨#[]⟩, .string lb] 28) = W3 at *
    refine (begins_any p s mTextName (a2 - 1) l2 W3 HP3.out (by omega) hs (by decide)).mono ?_
    rintro e w4 ⟨rfl, b4⟩
    have HK4 := hide (HK3.out.trans (Kr.of b4))
    have HP4 := hide (HP3.out.below b4)
    have HX4 := hide ((b4.block _ (Array.getElem?_eq_some_iff.1 HX.out).1).trans HX.out)
    have HR4 := hide ((b4.block _ (Array.getElem?_eq_some_iff.1 HR.out).1).trans HR.out)
    clear b4 HK3 HP3 HX HR
    cases hk : skp mTextName.data.toList (s.data.toList.drop (a2 - 1)) with
    | some r =>
      have HKT : Hid (skp mTextName.data.toList (rest s (a2 - 1)) = some r) := hk
      clear hk
      go_wp2_with (fail)
      refine (pass_rel p s mTextName (a2 - 1) l2 w4 HP4.out (by omega) hs (by decide)).mono ?_
      rintro e u11 ⟨b11, m11, rfl, K11, P11, le11, ha11, R11⟩
      have HK11 := hide (HK4.out.trans K11)
      have HP11 := hide P11
      have HL11 := hide R11
      have HR11 := hide (K11.keep HR4.out (by omega))
      have HX11 := hide (K11.keep HX4.out (by omega))
      clear K11 P11 R11
      go_wp2_with (fail)
      refine (named_any p s b11 m11 u11 HP11.out (by omega) hs).mono ?_
      rintro e u12 ⟨nn, b12, m12, rfl, K12, P12, le12, ha12, R12⟩
      have HK12 := hide (HK11.out.trans K12)
      have HP12 := hide P12
      have HL12 := hide R12
      have HR12 := hide (K12.keep HR11.out (by omega))
      have HX12 := hide (K12.keep HX11.out (by omega))
      clear K12 P12 R12
      have q13 : u12.cell? ⟨w2.heap.size, 1, none⟩ = some (.string ⟨#[]⟩) := cell_of HX12.out 1
      have f13 : u12.frozen? ⟨w2.heap.size, 1, none⟩ = false := free_of HX12.out 1
      have HX13 : Hid ((u12.setCell ⟨w2.heap.size, 1, none⟩ (.string nn)).heap[w2.heap.size]? = some (.cells #[.int .i64 2, .string nn, .string ⟨#[]⟩, .string lb] 28)) := set_of HX12.out 1 (.string nn)
      have HK13 := hide (HK12.out.put ⟨w2.heap.size, 1, none⟩ (.string nn) (by show w.heap.size ≤ w2.heap.size; omega))
      have HP13 := hide (HP12.out.put ⟨w2.heap.size, 1, none⟩ (.string nn) (by show p ≠ w2.heap.size; omega))
      have HR13 := hide (heap_set u12 ⟨w2.heap.size, 1, none⟩ (.string nn) HR12.out (by show w.heap.size ≠ w2.heap.size; omega))
      go_wp2_with (fail)
      generalize u12.setCell ⟨w2.heap.size, 1, none⟩ (.string nn) = u13 at *
      refine (valued_any p s b12 m12 u13 HP13.out (by omega) hs).mono ?_
      rintro e u14 ⟨vv, b14, m14, rfl, K14, P14, le14, ha14, R14⟩
      have HK14 := hide (HK13.out.trans K14)
      have HP14 := hide P14
      have HL14 := hide R14
      have HR14 := hide (K14.keep HR13.out (by omega))
      have HX14 := hide (K14.keep HX13.out (by omega))
      clear K14 P14 R14
      have q15 : u14.cell? ⟨w2.heap.size, 2, none⟩ = some (.string ⟨#[]⟩) := cell_of HX14.out 2
      have f15 : u14.frozen? ⟨w2.heap.size, 2, none⟩ = false := free_of HX14.out 2
      have HX15 : Hid ((u14.setCell ⟨w2.heap.size, 2, none⟩ (.string vv)).heap[w2.heap.size]? = some (.cells #[.int .i64 2, .string nn, .string vv, .string lb] 28)) := set_of HX14.out 2 (.string vv)
      have HK15 := hide (HK14.out.put ⟨w2.heap.size, 2, none⟩ (.string vv) (by show w.heap.size ≤ w2.heap.size; omega))
      have HP15 := hide (HP14.out.put ⟨w2.heap.size, 2, none⟩ (.string vv) (by show p ≠ w2.heap.size; omega))
      have HR15 := hide (heap_set u14 ⟨w2.heap.size, 2, none⟩ (.string vv) HR14.out (by show w.heap.size ≠ w2.heap.size; omega))
      go_wp2_with (fail)
      generalize u14.setCell ⟨w2.heap.size, 2, none⟩ (.string vv) = u15 at *
      refine (pass_rel p s mEndD b14 m14 u15 HP15.out (by omega) hs (by decide)).mono ?_
      rintro e u16 ⟨b16, m16, rfl, K16, P16, le16, ha16, R16⟩
      have HK16 := hide (HK15.out.trans K16)
      have HP16 := hide P16
      have HL16 := hide R16
      have HR16 := hide (K16.keep HR15.out (by omega))
      have HX16 := hide (K16.keep HX15.out (by omega))
      clear K16 P16 R16
      have HRG := hide (range_of (l := [.int .i64 2, .string nn, .string vv, .string lb]) HX16.out)
      have r0 : u16.cell? ⟨w.heap.size, 0, none⟩ = some (.int .i64 0) := cell_of HR16.out 0
      have y0 : u16.frozen? ⟨w.heap.size, 0, none⟩ = false := free_of HR16.out 0
      have r1 : u16.cell? ⟨w.heap.size, 0 + 1, none⟩ = some (.string ⟨#[]⟩) := cell_of HR16.out 1
      have y1 : u16.frozen? ⟨w.heap.size, 0 + 1, none⟩ = false := free_of HR16.out 1
      have r2 : u16.cell? ⟨w.heap.size, 0 + 2, none⟩ = some (.string ⟨#[]⟩) := cell_of HR16.out 2
      have y2 : u16.frozen? ⟨w.heap.size, 0 + 2, none⟩ = false := free_of HR16.out 2
      have r3 : u16.cell? ⟨w.heap.size, 0 + 3, none⟩ = some (.string ⟨#[]⟩) := cell_of HR16.out 3
      have y3 : u16.frozen? ⟨w.heap.size, 0 + 3, none⟩ = false := free_of HR16.out 3
      go_wp2_with (refine wpList_load_mid rfl 28 (.tmp 4) rfl (w2.heap.size) 0 rfl _ _ HRG.out Tryd.underlying28 rfl sizeIn ?_)
      have hfin := put_four HR16.out (.int .i64 2) (.string nn) (.string vv) (.string lb)
      refine bodyPost_ret (results_c rfl _ rfl (range_of (l := [.int .i64 2, .string nn, .string vv, .string lb]) hfin) Tryd.underlying28 rfl sizeIn) rfl ?_
      exact ⟨⟨2, nn, vv, lb⟩, b16, m16, rfl, ((((HK16.out.put ⟨w.heap.size, 0, none⟩ (.int .i64 2) (Nat.le_refl _)).put ⟨w.heap.size, 1, none⟩ (.string nn) (Nat.le_refl _)).put ⟨w.heap.size, 2, none⟩ (.string vv) (Nat.le_refl _)).put ⟨w.heap.size, 3, none⟩ (.string lb) (Nat.le_refl _)), ((((HP16.out.put ⟨w.heap.size, 0, none⟩ (.int .i64 2) (Nat.ne_of_lt hpw)).put ⟨w.heap.size, 1, none⟩ (.string nn) (Nat.ne_of_lt hpw)).put ⟨w.heap.size, 2, none⟩ (.string vv) (Nat.ne_of_lt hpw)).put ⟨w.heap.size, 3, none⟩ (.string lb) (Nat.ne_of_lt hpw)), by omega, by omega, HLB.out _ _ _ (lbT_text HKT.out HL11.out HL12.out HL14.out HL16.out)⟩
    | none =>
      have HKT : Hid (skp mTextName.data.toList (rest s (a2 - 1)) = none) := hk
      clear hk
      have q17 : w4.cell? ⟨w2.heap.size, 0, none⟩ = some (.int .i64 2) := cell_of HX4.out 0
      have f17 : w4.frozen? ⟨w2.heap.size, 0, none⟩ = false := free_of HX4.out 0
      have HX17 : Hid ((w4.setCell ⟨w2.heap.size, 0, none⟩ (.int .i64 3)).heap[w2.heap.size]? = some (.cells #[.int .i64 3, .string ⟨#[]⟩, .string ⟨#[]⟩, .string lb] 28)) := set_of HX4.out 0 (.int .i64 3)
      have HK17 := hide (HK4.out.put ⟨w2.heap.size, 0, none⟩ (.int .i64 3) (by show w.heap.size ≤ w2.heap.size; omega))
      have HP17 := hide (HP4.out.put ⟨w2.heap.size, 0, none⟩ (.int .i64 3) (by show p ≠ w2.heap.size; omega))
      have HR17 := hide (heap_set w4 ⟨w2.heap.size, 0, none⟩ (.int .i64 3) HR4.out (by show w.heap.size ≠ w2.heap.size; omega))
      go_wp2_with (fail)
      generalize w4.setCell ⟨w2.heap.size, 0, none⟩ (.int .i64 3) = u17 at *
      refine (pass_rel p s mSecretName (a2 - 1) l2 u17 HP17.out (by omega) hs (by decide)).mono ?_
      rintro e u18 ⟨b18, m18, rfl, K18, P18, le18, ha18, R18⟩
      have HK18 := hide (HK17.out.trans K18)
      have HP18 := hide P18
      have HL18 := hide R18
      have HR18 := hide (K18.keep HR17.out (by omega))
      have HX18 := hide (K18.keep HX17.out (by omega))
      clear K18 P18 R18
      go_wp2_with (fail)
      refine (named_any p s b18 m18 u18 HP18.out (by omega) hs).mono ?_
      rintro e u19 ⟨nn, b19, m19, rfl, K19, P19, le19, ha19, R19⟩
      have HK19 := hide (HK18.out.trans K19)
      have HP19 := hide P19
      have HL19 := hide R19
      have HR19 := hide (K19.keep HR18.out (by omega))
      have HX19 := hide (K19.keep HX18.out (by omega))
      clear K19 P19 R19
      have q20 : u19.cell? ⟨w2.heap.size, 1, none⟩ = some (.string ⟨#[]⟩) := cell_of HX19.out 1
      have f20 : u19.frozen? ⟨w2.heap.size, 1, none⟩ = false := free_of HX19.out 1
      have HX20 : Hid ((u19.setCell ⟨w2.heap.size, 1, none⟩ (.string nn)).heap[w2.heap.size]? = some (.cells #[.int .i64 3, .string nn, .string ⟨#[]⟩, .string lb] 28)) := set_of HX19.out 1 (.string nn)
      have HK20 := hide (HK19.out.put ⟨w2.heap.size, 1, none⟩ (.string nn) (by show w.heap.size ≤ w2.heap.size; omega))
      have HP20 := hide (HP19.out.put ⟨w2.heap.size, 1, none⟩ (.string nn) (by show p ≠ w2.heap.size; omega))
      have HR20 := hide (heap_set u19 ⟨w2.heap.size, 1, none⟩ (.string nn) HR19.out (by show w.heap.size ≠ w2.heap.size; omega))
      go_wp2_with (fail)
      generalize u19.setCell ⟨w2.heap.size, 1, none⟩ (.string nn) = u20 at *
      refine (pass_rel p s mEndD b19 m19 u20 HP20.out (by omega) hs (by decide)).mono ?_
      rintro e u21 ⟨b21, m21, rfl, K21, P21, le21, ha21, R21⟩
      have HK21 := hide (HK20.out.trans K21)
      have HP21 := hide P21
      have HL21 := hide R21
      have HR21 := hide (K21.keep HR20.out (by omega))
      have HX21 := hide (K21.keep HX20.out (by omega))
      clear K21 P21 R21
      have HRG := hide (range_of (l := [.int .i64 3, .string nn, .string ⟨#[]⟩, .string lb]) HX21.out)
      have r0 : u21.cell? ⟨w.heap.size, 0, none⟩ = some (.int .i64 0) := cell_of HR21.out 0
      have y0 : u21.frozen? ⟨w.heap.size, 0, none⟩ = false := free_of HR21.out 0
      have r1 : u21.cell? ⟨w.heap.size, 0 + 1, none⟩ = some (.string ⟨#[]⟩) := cell_of HR21.out 1
      have y1 : u21.frozen? ⟨w.heap.size, 0 + 1, none⟩ = false := free_of HR21.out 1
      have r2 : u21.cell? ⟨w.heap.size, 0 + 2, none⟩ = some (.string ⟨#[]⟩) := cell_of HR21.out 2
      have y2 : u21.frozen? ⟨w.heap.size, 0 + 2, none⟩ = false := free_of HR21.out 2
      have r3 : u21.cell? ⟨w.heap.size, 0 + 3, none⟩ = some (.string ⟨#[]⟩) := cell_of HR21.out 3
      have y3 : u21.frozen? ⟨w.heap.size, 0 + 3, none⟩ = false := free_of HR21.out 3
      go_wp2_with (refine wpList_load_mid rfl 28 (.tmp 4) rfl (w2.heap.size) 0 rfl _ _ HRG.out Tryd.underlying28 rfl sizeIn ?_)
      have hfin := put_four HR21.out (.int .i64 3) (.string nn) (.string ⟨#[]⟩) (.string lb)
      refine bodyPost_ret (results_c rfl _ rfl (range_of (l := [.int .i64 3, .string nn, .string ⟨#[]⟩, .string lb]) hfin) Tryd.underlying28 rfl sizeIn) rfl ?_
      exact ⟨⟨3, nn, ⟨#[]⟩, lb⟩, b21, m21, rfl, ((((HK21.out.put ⟨w.heap.size, 0, none⟩ (.int .i64 3) (Nat.le_refl _)).put ⟨w.heap.size, 1, none⟩ (.string nn) (Nat.le_refl _)).put ⟨w.heap.size, 2, none⟩ (.string ⟨#[]⟩) (Nat.le_refl _)).put ⟨w.heap.size, 3, none⟩ (.string lb) (Nat.le_refl _)), ((((HP21.out.put ⟨w.heap.size, 0, none⟩ (.int .i64 3) (Nat.ne_of_lt hpw)).put ⟨w.heap.size, 1, none⟩ (.string nn) (Nat.ne_of_lt hpw)).put ⟨w.heap.size, 2, none⟩ (.string ⟨#[]⟩) (Nat.ne_of_lt hpw)).put ⟨w.heap.size, 3, none⟩ (.string lb) (Nat.ne_of_lt hpw)), by omega, by omega, HLB.out _ _ _ (lbT_secret HKT.out HL18.out HL19.out HL21.out)⟩
  · have hR2' := heap_set w2 ⟨p, 2, none⟩ (.bool true) HR2.out (by show w.heap.size ≠ p; omega)
    have HRE := hide hR2'
    have r0 : (w2.setCell ⟨p, 2, none⟩ (.bool true)).cell? ⟨w.heap.size, 0, none⟩ = some (.int .i64 0) := cell_of hR2' 0
    have y0 : (w2.setCell ⟨p, 2, none⟩ (.bool true)).frozen? ⟨w.heap.size, 0, none⟩ = false := free_of hR2' 0
    have r1 : (w2.setCell ⟨p, 2, none⟩ (.bool true)).cell? ⟨w.heap.size, 0 + 1, none⟩ = some (.string ⟨#[]⟩) := cell_of hR2' 1
    have y1 : (w2.setCell ⟨p, 2, none⟩ (.bool true)).frozen? ⟨w.heap.size, 0 + 1, none⟩ = false := free_of hR2' 1
    have r2 : (w2.setCell ⟨p, 2, none⟩ (.bool true)).cell? ⟨w.heap.size, 0 + 2, none⟩ = some (.string ⟨#[]⟩) := cell_of hR2' 2
    have y2 : (w2.setCell ⟨p, 2, none⟩ (.bool true)).frozen? ⟨w.heap.size, 0 + 2, none⟩ = false := free_of hR2' 2
    have r3 : (w2.setCell ⟨p, 2, none⟩ (.bool true)).cell? ⟨w.heap.size, 0 + 3, none⟩ = some (.string ⟨#[]⟩) := cell_of hR2' 3
    have y3 : (w2.setCell ⟨p, 2, none⟩ (.bool true)).frozen? ⟨w.heap.size, 0 + 3, none⟩ = false := free_of hR2' 3
    have HPE := hide HP2.out.lose
    have HKE := hide (HK2.out.trans (Kr.set p w2 2 (.bool true)))
    have HLE : Hid (Rel lbD s a l ⟨0, ⟨#[]⟩, ⟨#[]⟩, ⟨#[]⟩⟩ a2 true) := lb_no HL1.out HL2.out hv
    by_cases hv0 : v.size = 0
    · have hve : v = ByteArray.empty := by
        apply ba_ext
        have h0 : v.data.toList = [] := List.eq_nil_of_length_eq_zero (by rw [len_list]; exact hv0)
        rw [h0]
        rfl
      subst hve
      clear hR2 hR2' HL1 HL2
      go_wp2_with fail
      have hfin := put_four HRE.out (.int .i64 0) (.string ⟨#[]⟩) (.string ⟨#[]⟩) (.string ⟨#[]⟩)
      refine bodyPost_ret (results_c rfl _ rfl (range_of (l := [.int .i64 0, .string ⟨#[]⟩, .string ⟨#[]⟩, .string ⟨#[]⟩]) hfin) Tryd.underlying28 rfl sizeIn) rfl ?_
      exact ⟨⟨0, ⟨#[]⟩, ⟨#[]⟩, ⟨#[]⟩⟩, a2, true, rfl, ((((HKE.out.put ⟨w.heap.size, 0, none⟩ (.int .i64 0) (Nat.le_refl _)).put ⟨w.heap.size, 1, none⟩ (.string ⟨#[]⟩) (Nat.le_refl _)).put ⟨w.heap.size, 2, none⟩ (.string ⟨#[]⟩) (Nat.le_refl _)).put ⟨w.heap.size, 3, none⟩ (.string ⟨#[]⟩) (Nat.le_refl _)), ((((HPE.out.put ⟨w.heap.size, 0, none⟩ (.int .i64 0) (Nat.ne_of_lt hpw)).put ⟨w.heap.size, 1, none⟩ (.string ⟨#[]⟩) (Nat.ne_of_lt hpw)).put ⟨w.heap.size, 2, none⟩ (.string ⟨#[]⟩) (Nat.ne_of_lt hpw)).put ⟨w.heap.size, 3, none⟩ (.string ⟨#[]⟩) (Nat.ne_of_lt hpw)), by omega, by omega, HLE.out⟩
    · have hvi : ¬ ((v.size : Int) = 0) := by omega
      have hve : ¬ (v = ByteArray.empty) := fun e => hv0 (by rw [e]; rfl)
      have hlast : ((v[v.size - 1]'(by omega)).toNat : Int) ≠ 32 := by
        intro e
        rw [last_at (by omega)] at hv
        refine hv (congrArg some ?_)
        exact UInt8.toNat_inj.1 (by show _ = 32; omega)
      have hl4 : (((v[v.size - 1]'(by omega)).toNat : Int) == 32) = false := beq_false_of_ne hlast
      have hl7 : (((v[v.size - 1]'(by omega)).toNat : Int) != 32) = true := by unfold bne; rw [hl4]; rfl
      have hv1 : (0 : Int) ≤ (v.size : Int) - 1 := by omega
      clear hR2 hR2' HL1 HL2 hl4
      go_wp2_with fail
      have hfin := put_four HRE.out (.int .i64 0) (.string ⟨#[]⟩) (.string ⟨#[]⟩) (.string ⟨#[]⟩)
      refine bodyPost_ret (results_c rfl _ rfl (range_of (l := [.int .i64 0, .string ⟨#[]⟩, .string ⟨#[]⟩, .string ⟨#[]⟩]) hfin) Tryd.underlying28 rfl sizeIn) rfl ?_
      exact ⟨⟨0, ⟨#[]⟩, ⟨#[]⟩, ⟨#[]⟩⟩, a2, true, rfl, ((((HKE.out.put ⟨w.heap.size, 0, none⟩ (.int .i64 0) (Nat.le_refl _)).put ⟨w.heap.size, 1, none⟩ (.string ⟨#[]⟩) (Nat.le_refl _)).put ⟨w.heap.size, 2, none⟩ (.string ⟨#[]⟩) (Nat.le_refl _)).put ⟨w.heap.size, 3, none⟩ (.string ⟨#[]⟩) (Nat.le_refl _)), ((((HPE.out.put ⟨w.heap.size, 0, none⟩ (.int .i64 0) (Nat.ne_of_lt hpw)).put ⟨w.heap.size, 1, none⟩ (.string ⟨#[]⟩) (Nat.ne_of_lt hpw)).put ⟨w.heap.size, 2, none⟩ (.string ⟨#[]⟩) (Nat.ne_of_lt hpw)).put ⟨w.heap.size, 3, none⟩ (.string ⟨#[]⟩) (Nat.ne_of_lt hpw)), by omega, by omega, HLE.out⟩
end Go.Proofs.YtaejlcffimkopaaDoor.pg
