import Derived.Test.YtjalggkhpnfbiaaDoorBRdTyp
namespace Go.Proofs.YtjalggkhpnfbiaaDoor.pg
open Go.ChangeShapes Go.WideShapes Go.ChangeAt Go.RowKit Go.Proofs.YtjalggkhpnfbiaaDoor.common Go.Maps
attribute [local go_sem ↓] Go.wp_at_zero Go.wp_at_succ

theorem inN1 {s : List UInt8} (h : skp mHiddenName.data.toList s = none) (h1 : skp mLabelHead.data.toList s = none) : inL s = none := by
  unfold inL
  rw [h]
  show (skp mLabelHead.data.toList s).bind _ = _
  rw [h1]
  rfl
theorem typL_len {s r : List UInt8} {x : Inp} (h : typL s = some (x, r)) : r.length ≤ s.length := by
  unfold typL at h
  obtain ⟨p, h1, h⟩ := Option.bind_eq_some_iff.1 h
  have i1 := len_of (labL_is (t := p.1) (r := p.2) h1)
  split at h
  · rename_i r1 hk
    obtain ⟨v, h2, h⟩ := Option.bind_eq_some_iff.1 h
    obtain ⟨r3, h3, h⟩ := Option.bind_eq_some_iff.1 h
    injection h with h
    injection h with _ h
    subst h
    have i2 := len_of (skp_is hk)
    have i3 := congrArg List.length (valL_is (x := v.1) (r := v.2) h2).1
    simp only [List.length_append] at i3
    have i4 := len_of (skp_is h3)
    omega
  · obtain ⟨r1, hk, h⟩ := Option.bind_eq_some_iff.1 h
    obtain ⟨v, h2, h⟩ := Option.bind_eq_some_iff.1 h
    obtain ⟨r3, h3, h⟩ := Option.bind_eq_some_iff.1 h
    injection h with h
    injection h with _ h
    subst h
    have i2 := len_of (skp_is hk)
    have i3 := len_of (namL_is (n := v.1) (r := v.2) h2).1
    have i4 := len_of (skp_is h3)
    omega
theorem Sr.typed {b : Nat} {ea : Addr} {W w : World} {s : ByteArray} (H : Sr b ea W w s) :
    Calls Tryd.prog 65 #[ptr b] w fun e w' => Kr b w w' ∧ ((∃ x r, typL s.data.toList = some (x, r.data.toList) ∧ e = .returned (inV x) ∧ Sr b ea W w' r) ∨ (typL s.data.toList = none ∧ e = PX ea ∧ Kr b W w')) :=
  (typed_any b s ea w H.sz H.rr H.env).mono fun _ _ h => H.of h fun _ _ hx => typL_len hx
/-- the four cells of an input -/
abbrev cI (x : Inp) : Obj := .cells #[.int .i64 x.kind, .string x.name, .string x.value, .string x.label] 28

set_option maxRecDepth 100000 in
set_option maxHeartbeats 3200000 in
theorem input_any (b : Nat) (s : ByteArray) (ea : Addr) (w : World) (hs : s.size < 140737488355328) (h : Rr w b s) (he : REnv w b ea) :
    Calls Tryd.prog 53 #[ptr b] w fun e w' => RPost b ea w inV (inL s.data.toList) e w' := by
  have H0 := (Sr.start hs h he).alloc c4
  have hP := at_new w c4
  have hbl := h.lt
  have HL := hide (H0.skip mHiddenName)
  have HP := hide hP
  have hPb : w.heap.size ≠ b := by omega
  have hWz : (w.alloc c4).heap.size = w.heap.size + 1 := by show (w.heap.push _).size = _; simp
  clear h he hP H0
  go_enter Tryd.func53, Tryd.ntmps53
  go_wp2_with fail
  generalize w.alloc c4 = W at *
  refine HL.out.mono ?_
  rintro e w1 ⟨k1, ⟨r1, g1, rfl, S1⟩ | ⟨g1, rfl, S1⟩⟩
  · have G1 := hide (inL_1 g1)
    have HP1 := hide (k1.at HP.out hPb)
    have HV := hide (S1.val 1)
    clear g1 k1 S1 HL HP
    go_wp2_with fail
    refine HV.out.mono ?_
    rintro e w2 ⟨k2, ⟨x, r2, g2, rfl, S2⟩ | ⟨g2, rfl, k2'⟩⟩
    · have G2 := hide g2
      have HP2 := hide (k2.at HP1.out hPb)
      have HS2 := hide S2
      clear g2 k2 S2 HV HP1
      unfold inV
      go_wp2_with fail
      have HS3 := hide (HS2.out.alloc (cI x))
      have HF3 := hide (at_new w2 (cI x))
      have hP2 := (Array.getElem?_eq_some_iff.1 HP2.out).1
      have HP3 : Hid ((w2.alloc (cI x)).heap[w.heap.size]? = some c4) := (Below.heap_alloc w2 _ _ hP2).trans HP2.out
      have hFb : w2.heap.size ≠ b := by have := HS2.out.rr.lt; omega
      have HM := hide (HS3.out.must mHiddenEnd)
      clear HP2 HS2 HS3 hP2
      generalize w2.alloc (.cells #[.int .i64 x.kind, .string x.name, .string x.value, .string x.label] 28) = W2 at *
      generalize w2.heap.size = F at *
      refine HM.out.mono ?_
      rintro e w5 ⟨k5, ⟨r5, g5, rfl, S5⟩ | ⟨g5, rfl, k5'⟩⟩
      · have hP5 := k5.at HP3.out hPb
        have hF5 := k5.at HF3.out hFb
        have G5 : Hid (inL s.data.toList = some (x, r5.data.toList)) := by
          show _ = _
          rw [G1.out, G2.out, Option.bind_some]
          show (skp _ r2.data.toList).bind _ = _
          rw [g5]
          rfl
        have S6 := hide (S5.four w.heap.size (Nat.le_refl _) x)
        have HP6 := hide hP5
        obtain ⟨q0, q1, q2, q3, y0, y1, y2, y3⟩ := four_cells hP5
        obtain ⟨p0, p1, p2, p3, _, _, _, _⟩ := four_cells hF5
        clear hP5 hF5 k5 g5 S5 HM HF3 HP3 G1 G2
        go_wp2
        refine bodyPost_ret (results_c rfl _ rfl (range4 (set_four HP6.out (.int .i64 x.kind) (.string x.name) (.string x.value) (.string x.label))) Tryd.underlying28 rfl sizeIn) rfl ?_
        exact ⟨S6.out.kr, Or.inl ⟨x, r5, G5.out, rfl, S6.out.rr⟩⟩
      · have G5 : Hid (inL s.data.toList = none) := by
          show _ = _
          rw [G1.out, G2.out, Option.bind_some]
          show (skp _ r2.data.toList).bind _ = _
          rw [g5]
          rfl
        have K := hide k5'
        clear k5 g5 k5' HM
        go_wp2
        exact ⟨rfl, K.out, Or.inr ⟨G5.out, rfl⟩⟩
    · have G : Hid (inL s.data.toList = none) := by
        show _ = _
        rw [G1.out, g2]
        rfl
      have K := hide k2'
      clear g2 k2 k2'
      go_wp2
      exact ⟨rfl, K.out, Or.inr ⟨G.out, rfl⟩⟩
  · have G1 := hide g1
    have HP1 := hide (k1.at HP.out hPb)
    have HM := hide (S1.must mLabelHead)
    clear g1 k1 S1 HL HP
    go_wp2_with fail
    refine HM.out.mono ?_
    rintro e w2 ⟨k2, ⟨r2, g2, rfl, S2⟩ | ⟨g2, rfl, k2'⟩⟩
    · have G2 := hide g2
      have HP2 := hide (k2.at HP1.out hPb)
      have HS := hide (S2.skip mBoxName)
      clear g2 k2 S2 HM HP1
      go_wp2_with fail
      refine HS.out.mono ?_
      rintro e w3 ⟨k3, ⟨r3, g3, rfl, S3⟩ | ⟨g3, rfl, S3⟩⟩
      · have G3 := hide (inL_2 G1.out G2.out g3)
        have HP3 := hide (k3.at HP2.out hPb)
        have HV := hide (S3.val 4)
        clear g3 k3 S3 HS HP2 G1 G2
        go_wp2_with fail
        refine HV.out.mono ?_
        rintro e w4' ⟨k4, ⟨x, r4, g4, rfl, S4⟩ | ⟨g4, rfl, k4'⟩⟩
        · have G4 := hide g4
          have HP4 := hide (k4.at HP3.out hPb)
          have HS4 := hide S4
          clear g4 k4 S4 HV HP3
          unfold inV
          go_wp2_with fail
          have HS5 := hide (HS4.out.alloc (cI x))
          have HF5 := hide (at_new w4' (cI x))
          have hP4 := (Array.getElem?_eq_some_iff.1 HP4.out).1
          have HP5 : Hid ((w4'.alloc (cI x)).heap[w.heap.size]? = some c4) := (Below.heap_alloc w4' _ _ hP4).trans HP4.out
          have hFb : w4'.heap.size ≠ b := by have := HS4.out.rr.lt; omega
          have hFP : w.heap.size < w4'.heap.size := hP4
          have HM := hide (HS5.out.must mBoxLabel)
          clear HP4 HS4 HS5 hP4
          generalize w4'.alloc (.cells #[.int .i64 x.kind, .string x.name, .string x.value, .string x.label] 28) = W2 at *
          generalize w4'.heap.size = F at *
          refine HM.out.mono ?_
          rintro e w5 ⟨k5, ⟨r5, g5, rfl, S5⟩ | ⟨g5, rfl, k5'⟩⟩
          · have G5 := hide g5
            have HP6 := hide (k5.at HP5.out hPb)
            have HF6 := hide (k5.at HF5.out hFb)
            have HT := hide (S5.text 60)
            clear g5 k5 S5 HM HF5 HP5
            go_wp2_with fail
            refine HT.out.mono ?_
            rintro e w6 ⟨k6, ⟨l, r6, g6, rfl, S6⟩ | ⟨g6, rfl, k6'⟩⟩
            · have G6 := hide g6
              have hP7 := k6.at HP6.out hPb
              have hF7 := k6.at HF6.out hFb
              have S7 := S6.cell ⟨F, 3, none⟩ (.string l) (Nat.le_of_lt hFP)
              have HF7 := hide (set_last hF7 (.string l))
              have HP7 : Hid ((w6.setCell ⟨F, 3, none⟩ (.string l)).heap[w.heap.size]? = some c4) := (Below.heap_setCell _ _ _ _ (by show w.heap.size ≠ F; omega)).trans hP7
              obtain ⟨_, _, _, z3, _, _, _, u3⟩ := four_cells hF7
              have HM := hide (S7.must mLabelEnd)
              clear g6 k6 S6 hP7 hF7 S7 HT HF6 HP6
              go_wp2_with fail
              clear z3 u3
              refine HM.out.mono ?_
              rintro e w8 ⟨k8, ⟨r8, g8, rfl, S8⟩ | ⟨g8, rfl, k8'⟩⟩
              · have hP8 := k8.at HP7.out hPb
                have hF8 := k8.at HF7.out hFb
                have GE : Hid (inL s.data.toList = some (⟨x.kind, x.name, x.value, l⟩, r8.data.toList)) := by
                  show _ = _
                  rw [G3.out, G4.out, Option.bind_some]
                  show (skp _ r4.data.toList).bind _ = _
                  rw [G5.out, Option.bind_some, G6.out, Option.bind_some]
                  show (skp _ r6.data.toList).bind _ = _
                  rw [g8]
                  rfl
                have S9 := hide (S8.four w.heap.size (Nat.le_refl _) ⟨x.kind, x.name, x.value, l⟩)
                have HP9 := hide hP8
                obtain ⟨q0, q1, q2, q3, y0, y1, y2, y3⟩ := four_cells hP8
                obtain ⟨p0, p1, p2, p3, _, _, _, _⟩ := four_cells hF8
                clear hP8 hF8 k8 g8 S8 HM HF7 HP7 G3 G4 G5 G6
                go_wp2
                refine bodyPost_ret (results_c rfl _ rfl (range4 (set_four HP9.out (.int .i64 x.kind) (.string x.name) (.string x.value) (.string l))) Tryd.underlying28 rfl sizeIn) rfl ?_
                exact ⟨S9.out.kr, Or.inl ⟨⟨x.kind, x.name, x.value, l⟩, r8, GE.out, rfl, S9.out.rr⟩⟩
              · have G : Hid (inL s.data.toList = none) := by
                  show _ = _
                  rw [G3.out, G4.out, Option.bind_some]
                  show (skp _ r4.data.toList).bind _ = _
                  rw [G5.out, Option.bind_some, G6.out, Option.bind_some]
                  show (skp _ r6.data.toList).bind _ = _
                  rw [g8]
                  rfl
                have K := hide k8'
                clear g8 k8 k8'
                go_wp2
                exact ⟨rfl, K.out, Or.inr ⟨G.out, rfl⟩⟩
            · have G : Hid (inL s.data.toList = none) := by
                show _ = _
                rw [G3.out, G4.out, Option.bind_some]
                show (skp _ r4.data.toList).bind _ = _
                rw [G5.out, Option.bind_some, g6]
                rfl
              have K := hide k6'
              clear g6 k6 k6'
              go_wp2
              exact ⟨rfl, K.out, Or.inr ⟨G.out, rfl⟩⟩
          · have G : Hid (inL s.data.toList = none) := by
              show _ = _
              rw [G3.out, G4.out, Option.bind_some]
              show (skp _ r4.data.toList).bind _ = _
              rw [g5]
              rfl
            have K := hide k5'
            clear g5 k5 k5'
            go_wp2
            exact ⟨rfl, K.out, Or.inr ⟨G.out, rfl⟩⟩
        · have G : Hid (inL s.data.toList = none) := by
            show _ = _
            rw [G3.out, g4]
            rfl
          have K := hide k4'
          clear g4 k4 k4'
          go_wp2
          exact ⟨rfl, K.out, Or.inr ⟨G.out, rfl⟩⟩
      · have G3 := hide (inL_3 G1.out G2.out g3)
        have HP3 := hide (k3.at HP2.out hPb)
        have HV := hide S3.typed
        clear g3 k3 S3 HS HP2 G1 G2
        go_wp2_with fail
        refine HV.out.mono ?_
        rintro e w4' ⟨k4, ⟨x, r4, g4, rfl, S4⟩ | ⟨g4, rfl, k4'⟩⟩
        · have hP4 := k4.at HP3.out hPb
          have G4 : Hid (inL s.data.toList = some (x, r4.data.toList)) := G3.out.trans g4
          have S9 := hide (S4.four w.heap.size (Nat.le_refl _) x)
          have HP9 := hide hP4
          obtain ⟨q0, q1, q2, q3, y0, y1, y2, y3⟩ := four_cells hP4
          clear g4 k4 S4 HV HP3 hP4 G3
          unfold inV
          go_wp2
          refine bodyPost_ret (results_c rfl _ rfl (range4 (set_four HP9.out (.int .i64 x.kind) (.string x.name) (.string x.value) (.string x.label))) Tryd.underlying28 rfl sizeIn) rfl ?_
          exact ⟨S9.out.kr, Or.inl ⟨x, r4, G4.out, rfl, S9.out.rr⟩⟩
        · have G : Hid (inL s.data.toList = none) := G3.out.trans g4
          have K := hide k4'
          clear g4 k4 k4'
          go_wp2
          exact ⟨rfl, K.out, Or.inr ⟨G.out, rfl⟩⟩
    · have G := hide (inN1 G1.out g2)
      have K := hide k2'
      clear g2 k2 k2'
      go_wp2
      exact ⟨rfl, K.out, Or.inr ⟨G.out, rfl⟩⟩
end Go.Proofs.YtjalggkhpnfbiaaDoor.pg
