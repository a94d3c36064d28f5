import Derived.Test.YtjalggkhpnfbiaaDoorMRdSt
namespace Go.Proofs.YtjalggkhpnfbiaaDoor.pg
open Go.ChangeShapes Go.WideShapes Go.ChangeAt Go.RowKit Go.Proofs.YtjalggkhpnfbiaaDoor.common Go.Maps
attribute [local go_sem ↓] Go.wp_at_zero Go.wp_at_succ

theorem typN1 {s : List UInt8} (h : labL s = none) : typL s = none := by unfold typL; rw [h]; rfl
theorem typN2 {s p : List UInt8} {l : ByteArray} (h : labL s = some (l, p)) (h1 : skp mTextName.data.toList p = none) (h2 : skp mSecretName.data.toList p = none) : typL s = none := by
  unfold typL
  rw [h, Option.bind_some]
  show (match skp mTextName.data.toList p with | some r => _ | none => (skp mSecretName.data.toList p).bind _) = _
  rw [h1]
  show (skp mSecretName.data.toList p).bind _ = _
  rw [h2]
  rfl

set_option maxRecDepth 100000 in
set_option maxHeartbeats 3200000 in
theorem typed_any (b : Nat) (s : ByteArray) (ea : Addr) (w : World) (hs : s.size < 140737488355328) (h : Rr w b s) (he : REnv w b ea) :
    Calls Tryd.prog 65 #[ptr b] w fun e w' => RPost b ea w inV (typL s.data.toList) e w' := by
  have H0 := ((Sr.start hs h he).alloc c4).alloc c4
  have hP := (at_new (w.alloc c4) c4)
  have hF : ((w.alloc c4).alloc c4).heap[w.heap.size]? = some c4 := (((Below.refl _ (w.alloc c4)).alloc (Nat.le_refl _) c4).block w.heap.size (by show _ < (w.heap.push _).size; simp)).trans (at_new w c4)
  have hz : (w.alloc c4).heap.size = w.heap.size + 1 := by show (w.heap.push _).size = _; simp
  rw [hz] at hP
  have hbl := h.lt
  have HL := hide H0.label
  have HP := hide hF
  have HF := hide hP
  have hPb : w.heap.size ≠ b := by omega
  have hFb : w.heap.size + 1 ≠ b := by omega
  clear h he hF hP H0 hz
  go_enter Tryd.func65, Tryd.ntmps65
  go_wp2_with fail
  generalize (w.alloc c4).alloc c4 = W at *
  refine HL.out.mono ?_
  rintro e w1 ⟨k1, ⟨l, r1, g1, rfl, S1⟩ | ⟨g1, rfl, k1'⟩⟩
  · have G1 := hide g1
    have HP1 := hide (k1.at HP.out hPb)
    have HF1 := hide (k1.at HF.out hFb)
    have HS := hide (S1.skip mTextName)
    have HM := hide (S1.must mSecretName)
    clear g1 k1 S1 HL HP HF
    go_wp2_with fail
    refine HS.out.mono ?_
    rintro e w2 ⟨k2, ⟨r2, g2, rfl, S2⟩ | ⟨g2, rfl, S2⟩⟩
    · have G2 := hide (typL_1 G1.out g2)
      have HP2 := hide (k2.at HP1.out hPb)
      have HF2 := hide (k2.at HF1.out hFb)
      have HV := hide (S2.val 2)
      clear g2 k2 S2 HS HP1 HF1 HM
      go_wp2_with fail
      refine HV.out.mono ?_
      rintro e w3 ⟨k3, ⟨x, r3, g3, rfl, S3⟩ | ⟨g3, rfl, k3'⟩⟩
      · have G3 := hide g3
        have HP3 := hide (k3.at HP2.out hPb)
        have hF3 := k3.at HF2.out hFb
        obtain ⟨q0, q1, q2, q3, y0, y1, y2, y3⟩ := four_cells hF3
        have S4 := (S3.four (w.heap.size + 1) (Nat.le_succ _) x).cell ⟨w.heap.size + 1, 3, none⟩ (.string l) (Nat.le_succ _)
        have hF4 := set_last (set_four hF3 (.int .i64 x.kind) (.string x.name) (.string x.value) (.string x.label)) (.string l)
        have HF4 := hide hF4
        have HME := hide (S4.must mTypedEnd)
        obtain ⟨_, _, _, z3, _, _, _, u3⟩ := four_cells (set_four hF3 (.int .i64 x.kind) (.string x.name) (.string x.value) (.string x.label))
        have HP4 : Hid ((((w4 w3 (w.heap.size + 1) x).setCell ⟨w.heap.size + 1, 3, none⟩ (.string l))).heap[w.heap.size]? = some c4) := by
          show _ = _
          rw [Below.heap_setCell _ _ _ _ (by simp), off4 _ _ _ _ (by omega)]
          exact HP3.out
        clear g3 k3 S3 HV HF2 HP2 hF3 hF4 S4 HP3
        unfold inV
        go_wp2_with fail
        clear q0 q1 q2 q3 y0 y1 y2 y3 z3 u3
        refine HME.out.mono ?_
        rintro e w5 ⟨k5, ⟨r5, g5, rfl, S5⟩ | ⟨g5, rfl, k5'⟩⟩
        · have hP5 := k5.at HP4.out hPb
          have hF5 := k5.at HF4.out hFb
          have G5 : Hid (typL s.data.toList = some (⟨x.kind, x.name, x.value, l⟩, r5.data.toList)) := by
            show _ = _
            rw [G2.out, G3.out, Option.bind_some]
            show (skp _ r3.data.toList).bind _ = _
            rw [g5]
            rfl
          have S6 := hide (S5.four w.heap.size (Nat.le_refl _) ⟨x.kind, x.name, x.value, l⟩)
          have HP6 := hide hP5
          obtain ⟨q0, q1, q2, q3, y0, y1, y2, y3⟩ := four_cells hP5
          obtain ⟨p0, p1, p2, p3, _, _, _, _⟩ := four_cells hF5
          clear hP5 hF5 k5 g5 S5 HME HF4 HP4 G2 G3
          go_wp2
          refine bodyPost_ret (results_c rfl _ rfl (range4 (set_four HP6.out (.int .i64 x.kind) (.string x.name) (.string x.value) (.string l))) Tryd.underlying28 rfl sizeIn) rfl ?_
          exact ⟨S6.out.kr, Or.inl ⟨⟨x.kind, x.name, x.value, l⟩, r5, G5.out, rfl, S6.out.rr⟩⟩
        · have G5 : Hid (typL s.data.toList = none) := by
            show _ = _
            rw [G2.out, G3.out, Option.bind_some]
            show (skp _ r3.data.toList).bind _ = _
            rw [g5]
            rfl
          have K := hide k5'
          clear k5 g5 k5' HME
          go_wp2
          exact ⟨rfl, K.out, Or.inr ⟨G5.out, rfl⟩⟩
      · have G : Hid (typL s.data.toList = none) := by
          show _ = _
          rw [G2.out, g3]
          rfl
        have K := hide k3'
        clear g3 k3 k3'
        go_wp2
        exact ⟨rfl, K.out, Or.inr ⟨G.out, rfl⟩⟩
    · have HPa := hide (k2.at HP1.out hPb)
      have HFa := hide (k2.at HF1.out hFb)
      have G2n := hide g2
      have HMa := hide (S2.must mSecretName)
      clear g2 k2 S2 HS HP1 HF1 HM
      go_wp2_with fail
      refine HMa.out.mono ?_
      rintro e w2 ⟨k2, ⟨r2, g2, rfl, S2⟩ | ⟨g2, rfl, k2'⟩⟩
      · have G2 := hide (typL_2 G1.out G2n.out g2)
        have HP2 := hide (k2.at HPa.out hPb)
        have HF2 := hide (k2.at HFa.out hFb)
        have HV := hide S2.name
        clear g2 k2 S2 HPa HFa HMa
        go_wp2_with fail
        refine HV.out.mono ?_
        rintro e w3 ⟨k3, ⟨x, r3, g3, rfl, S3⟩ | ⟨g3, rfl, k3'⟩⟩
        · have G3 := hide g3
          have HP3 := hide (k3.at HP2.out hPb)
          have hF3 := k3.at HF2.out hFb
          obtain ⟨q0, q1, q2, q3, y0, y1, y2, y3⟩ := four_cells hF3
          have S4 := (S3.four (w.heap.size + 1) (Nat.le_succ _) ⟨3, x, ⟨#[]⟩, ⟨#[]⟩⟩).cell ⟨w.heap.size + 1, 3, none⟩ (.string l) (Nat.le_succ _)
          have hF4 := set_last (set_four hF3 (.int .i64 3) (.string x) (.string ⟨#[]⟩) (.string ⟨#[]⟩)) (.string l)
          have HF4 := hide hF4
          have HME := hide (S4.must mTypedEnd)
          obtain ⟨_, _, _, z3, _, _, _, u3⟩ := four_cells (set_four hF3 (.int .i64 3) (.string x) (.string ⟨#[]⟩) (.string ⟨#[]⟩))
          have HP4 : Hid ((((w4 w3 (w.heap.size + 1) ⟨3, x, ⟨#[]⟩, ⟨#[]⟩⟩).setCell ⟨w.heap.size + 1, 3, none⟩ (.string l))).heap[w.heap.size]? = some c4) := by
            show _ = _
            rw [Below.heap_setCell _ _ _ _ (by simp), off4 _ _ _ _ (by omega)]
            exact HP3.out
          clear g3 k3 S3 HV HF2 HP2 hF3 hF4 S4 HP3
          go_wp2_with fail
          clear q0 q1 q2 q3 y0 y1 y2 y3 z3 u3
          refine HME.out.mono ?_
          rintro e w5 ⟨k5, ⟨r5, g5, rfl, S5⟩ | ⟨g5, rfl, k5'⟩⟩
          · have hP5 := k5.at HP4.out hPb
            have hF5 := k5.at HF4.out hFb
            have G5 : Hid (typL s.data.toList = some (⟨3, x, ⟨#[]⟩, l⟩, r5.data.toList)) := by
              show _ = _
              rw [G2.out, G3.out, Option.bind_some]
              show (skp _ r3.data.toList).bind _ = _
              rw [g5]
              rfl
            have S6 := hide (S5.four w.heap.size (Nat.le_refl _) ⟨3, x, ⟨#[]⟩, l⟩)
            have HP6 := hide hP5
            obtain ⟨q0, q1, q2, q3, y0, y1, y2, y3⟩ := four_cells hP5
            obtain ⟨p0, p1, p2, p3, _, _, _, _⟩ := four_cells hF5
            clear hP5 hF5 k5 g5 S5 HME HF4 HP4 G2 G3
            go_wp2
            refine bodyPost_ret (results_c rfl _ rfl (range4 (set_four HP6.out (.int .i64 3) (.string x) (.string ⟨#[]⟩) (.string l))) Tryd.underlying28 rfl sizeIn) rfl ?_
            exact ⟨S6.out.kr, Or.inl ⟨⟨3, x, ⟨#[]⟩, l⟩, r5, G5.out, rfl, S6.out.rr⟩⟩
          · have G5 : Hid (typL s.data.toList = none) := by
              show _ = _
              rw [G2.out, G3.out, Option.bind_some]
              show (skp _ r3.data.toList).bind _ = _
              rw [g5]
              rfl
            have K := hide k5'
            clear k5 g5 k5' HME
            go_wp2
            exact ⟨rfl, K.out, Or.inr ⟨G5.out, rfl⟩⟩
        · have G : Hid (typL s.data.toList = none) := by
            show _ = _
            rw [G2.out, g3]
            rfl
          have K := hide k3'
          clear g3 k3 k3'
          go_wp2
          exact ⟨rfl, K.out, Or.inr ⟨G.out, rfl⟩⟩
      · have G := hide (typN2 G1.out G2n.out g2)
        have K := hide k2'
        clear g2 k2 k2'
        go_wp2
        exact ⟨rfl, K.out, Or.inr ⟨G.out, rfl⟩⟩
  · have G := hide (typN1 g1)
    have K := hide k1'
    clear g1 k1 k1'
    go_wp2
    exact ⟨rfl, K.out, Or.inr ⟨G.out, rfl⟩⟩
end Go.Proofs.YtjalggkhpnfbiaaDoor.pg
