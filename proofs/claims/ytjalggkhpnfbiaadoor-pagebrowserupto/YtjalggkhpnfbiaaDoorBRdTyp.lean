import Derived.Test.YtjalggkhpnfbiaaDoorBRdLab
namespace Go.Proofs.YtjalggkhpnfbiaaDoor.pg
open Go.ChangeShapes Go.WideShapes Go.ChangeAt Go.RowKit Go.Proofs.YtjalggkhpnfbiaaDoor.common Go.Maps

/-- the reader within a method that began at W -/
structure Sr (b : Nat) (ea : Addr) (W w : World) (s : ByteArray) : Prop where
  kr : Kr b W w
  rr : Rr w b s
  env : REnv w b ea
  sz : s.size < 140737488355328
  lt : b < W.heap.size
theorem Sr.start {b : Nat} {ea : Addr} {w : World} {s : ByteArray} (hs : s.size < 140737488355328) (h : Rr w b s) (he : REnv w b ea) : Sr b ea w w s := ⟨Kr.refl _ _, h, he, hs, h.lt⟩
theorem Sr.next {b : Nat} {ea : Addr} {W w w' : World} {s r : ByteArray} (H : Sr b ea W w s) (hk : Kr b w w') (hr : Rr w' b r) (hs : r.size ≤ s.size) : Sr b ea W w' r :=
  ⟨H.kr.trans hk, hr, H.env.next hk (Nat.le_of_lt H.rr.lt), Nat.lt_of_le_of_lt hs H.sz, H.lt⟩
theorem Sr.stay {b : Nat} {ea : Addr} {W w w' : World} {s : ByteArray} (H : Sr b ea W w s) (hk : Below w.heap.size w w') : Sr b ea W w' s := H.next (Kr.of hk) (H.rr.below hk) (Nat.le_refl _)
theorem Sr.alloc {b : Nat} {ea : Addr} {W w : World} {s : ByteArray} (H : Sr b ea W w s) (o : Obj) : Sr b ea W (w.alloc o) s := H.stay ((Below.refl _ _).alloc (Nat.le_refl _) _)
theorem Sr.cell {b : Nat} {ea : Addr} {W w : World} {s : ByteArray} (H : Sr b ea W w s) (a : Addr) (v : Value) (ha : W.heap.size ≤ a.block) : Sr b ea W (w.setCell a v) s := by
  have hb : a.block ≠ b := by have := H.lt; omega
  have hl := H.env.lt
  have hl2 := H.env.lt2
  have hB : Below (b + 1) w (w.setCell a v) := ⟨rfl, rfl, rfl, by simp [World.setCell], fun k hk => Below.heap_setCell w a v k (by have := H.lt; omega)⟩
  refine ⟨H.kr.above a v ha, ?_, ⟨H.env.esc.under hB (by omega), H.env.txt.under hB (by omega), hl, hl2⟩, H.sz, H.lt⟩
  unfold Rr
  rw [Below.heap_setCell w a v b (Ne.symm hb)]
  exact H.rr
/-- a method has been called -/
theorem Sr.of {α : Type} {b : Nat} {ea : Addr} {W w : World} {s : ByteArray} (H : Sr b ea W w s) {val : α → Value} {o : Option (α × List UInt8)} {e : Ending} {w' : World} (h : RPost b ea w val o e w') (hl : ∀ x r, o = some (x, r) → r.length ≤ s.data.toList.length) :
    Kr b w w' ∧ ((∃ x r, o = some (x, r.data.toList) ∧ e = .returned (val x) ∧ Sr b ea W w' r) ∨ (o = none ∧ e = PX ea ∧ Kr b W w')) := by
  obtain ⟨hk, ⟨x, r, h1, h2, h3⟩ | ⟨h1, h2⟩⟩ := h
  · refine ⟨hk, Or.inl ⟨x, r, h1, h2, H.next hk h3 ?_⟩⟩
    have := hl _ _ h1
    rwa [len_list, len_list] at this
  · exact ⟨hk, Or.inr ⟨h1, h2, H.kr.trans hk⟩⟩
theorem len_of {a s r : List UInt8} (h : s = a ++ r) : r.length ≤ s.length := by rw [h, List.length_append]; omega

theorem Sr.must {b : Nat} {ea : Addr} {W w : World} {s : ByteArray} (H : Sr b ea W w s) (m : ByteArray) :
    Calls Tryd.prog 38 #[ptr b, .string m] w fun e w' => Kr b w w' ∧ ((∃ r, skp m.data.toList s.data.toList = some r.data.toList ∧ e = .returned (.tuple #[]) ∧ Sr b ea W w' r) ∨ (skp m.data.toList s.data.toList = none ∧ e = PX ea ∧ Kr b W w')) := by
  refine (must_any b s m ea w H.rr H.env.txt H.env.lt2).mono ?_
  intro e w' h
  obtain ⟨hk, h | h⟩ := H.of h (fun x r hx => by
    cases hq : skp m.data.toList s.data.toList with
    | none => rw [hq] at hx; cases hx
    | some q => rw [hq] at hx; injection hx with hx; injection hx with _ hx; subst hx; exact len_of (skp_is hq))
  · obtain ⟨x, r, h1, h2, h3⟩ := h
    refine ⟨hk, Or.inl ⟨r, ?_, h2, h3⟩⟩
    cases hq : skp m.data.toList s.data.toList with
    | none => rw [hq] at h1; cases h1
    | some q => rw [hq] at h1; injection h1 with h1; injection h1 with _ h1; rw [h1]
  · obtain ⟨h1, h2, h3⟩ := h
    refine ⟨hk, Or.inr ⟨?_, h2, h3⟩⟩
    cases hq : skp m.data.toList s.data.toList with
    | none => rfl
    | some q => rw [hq] at h1; cases h1
theorem cut_false {s m : ByteArray} (h : (cutB s m).2 = false) : (cutB s m).1 = s := by
  revert h
  unfold cutB
  cases m.data.toList.isPrefixOf s.data.toList with
  | true => intro h; cases h
  | false => intro _; rfl
theorem Sr.skip {b : Nat} {ea : Addr} {W w : World} {s : ByteArray} (H : Sr b ea W w s) (m : ByteArray) :
    Calls Tryd.prog 40 #[ptr b, .string m] w fun e w' => Kr b w w' ∧ ((∃ r, skp m.data.toList s.data.toList = some r.data.toList ∧ e = .returned (.bool true) ∧ Sr b ea W w' r) ∨ (skp m.data.toList s.data.toList = none ∧ e = .returned (.bool false) ∧ Sr b ea W w' s)) := by
  refine (skip_any b s m w H.rr).mono ?_
  rintro e w' ⟨rfl, rfl⟩
  have hk := Kr.set b w 0 (.string (cutB s m).1)
  have hr := H.rr.set (cutB s m).1
  have hq := skp_cut s m
  refine ⟨hk, ?_⟩
  cases hc : (cutB s m).2 with
  | true =>
    rw [hc, if_pos rfl] at hq
    refine Or.inl ⟨_, hq, rfl, H.next hk hr ?_⟩
    have := len_of (skp_is hq)
    rwa [len_list, len_list] at this
  | false =>
    rw [hc] at hq
    refine Or.inr ⟨hq, rfl, ?_⟩
    have e := cut_false hc
    rw [e] at hk hr
    rw [e]
    exact H.next hk hr (Nat.le_refl _)
theorem Sr.text {b : Nat} {ea : Addr} {W w : World} {s : ByteArray} (H : Sr b ea W w s) (c : UInt8) :
    Calls Tryd.prog 39 #[ptr b, B c] w fun e w' => Kr b w w' ∧ ((∃ x r, txtL c s.data.toList = some (x, r.data.toList) ∧ e = .returned (.string x) ∧ Sr b ea W w' r) ∨ (txtL c s.data.toList = none ∧ e = PX ea ∧ Kr b W w')) :=
  (rdText_any b s c ea w H.sz H.rr H.env.esc H.env.txt).mono fun _ _ h => H.of h fun _ _ hx => len_of (txtL_is hx).1
theorem Sr.name {b : Nat} {ea : Addr} {W w : World} {s : ByteArray} (H : Sr b ea W w s) :
    Calls Tryd.prog 72 #[ptr b] w fun e w' => Kr b w w' ∧ ((∃ x r, namL s.data.toList = some (x, r.data.toList) ∧ e = .returned (.string x) ∧ Sr b ea W w' r) ∨ (namL s.data.toList = none ∧ e = PX ea ∧ Kr b W w')) :=
  (name_any b s ea w H.sz H.rr H.env).mono fun _ _ h => H.of h fun _ _ hx => len_of (namL_is hx).1
theorem Sr.label {b : Nat} {ea : Addr} {W w : World} {s : ByteArray} (H : Sr b ea W w s) :
    Calls Tryd.prog 73 #[ptr b] w fun e w' => Kr b w w' ∧ ((∃ x r, labL s.data.toList = some (x, r.data.toList) ∧ e = .returned (.string x) ∧ Sr b ea W w' r) ∨ (labL s.data.toList = none ∧ e = PX ea ∧ Kr b W w')) :=
  (labelAhead_any b s ea w H.sz H.rr H.env).mono fun _ _ h => H.of h fun _ _ hx => len_of (labL_is hx)
theorem Sr.val {b : Nat} {ea : Addr} {W w : World} {s : ByteArray} (H : Sr b ea W w s) (k : Int) :
    Calls Tryd.prog 64 #[ptr b, .int .i64 k] w fun e w' => Kr b w w' ∧ ((∃ x r, valL k s.data.toList = some (x, r.data.toList) ∧ e = .returned (inV x) ∧ Sr b ea W w' r) ∨ (valL k s.data.toList = none ∧ e = PX ea ∧ Kr b W w')) :=
  (nameAndValue_any b s k ea w H.sz H.rr H.env).mono fun _ _ h => H.of h fun x r hx => by
    have h1 := (valL_is hx).1
    rw [h1]; simp only [List.length_append]; omega

/-- an input's four cells in a block of one's own -/
abbrev c4 : Obj := .cells #[.int .i64 0, .string ⟨#[]⟩, .string ⟨#[]⟩, .string ⟨#[]⟩] 28
theorem at_new (w : World) (o : Obj) : (w.alloc o).heap[w.heap.size]? = some o := by show (w.heap.push _)[w.heap.size]? = _; simp
theorem four_cells {w : World} {F : Nat} {x y z u : Value} {t : TypeId} (h : w.heap[F]? = some (.cells #[x, y, z, u] t)) :
    w.cell? ⟨F, 0, none⟩ = some x ∧ w.cell? ⟨F, 0 + 1, none⟩ = some y ∧ w.cell? ⟨F, 0 + 2, none⟩ = some z ∧ w.cell? ⟨F, 0 + 3, none⟩ = some u ∧
    w.frozen? ⟨F, 0, none⟩ = false ∧ w.frozen? ⟨F, 0 + 1, none⟩ = false ∧ w.frozen? ⟨F, 0 + 2, none⟩ = false ∧ w.frozen? ⟨F, 0 + 3, none⟩ = false := by
  simp [World.cell?, World.frozen?, h]
theorem Kr.at {b : Nat} {w w' : World} (h : Kr b w w') {F : Nat} {o : Obj} (hF : w.heap[F]? = some o) (hn : F ≠ b) : w'.heap[F]? = some o := (h.block F (Array.getElem?_eq_some_iff.1 hF).1 hn).trans hF
theorem set_last {w : World} {F : Nat} {x y z u : Value} {t : TypeId} (h : w.heap[F]? = some (.cells #[x, y, z, u] t)) (v : Value) : (w.setCell ⟨F, 3, none⟩ v).heap[F]? = some (.cells #[x, y, z, v] t) := by
  simp [World.setCell, Array.getElem?_modify, h]
/-- the four cells are written -/
abbrev w4 (w : World) (F : Nat) (x : Inp) : World := (((w.setCell ⟨F, 0, none⟩ (.int .i64 x.kind)).setCell ⟨F, 1, none⟩ (.string x.name)).setCell ⟨F, 2, none⟩ (.string x.value)).setCell ⟨F, 3, none⟩ (.string x.label)
theorem Sr.four {b : Nat} {ea : Addr} {W w : World} {s : ByteArray} (H : Sr b ea W w s) (F : Nat) (hF : W.heap.size ≤ F) (x : Inp) : Sr b ea W (w4 w F x) s :=
  (((H.cell ⟨F, 0, none⟩ _ hF).cell ⟨F, 1, none⟩ _ hF).cell ⟨F, 2, none⟩ _ hF).cell ⟨F, 3, none⟩ _ hF
theorem off4 (w : World) (F : Nat) (x : Inp) (k : Nat) (hk : k ≠ F) : (w4 w F x).heap[k]? = w.heap[k]? := by
  rw [Below.heap_setCell _ _ _ _ hk, Below.heap_setCell _ _ _ _ hk, Below.heap_setCell _ _ _ _ hk, Below.heap_setCell _ _ _ _ hk]
end Go.Proofs.YtjalggkhpnfbiaaDoor.pg

namespace Go.Proofs.YtjalggkhpnfbiaaDoor.pg
open Go.ChangeShapes Go.WideShapes Go.ChangeAt Go.RowKit Go.Proofs.YtjalggkhpnfbiaaDoor.common Go.Maps
attribute [local go_sem ↓] Go.wp_at_zero Go.wp_at_succ

theorem typN1 {s : List UInt8} (h : labL s = none) : typL s = none := by unfold typL; rw [h]; rfl
theorem typN2 {s p : List UInt8} {l : ByteArray} (h : labL s = some (l, p)) (h1 : skp mTextName.data.toList p = none) (h2 : skp mSecretName.data.toList p = none) : typL s = none := by
  unfold typL
  rw [h, Option.bind_some]
  show (match skp mTextName.data.toList p with | some r => _ | none => (skp mSecretName.data.toList p).bind _) = _
  rw [h1]
  show (skp mSecretName.data.toList p).bind _ = _
  rw [h2]
  rfl

set_option maxRecDepth 100000 in
set_option maxHeartbeats 3200000 in
theorem typed_any (b : Nat) (s : ByteArray) (ea : Addr) (w : World) (hs : s.size < 140737488355328) (h : Rr w b s) (he : REnv w b ea) :
    Calls Tryd.prog 65 #[ptr b] w fun e w' => RPost b ea w inV (typL s.data.toList) e w' := by
  have H0 := ((Sr.start hs h he).alloc c4).alloc c4
  have hP := (at_new (w.alloc c4) c4)
  have hF : ((w.alloc c4).alloc c4).heap[w.heap.size]? = some c4 := (((Below.refl _ (w.alloc c4)).alloc (Nat.le_refl _) c4).block w.heap.size (by show _ < (w.heap.push _).size; simp)).trans (at_new w c4)
  have hz : (w.alloc c4).heap.size = w.heap.size + 1 := by show (w.heap.push _).size = _; simp
  rw [hz] at hP
  have hbl := h.lt
  have HL := hide H0.label
  have HP := hide hF
  have HF := hide hP
  have hPb : w.heap.size ≠ b := by omega
  have hFb : w.heap.size + 1 ≠ b := by omega
  clear h he hF hP H0 hz
  go_enter Tryd.func65, Tryd.ntmps65
  go_wp2_with fail
  generalize (w.alloc c4).alloc c4 = W at *
  refine HL.out.mono ?_
  rintro e w1 ⟨k1, ⟨l, r1, g1, rfl, S1⟩ | ⟨g1, rfl, k1'⟩⟩
  · have G1 := hide g1
    have HP1 := hide (k1.at HP.out hPb)
    have HF1 := hide (k1.at HF.out hFb)
    have HS := hide (S1.skip mTextName)
    have HM := hide (S1.must mSecretName)
    clear g1 k1 S1 HL HP HF
    go_wp2_with fail
    refine HS.out.mono ?_
    rintro e w2 ⟨k2, ⟨r2, g2, rfl, S2⟩ | ⟨g2, rfl, S2⟩⟩
    · have G2 := hide (typL_1 G1.out g2)
      have HP2 := hide (k2.at HP1.out hPb)
      have HF2 := hide (k2.at HF1.out hFb)
      have HV := hide (S2.val 2)
      clear g2 k2 S2 HS HP1 HF1 HM
      go_wp2_with fail
      refine HV.out.mono ?_
      rintro e w3 ⟨k3, ⟨x, r3, g3, rfl, S3⟩ | ⟨g3, rfl, k3'⟩⟩
      · have G3 := hide g3
        have HP3 := hide (k3.at HP2.out hPb)
        have hF3 := k3.at HF2.out hFb
        obtain ⟨q0, q1, q2, q3, y0, y1, y2, y3⟩ := four_cells hF3
        have S4 := (S3.four (w.heap.size + 1) (Nat.le_succ _) x).cell ⟨w.heap.size + 1, 3, none⟩ (.string l) (Nat.le_succ _)
        have hF4 := set_last (set_four hF3 (.int .i64 x.kind) (.string x.name) (.string x.value) (.string x.label)) (.string l)
        have HF4 := hide hF4
        have HME := hide (S4.must mTypedEnd)
        obtain ⟨_, _, _, z3, _, _, _, u3⟩ := four_cells (set_four hF3 (.int .i64 x.kind) (.string x.name) (.string x.value) (.string x.label))
        have HP4 : Hid ((((w4 w3 (w.heap.size + 1) x).setCell ⟨w.heap.size + 1, 3, none⟩ (.string l))).heap[w.heap.size]? = some c4) := by
          show _ = _
          rw [Below.heap_setCell _ _ _ _ (by simp), off4 _ _ _ _ (by omega)]
          exact HP3.out
        clear g3 k3 S3 HV HF2 HP2 hF3 hF4 S4 HP3
        unfold inV
        go_wp2_with fail
        clear q0 q1 q2 q3 y0 y1 y2 y3 z3 u3
        refine HME.out.mono ?_
        rintro e w5 ⟨k5, ⟨r5, g5, rfl, S5⟩ | ⟨g5, rfl, k5'⟩⟩
        · have hP5 := k5.at HP4.out hPb
          have hF5 := k5.at HF4.out hFb
          have G5 : Hid (typL s.data.toList = some (⟨x.kind, x.name, x.value, l⟩, r5.data.toList)) := by
            show _ = _
            rw [G2.out, G3.out, Option.bind_some]
            show (skp _ r3.data.toList).bind _ = _
            rw [g5]
            rfl
          have S6 := hide (S5.four w.heap.size (Nat.le_refl _) ⟨x.kind, x.name, x.value, l⟩)
          have HP6 := hide hP5
          obtain ⟨q0, q1, q2, q3, y0, y1, y2, y3⟩ := four_cells hP5
          obtain ⟨p0, p1, p2, p3, _, _, _, _⟩ := four_cells hF5
          clear hP5 hF5 k5 g5 S5 HME HF4 HP4 G2 G3
          go_wp2
          refine bodyPost_ret (results_c rfl _ rfl (range4 (set_four HP6.out (.int .i64 x.kind) (.string x.name) (.string x.value) (.string l))) Tryd.underlying28 rfl sizeIn) rfl ?_
          exact ⟨S6.out.kr, Or.inl ⟨⟨x.kind, x.name, x.value, l⟩, r5, G5.out, rfl, S6.out.rr⟩⟩
        · have G5 : Hid (typL s.data.toList = none) := by
            show _ = _
            rw [G2.out, G3.out, Option.bind_some]
            show (skp _ r3.data.toList).bind _ = _
            rw [g5]
            rfl
          have K := hide k5'
          clear k5 g5 k5' HME
          go_wp2
          exact ⟨rfl, K.out, Or.inr ⟨G5.out, rfl⟩⟩
      · have G : Hid (typL s.data.toList = none) := by
          show _ = _
          rw [G2.out, g3]
          rfl
        have K := hide k3'
        clear g3 k3 k3'
        go_wp2
        exact ⟨rfl, K.out, Or.inr ⟨G.out, rfl⟩⟩
    · have HPa := hide (k2.at HP1.out hPb)
      have HFa := hide (k2.at HF1.out hFb)
      have G2n := hide g2
      have HMa := hide (S2.must mSecretName)
      clear g2 k2 S2 HS HP1 HF1 HM
      go_wp2_with fail
      refine HMa.out.mono ?_
      rintro e w2 ⟨k2, ⟨r2, g2, rfl, S2⟩ | ⟨g2, rfl, k2'⟩⟩
      · have G2 := hide (typL_2 G1.out G2n.out g2)
        have HP2 := hide (k2.at HPa.out hPb)
        have HF2 := hide (k2.at HFa.out hFb)
        have HV := hide S2.name
        clear g2 k2 S2 HPa HFa HMa
        go_wp2_with fail
        refine HV.out.mono ?_
        rintro e w3 ⟨k3, ⟨x, r3, g3, rfl, S3⟩ | ⟨g3, rfl, k3'⟩⟩
        · have G3 := hide g3
          have HP3 := hide (k3.at HP2.out hPb)
          have hF3 := k3.at HF2.out hFb
          obtain ⟨q0, q1, q2, q3, y0, y1, y2, y3⟩ := four_cells hF3
          have S4 := (S3.four (w.heap.size + 1) (Nat.le_succ _) ⟨3, x, ⟨#[]⟩, ⟨#[]⟩⟩).cell ⟨w.heap.size + 1, 3, none⟩ (.string l) (Nat.le_succ _)
          have hF4 := set_last (set_four hF3 (.int .i64 3) (.string x) (.string ⟨#[]⟩) (.string ⟨#[]⟩)) (.string l)
          have HF4 := hide hF4
          have HME := hide (S4.must mTypedEnd)
          obtain ⟨_, _, _, z3, _, _, _, u3⟩ := four_cells (set_four hF3 (.int .i64 3) (.string x) (.string ⟨#[]⟩) (.string ⟨#[]⟩))
          have HP4 : Hid ((((w4 w3 (w.heap.size + 1) ⟨3, x, ⟨#[]⟩, ⟨#[]⟩⟩).setCell ⟨w.heap.size + 1, 3, none⟩ (.string l))).heap[w.heap.size]? = some c4) := by
            show _ = _
            rw [Below.heap_setCell _ _ _ _ (by simp), off4 _ _ _ _ (by omega)]
            exact HP3.out
          clear g3 k3 S3 HV HF2 HP2 hF3 hF4 S4 HP3
          go_wp2_with fail
          clear q0 q1 q2 q3 y0 y1 y2 y3 z3 u3
          refine HME.out.mono ?_
          rintro e w5 ⟨k5, ⟨r5, g5, rfl, S5⟩ | ⟨g5, rfl, k5'⟩⟩
          · have hP5 := k5.at HP4.out hPb
            have hF5 := k5.at HF4.out hFb
            have G5 : Hid (typL s.data.toList = some (⟨3, x, ⟨#[]⟩, l⟩, r5.data.toList)) := by
              show _ = _
              rw [G2.out, G3.out, Option.bind_some]
              show (skp _ r3.data.toList).bind _ = _
              rw [g5]
              rfl
            have S6 := hide (S5.four w.heap.size (Nat.le_refl _) ⟨3, x, ⟨#[]⟩, l⟩)
            have HP6 := hide hP5
            obtain ⟨q0, q1, q2, q3, y0, y1, y2, y3⟩ := four_cells hP5
            obtain ⟨p0, p1, p2, p3, _, _, _, _⟩ := four_cells hF5
            clear hP5 hF5 k5 g5 S5 HME HF4 HP4 G2 G3
            go_wp2
            refine bodyPost_ret (results_c rfl _ rfl (range4 (set_four HP6.out (.int .i64 3) (.string x) (.string ⟨#[]⟩) (.string l))) Tryd.underlying28 rfl sizeIn) rfl ?_
            exact ⟨S6.out.kr, Or.inl ⟨⟨3, x, ⟨#[]⟩, l⟩, r5, G5.out, rfl, S6.out.rr⟩⟩
          · have G5 : Hid (typL s.data.toList = none) := by
              show _ = _
              rw [G2.out, G3.out, Option.bind_some]
              show (skp _ r3.data.toList).bind _ = _
              rw [g5]
              rfl
            have K := hide k5'
            clear k5 g5 k5' HME
            go_wp2
            exact ⟨rfl, K.out, Or.inr ⟨G5.out, rfl⟩⟩
        · have G : Hid (typL s.data.toList = none) := by
            show _ = _
            rw [G2.out, g3]
            rfl
          have K := hide k3'
          clear g3 k3 k3'
          go_wp2
          exact ⟨rfl, K.out, Or.inr ⟨G.out, rfl⟩⟩
      · have G := hide (typN2 G1.out G2n.out g2)
        have K := hide k2'
        clear g2 k2 k2'
        go_wp2
        exact ⟨rfl, K.out, Or.inr ⟨G.out, rfl⟩⟩
  · have G := hide (typN1 g1)
    have K := hide k1'
    clear g1 k1 k1'
    go_wp2
    exact ⟨rfl, K.out, Or.inr ⟨G.out, rfl⟩⟩
end Go.Proofs.YtjalggkhpnfbiaaDoor.pg
