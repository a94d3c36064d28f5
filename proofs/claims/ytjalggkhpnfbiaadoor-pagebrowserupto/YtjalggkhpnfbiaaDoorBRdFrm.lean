import Derived.Test.YtjalggkhpnfbiaaDoorBRdFuel
import Derived.Deep.RegionLaw
import Derived.Deep.AppendLies
namespace Go.Proofs.YtjalggkhpnfbiaaDoor.pg
open Go.ChangeShapes Go.WideShapes Go.ChangeAt Go.RowKit Go.Proofs.YtjalggkhpnfbiaaDoor.common Go.Maps
attribute [local go_sem ↓] Go.wp_at_zero Go.wp_at_succ

theorem Sr.input {b : Nat} {ea : Addr} {W w : World} {s : ByteArray} (H : Sr b ea W w s) {x : Inp} {r : List UInt8} (hi : inL s.data.toList = some (x, r)) :
    Calls Tryd.prog 53 #[ptr b] w fun e w' => e = .returned (inV x) ∧ Kr b w w' ∧ Sr b ea W w' ⟨r.toArray⟩ := by
  refine (input_any b s ea w H.sz H.rr H.env).mono ?_
  intro e w' h
  obtain ⟨hk, ⟨x', r', h1, h2, h3⟩ | ⟨h1, _, _⟩⟩ := H.of h (fun _ _ hx => Nat.le_of_lt (inL_len hx))
  · rw [hi] at h1
    injection h1 with h1
    injection h1 with h4 h5
    subst h4; subst h5
    exact ⟨h2, hk, h3⟩
  · rw [hi] at h1; cases h1
theorem Sr.inputBad {b : Nat} {ea : Addr} {W w : World} {s : ByteArray} (H : Sr b ea W w s) (hi : inL s.data.toList = none) :
    Calls Tryd.prog 53 #[ptr b] w fun e w' => e = PX ea ∧ Kr b W w' := by
  refine (input_any b s ea w H.sz H.rr H.env).mono ?_
  intro e w' h
  obtain ⟨hk, ⟨x', r', h1, h2, h3⟩ | ⟨h1, h2, h3⟩⟩ := H.of h (fun _ _ hx => Nat.le_of_lt (inL_len hx))
  · rw [hi] at h1; cases h1
  · exact ⟨h2, h3⟩
theorem Kr.undrew {b : Nat} {w w' : World} (h : Kr b w.drew w') : Kr b w w' := ⟨h.os, h.tape, h.output, h.size, h.block⟩
theorem Sr.drew {b : Nat} {ea : Addr} {W w : World} {s : ByteArray} (H : Sr b ea W w s) : Sr b ea W w.drew s := H.stay (Below.refl w.heap.size w).drew
theorem own_kr {b base : Nat} {w w' : World} {e : TypeId} {size : Nat} {v : Value} {n : Nat} {xs : List Value} (h : w.ownsRow base e size v n xs) (hk : Kr b w w') (hb : b < base) : w'.ownsRow base e size v n xs := by
  refine ⟨h.1, ?_⟩
  rcases h.2 with hn | ⟨g, cap, cur, hv, hg, hh, rest⟩
  · exact .inl hn
  · exact .inr ⟨g, cap, cur, hv, hg, hk.at hh (by omega), rest⟩
theorem Sr.low {b B : Nat} {ea : Addr} {W w w' : World} {s : ByteArray} (H : Sr b ea W w s) (h : Below B w w') (hB : W.heap.size ≤ B) : Sr b ea W w' s := by
  have hl := H.lt
  have h1 := H.env.lt
  have h2 := H.env.lt2
  refine ⟨⟨h.os.trans H.kr.os, h.tape.trans H.kr.tape, h.output.trans H.kr.output, Nat.le_trans H.kr.size h.size, fun k hk hn => (h.block k (by omega)).trans (H.kr.block k hk hn)⟩, ?_, ⟨H.env.esc.under h (by omega), H.env.txt.under h (by omega), h1, h2⟩, H.sz, hl⟩
  unfold Rr
  rw [h.block b (by omega)]
  exact H.rr
/-- a row has grown: what lies below it is as it was -/
theorem grown_low {w w' : World} {o : Obj} {v : Value} {base : Nat} {e : TypeId} {z n : Nat} {xs : List Value} (ho : w.ownsRow base e z v n xs) (hb : base ≤ w.heap.size) (hg : (w.alloc o).grownBy w' v.ownBlock) : Below base w w' := by
  have hz : (w.alloc o).heap.size = w.heap.size + 1 := by show (w.heap.push _).size = _; simp
  refine ⟨hg.os, hg.tape, hg.output, by have := hg.size; omega, fun k hk => ?_⟩
  rw [hg.block k (by omega) (by intro e; have := (ho.lt k e.symm).1; omega)]
  exact Below.heap_alloc w _ k (by omega)
/-- a call of a function, as a step of a region that draws its order -/
theorem step_calls {P : Program} {ops : Array Oper} {o : Oper} {a : Act} {w : World} {K : Act → World → Prop} {Q : Exit → Act → World → Prop} {E : Prop} (hgd : o.guard = none) {f : FuncId} {args : Array Value} {v : Value} {post : World → Prop}
    (hx : (execOp a.eval o).run P w = .ok (.enter f args) w) (hC : Calls P f args w fun e w' => e = .returned v ∧ post w') (hK : ∀ w', post w' → K (a.put o.dst v) w') : if Region.wanted o (yielded ops a.tmps) = true then Oper.wp P o a w K Q else E := by
  have hw : Region.wanted o (yielded ops a.tmps) = true := by simp [Region.wanted, hgd]
  rw [if_pos hw]
  unfold Oper.wp
  rw [hx, Oper.upon_enter]
  refine hC.mono ?_
  rintro e w' ⟨rfl, h⟩
  exact hK w' h
theorem step_panics {P : Program} {ops : Array Oper} {o : Oper} {a : Act} {w : World} {K : Act → World → Prop} {Q : Exit → Act → World → Prop} {E : Prop} (hgd : o.guard = none) {f : FuncId} {args : Array Value} {ch : List PanicEntry} {post : World → Prop}
    (hx : (execOp a.eval o).run P w = .ok (.enter f args) w) (hC : Calls P f args w fun e w' => e = .panicked ch ∧ post w') (hK : ∀ w', post w' → Q (.panic ch) a w') : if Region.wanted o (yielded ops a.tmps) = true then Oper.wp P o a w K Q else E := by
  have hw : Region.wanted o (yielded ops a.tmps) = true := by simp [Region.wanted, hgd]
  rw [if_pos hw]
  unfold Oper.wp
  rw [hx, Oper.upon_enter]
  refine hC.mono ?_
  rintro e w' ⟨rfl, h⟩
  exact hK w' h
abbrev c3 : Obj := .cells #[.string ⟨#[]⟩, .slice none 0 0, .string ⟨#[]⟩] 31
theorem three_cells {w : World} {F : Nat} {x y z : Value} {t : TypeId} (h : w.heap[F]? = some (.cells #[x, y, z] t)) :
    w.cell? ⟨F, 0, none⟩ = some x ∧ w.cell? ⟨F, 0 + 1, none⟩ = some y ∧ w.cell? ⟨F, 0 + 2, none⟩ = some z ∧
    w.frozen? ⟨F, 0, none⟩ = false ∧ w.frozen? ⟨F, 0 + 1, none⟩ = false ∧ w.frozen? ⟨F, 0 + 2, none⟩ = false := by
  simp [World.cell?, World.frozen?, h]
theorem set3a {w : World} {F : Nat} {x y z : Value} {t : TypeId} (h : w.heap[F]? = some (.cells #[x, y, z] t)) (v : Value) : (w.setCell ⟨F, 0, none⟩ v).heap[F]? = some (.cells #[v, y, z] t) := by
  simp [World.setCell, Array.getElem?_modify, h]
theorem sizeFm : (Tryd.prog.info? 31).map (·.size) = some 3 := by kernel_rfl
/-- how much is left -/
def left (w : World) (b : Nat) : Nat := match w.cell? ⟨b, 0, none⟩ with
  | some (.string s) => s.size
  | _ => 0
theorem Rr.left {w : World} {b : Nat} {s : ByteArray} (h : Rr w b s) : left w b = s.size := by
  have h' : w.heap[b]? = some (.cells #[.string s] 61) := h
  unfold pg.left
  simp [World.cell?, h']
/-- how a form is handed back: its slice is a row of one's own -/
def FPost (b : Nat) (ea : Addr) (w : World) (o : Option (Frm × List UInt8)) (e : Ending) (w' : World) : Prop :=
  Kr b w w' ∧ ((∃ f r v, o = some (f, r.data.toList) ∧ e = .returned (.agg #[.string f.act, v, .string f.but]) ∧ Rr w' b r ∧ w'.ownsRow w.heap.size 28 4 v f.ins.length (ic f.ins)) ∨ (o = none ∧ e = PX ea))

set_option maxRecDepth 100000 in
set_option maxHeartbeats 3200000 in
theorem form_any (b : Nat) (s : ByteArray) (ea : Addr) (w : World) (hs : s.size ≤ 1099511627776) (h : Rr w b s) (he : REnv w b ea) :
    Calls Tryd.prog 41 #[ptr b] w fun e w' => FPost b ea w (frmR s.data.toList) e w' := by
  have H0 := ((Sr.start (by omega) h he).alloc c3).alloc c3
  have hP := (at_new (w.alloc c3) c3)
  have hF : ((w.alloc c3).alloc c3).heap[w.heap.size]? = some c3 := (((Below.refl _ (w.alloc c3)).alloc (Nat.le_refl _) c3).block w.heap.size (by show _ < (w.heap.push _).size; simp)).trans (at_new w c3)
  have hz : (w.alloc c3).heap.size = w.heap.size + 1 := by show (w.heap.push _).size = _; simp
  rw [hz] at hP
  have hbl := h.lt
  have HL := hide (H0.text 34)
  have HP := hide hF
  have HF := hide hP
  have hPb : w.heap.size ≠ b := by omega
  have hFb : w.heap.size + 1 ≠ b := by omega
  clear h he hF hP H0 hz
  go_enter Tryd.func41, Tryd.ntmps41
  go_wp2_with fail
  generalize (w.alloc c3).alloc c3 = W at *
  refine HL.out.mono ?_
  rintro e w1 ⟨k1, ⟨act, r1, g1, rfl, S1⟩ | ⟨g1, rfl, k1'⟩⟩
  · have G1 := hide g1
    have hF1 := k1.at HF.out hFb
    have S2 := S1.cell ⟨w.heap.size + 1, 0, none⟩ (.string act) (Nat.le_succ _)
    have HP1 : Hid ((w1.setCell ⟨w.heap.size + 1, 0, none⟩ (.string act)).heap[w.heap.size]? = some c3) := (Below.heap_setCell _ _ _ _ (by show w.heap.size ≠ w.heap.size + 1; omega)).trans (k1.at HP.out hPb)
    have HF1 := hide (set3a hF1 (.string act))
    have HM := hide (S2.must mFormInputs)
    have hsz1 : r1.size ≤ 1099511627776 := by have := len_of (txtL_is g1).1; rw [len_list, len_list] at this; omega
    obtain ⟨q0, q1, q2, y0, y1, y2⟩ := three_cells hF1
    clear g1 k1 S1 HL HP HF S2 hF1
    go_wp2_with fail
    clear q0 q1 q2 y0 y1 y2
    generalize w1.setCell ⟨w.heap.size + 1, 0, none⟩ (.string act) = W1 at *
    refine HM.out.mono ?_
    rintro e w2 ⟨k2, ⟨r2, g2, rfl, S2⟩ | ⟨g2, rfl, k2'⟩⟩
    · have G2 : Hid (frmR s.data.toList = (insA r2.data.toList).bind fun p => (txtL 60 p.2).bind fun b => (skp mFormEnd.data.toList b.2).bind fun r => some (⟨act, p.1, b.1⟩, r)) := by
        show _ = _
        rw [frmR_A, G1.out, Option.bind_some]
        show (skp _ r1.data.toList).bind _ = _
        rw [g2, Option.bind_some]
      have hsz2 : r2.size ≤ 1099511627776 := by have := skp_len g2; rw [len_list, len_list] at this; omega
      have HP2 := hide (k2.at HP1.out hPb)
      have HF2 := hide (k2.at HF1.out hFb)
      have HS2 := hide S2
      have hlw := k2.size
      have hW2 : w.heap.size + 2 ≤ w2.heap.size := (Array.getElem?_eq_some_iff.1 HF2.out).1
      clear g2 k2 S2 HM HP1 HF1 G1 hlw hs hsz1
      go_wp2
      go_loopw [] (fun wr => ∃ (r : ByteArray) (v : Value) (l : List Inp), Hid (Sr b ea w wr r) ∧ Hid (wr.heap[w.heap.size]? = some c3) ∧ Hid (wr.heap[w.heap.size + 1]? = some (.cells #[.string act, v, .string ⟨#[]⟩] 31)) ∧ Hid (wr.ownsRow (w.heap.size + 2) 28 4 v l.length (ic l)) ∧ Hid (LeftI r2.data.toList r.data.toList l) ∧ Hid (l.length + r.size ≤ 1099511627776)) (fun wr => left wr b)
      case atStart => exact ⟨r2, .slice none 0 0, [], HS2, HP2, HF2, hide (World.ownsRow_nil _ _ _ _), hide (LeftI.start _), hide (by simpa using hsz2)⟩
      case round =>
        obtain ⟨r, v, l, HS, HP, HF, HO, HLf, HN⟩ := hrel
        have HK := hide (HS.out.skip mFormButton)
        clear HS2 HP2 HF2 hsz2
        go_wp2_with fail
        refine HK.out.mono ?_
        rintro e w3 ⟨k3, ⟨r3, g3, rfl, S3⟩ | ⟨g3, rfl, S3⟩⟩
        · have G3 : Hid (frmR s.data.toList = (txtL 60 r3.data.toList).bind fun b => (skp mFormEnd.data.toList b.2).bind fun r => some (⟨act, l, b.1⟩, r)) := by
            show _ = _
            rw [G2.out, HLf.out.done g3]
            rfl
          have HF3 := hide (k3.at HF.out hFb)
          have HP3 := hide (k3.at HP.out hPb)
          have HO3 := hide (own_kr HO.out k3 (by omega))
          have HT := hide (S3.text 60)
          clear g3 k3 S3 HK HF HP HO HLf G2 HS HN
          go_wp2_with fail
          refine HT.out.mono ?_
          rintro e w4 ⟨k4, ⟨but, r4, g4, rfl, S4⟩ | ⟨g4, rfl, k4'⟩⟩
          · have G4 := hide g4
            have hF4 := k4.at HF3.out hFb
            have S5 := S4.cell ⟨w.heap.size + 1, 2, none⟩ (.string but) (Nat.le_succ _)
            have HP4 : Hid ((w4.setCell ⟨w.heap.size + 1, 2, none⟩ (.string but)).heap[w.heap.size]? = some c3) := (Below.heap_setCell _ _ _ _ (by show w.heap.size ≠ w.heap.size + 1; omega)).trans (k4.at HP3.out hPb)
            have HF4 := hide (set3 hF4 (.string but)).2
            have HO4 : Hid ((w4.setCell ⟨w.heap.size + 1, 2, none⟩ (.string but)).ownsRow (w.heap.size + 2) 28 4 v l.length (ic l)) := own_off (own_kr HO3.out k4 (by omega)) _ _ (Or.inl (by show w.heap.size + 1 < w.heap.size + 2; omega))
            have HM := hide (S5.must mFormEnd)
            obtain ⟨_, _, q2, _, _, y2⟩ := three_cells hF4
            clear g4 k4 S4 HT HF3 HP3 HO3 S5 hF4
            go_wp2_with fail
            clear q2 y2
            generalize w4.setCell ⟨w.heap.size + 1, 2, none⟩ (.string but) = W4 at *
            refine HM.out.mono ?_
            rintro e w5 ⟨k5, ⟨r5, g5, rfl, S5⟩ | ⟨g5, rfl, k5'⟩⟩
            · have hP5 := k5.at HP4.out hPb
              have hF5 := k5.at HF4.out hFb
              have G5 : Hid (frmR s.data.toList = some (⟨act, l, but⟩, r5.data.toList)) := by
                show _ = _
                rw [G3.out, G4.out, Option.bind_some]
                show (skp _ r4.data.toList).bind _ = _
                rw [g5]
                rfl
              have HO5 := hide (own_kr HO4.out k5 (by omega))
              have S6 := hide (((S5.cell ⟨w.heap.size, 0, none⟩ (.string act) (Nat.le_refl _)).cell ⟨w.heap.size, 1, none⟩ v (Nat.le_refl _)).cell ⟨w.heap.size, 2, none⟩ (.string but) (Nat.le_refl _))
              have HP6 := hide hP5
              obtain ⟨oa, cap, rfl⟩ := form_w HO5.out
              obtain ⟨q0, q1, q2, y0, y1, y2⟩ := three_cells hP5
              obtain ⟨p0, p1, p2, _, _, _⟩ := three_cells hF5
              clear hP5 hF5 k5 g5 S5 HM HF4 HP4 HO4 G3 G4
              go_wp2
              have HOP := own_low (own_off (own_off (own_off HO5.out ⟨w.heap.size, 0, none⟩ (.string act) (Or.inl (by show w.heap.size < w.heap.size + 2; omega))) ⟨w.heap.size, 1, none⟩ (.slice oa l.length cap) (Or.inl (by show w.heap.size < w.heap.size + 2; omega))) ⟨w.heap.size, 2, none⟩ (.string but) (Or.inl (by show w.heap.size < w.heap.size + 2; omega))) (base' := w.heap.size) (by omega)
              refine bodyPost_ret (results_c rfl _ rfl (range3 (set_three HP6.out (.string act) (.slice oa l.length cap) (.string but))) Tryd.underlying31 rfl sizeFm) rfl ?_
              exact ⟨S6.out.kr, Or.inl ⟨⟨act, l, but⟩, r5, _, G5.out, rfl, S6.out.rr, HOP⟩⟩
            · have G : Hid (frmR s.data.toList = none) := by
                show _ = _
                rw [G3.out, G4.out, Option.bind_some]
                show (skp _ r4.data.toList).bind _ = _
                rw [g5]
                rfl
              have K := hide k5'
              clear g5 k5 k5'
              go_wp2
              exact ⟨rfl, K.out, Or.inr ⟨G.out, rfl⟩⟩
          · have G : Hid (frmR s.data.toList = none) := by
              show _ = _
              rw [G3.out, g4]
              rfl
            have K := hide k4'
            clear g4 k4 k4'
            go_wp2
            exact ⟨rfl, K.out, Or.inr ⟨G.out, rfl⟩⟩
        · cases hi : inL r.data.toList with
          | none =>
            have HC := hide (S3.drew.inputBad hi)
            have hF3 := k3.at HF.out hFb
            obtain ⟨_, q1, _, _, _, _⟩ := three_cells hF3
            have G : Hid (frmR s.data.toList = none) := by
              show _ = _
              rw [G2.out, HLf.out.bad g3 hi]
              rfl
            clear g3 hi k3 S3 hF3 HK HF HP HO HLf
            go_wp2_with fail
            refine wp_region_any (by kernel_rfl) ?_
            change wpAny _ _ _ _ _ _ _ (World.drew _)
            refine wpAny_take (i := 0) (v := .pointer (some ⟨w.heap.size + 1, 1, none⟩)) rfl (by kernel_rfl) (by kernel_rfl) (by kernel_rfl) (fun _ _ _ h => h) (Or.inl ⟨by rfl, by intro w; go_simp⟩) ?_
            refine wpAny_take (i := 2) (v := ptr b) rfl (by kernel_rfl) (by kernel_rfl) (by kernel_rfl) (fun _ _ _ h => h) (Or.inl ⟨by rfl, by intro w; go_simp⟩) ?_
            refine wpAny_ready (rs := [1, 3]) (by kernel_rfl) (by simp) ?_
            refine AllReady.cons rfl (fun K hK => ?_) (AllReady.cons rfl (fun K hK => ?_) AllReady.nil)
            · go_simp
              refine hK _ _ ?_
              clear hK K
              refine wpAny_ready (rs := [3]) (by kernel_rfl) (by simp) ?_
              refine AllReady.cons rfl (fun K hK => ?_) AllReady.nil
              refine step_panics (by rfl) (by simp [go_sem]) HC.out ?_
              exact fun w4 hk => ⟨rfl, hk, Or.inr ⟨G.out, rfl⟩⟩
            · refine step_panics (by rfl) (by simp [go_sem]) HC.out ?_
              exact fun w4 hk => ⟨rfl, hk, Or.inr ⟨G.out, rfl⟩⟩
          | some p =>
            obtain ⟨x, q⟩ := p
            have HQ := hide (HLf.out.next g3 hi)
            have HC := hide (S3.drew.input hi)
            have hF3 := k3.at HF.out hFb
            obtain ⟨_, q1, _, _, y1, _⟩ := three_cells hF3
            have q1d : w3.drew.cell? ⟨w.heap.size + 1, 0 + 1, none⟩ = some v := q1
            have HF3 := hide hF3
            have HP3 := hide (k3.at HP.out hPb)
            have HO3 := hide (own_kr HO.out k3 (by omega))
            have HIL : Hid (q.length < r.size) := by have := inL_len hi; rw [len_list] at this; exact this
            clear g3 hi k3 S3 hF3 HK HF HP HO HLf
            obtain ⟨i0, hi, hz0, hz1, hz2⟩ := info_parts infoI
            go_wp2_with fail
            have HIA : Hid (ic (l ++ [x]) = ic l ++ [.int .i64 x.kind, .string x.name, .string x.value, .string x.label]) := by show _ = _; rw [ic_app]; rfl
            have HWS : Hid (w.heap.size + 2 ≤ w3.heap.size) := (Array.getElem?_eq_some_iff.1 HF3.out).1
            go_region_law (first
              | (refine step_calls (by rfl) (by simp [go_sem]) HC.out ?_; rintro w4 ⟨k4, S4⟩; have hF4 := k4.undrew.at HF3.out hFb; obtain ⟨_, q1', _, _, y1', _⟩ := three_cells hF4; have q1'' : (w4.alloc (.cells #[.int .i64 x.kind, .string x.name, .string x.value, .string x.label] 28)).cell? ⟨w.heap.size + 1, 1, none⟩ = some v := (three_cells ((Below.heap_alloc w4 _ _ (Array.getElem?_eq_some_iff.1 hF4).1).trans hF4)).2.1; have HF4 := hide hF4; have HP4 := hide (k4.undrew.at HP3.out hPb); have HO4 := hide (own_kr HO3.out k4.undrew (by omega)); have HS4 := hide S4; have HW4 := hide k4.size; clear hF4 k4 S4; unfold inV)
              | (refine step_append_lies _ (by rfl) _ _ _ (by rfl) (w.heap.size + 2) 28 i0 _ 4 56 Tryd.underlying29 hi hz0 hz1 hz2 rfl (by omega) v l.length _ (by rfl) (HO4.out.alloc _) ⟨w4.heap.size, 0, none⟩ 1 1 [.int .i64 x.kind, .string x.name, .string x.value, .string x.label] (by rfl) (by rfl) (World.news_of_block (cs := #[.int .i64 x.kind, .string x.name, .string x.value, .string x.label]) (t := 28) (fr := (0, 0)) (heap_alloc_new w4 _)) (by simp [Value.oneCell']) (by omega) (by unfold maxLen; have := HN.out; omega) (by have := HN.out; omega) (by have h1 := HWS.out; have h2 : w3.heap.size ≤ w4.heap.size := HW4.out; simp; omega) (w4.heap.size + 1) (by simp) ?_; intro gg cap w5 hown5 hgrow5 hat5 hlt5; have hL5 := grown_low HO4.out (by have h1 := HWS.out; have h2 : w3.heap.size ≤ w4.heap.size := HW4.out; omega) hgrow5; have hF5 := (hL5.block (w.heap.size + 1) (by omega)).trans HF4.out; obtain ⟨_, q5, _, _, y5, _⟩ := three_cells hF5; have HF5 := hide hF5; have HP5 := hide ((hL5.block w.heap.size (by omega)).trans HP4.out); have HS5 := hide (HS4.out.low hL5 (by omega)); have HO5 := hide hown5; clear hL5 hown5 hgrow5 hat5 hlt5 hF5))
            all_goals
              have HS6 := hide (HS5.out.cell ⟨w.heap.size + 1, 1, none⟩ (.slice (some ⟨gg, 0, none⟩) (l.length + 1) cap) (Nat.le_succ _))
              have HP6 : Hid ((w5.setCell ⟨w.heap.size + 1, 1, none⟩ (.slice (some ⟨gg, 0, none⟩) (l.length + 1) cap)).heap[w.heap.size]? = some c3) := (Below.heap_setCell _ _ _ _ (by show w.heap.size ≠ w.heap.size + 1; omega)).trans HP5.out
              have HF6 := hide (set3 HF5.out (.slice (some ⟨gg, 0, none⟩) (l.length + 1) cap)).1
              have HO6 : Hid ((w5.setCell ⟨w.heap.size + 1, 1, none⟩ (.slice (some ⟨gg, 0, none⟩) (l.length + 1) cap)).ownsRow (w.heap.size + 2) 28 4 (.slice (some ⟨gg, 0, none⟩) (l.length + 1) cap) (l ++ [x]).length (ic (l ++ [x]))) := by
                show World.ownsRow _ _ _ _ _ _ _
                rw [HIA.out, List.length_append]
                exact own_off HO5.out _ _ (Or.inl (by show w.heap.size + 1 < w.heap.size + 2; omega))
              go_wp2
              go_roundw
              case rel => exact ⟨⟨q.toArray⟩, _, l ++ [x], HS6, HP6, HF6, HO6, HQ, hide (by
                have h1 := HIL.out
                have h2 := HN.out
                show (l ++ [x]).length + (ByteArray.mk q.toArray).size ≤ _
                have h3 : (ByteArray.mk q.toArray).size = q.length := by simp [ByteArray.size]
                rw [List.length_append, h3]
                simp only [List.length_singleton]
                omega)⟩
              case measure =>
                rw [HS6.out.rr.left, HS.out.rr.left]
                have h3 : (ByteArray.mk q.toArray).size = q.length := by simp [ByteArray.size]
                rw [h3]
                exact HIL.out
    · have G : Hid (frmR s.data.toList = none) := by
        show _ = _
        rw [frmR_A, G1.out, Option.bind_some]
        show (skp _ r1.data.toList).bind _ = _
        rw [g2]
        rfl
      have K := hide k2'
      clear g2 k2 k2'
      go_wp2
      exact ⟨rfl, K.out, Or.inr ⟨G.out, rfl⟩⟩
  · have G : Hid (frmR s.data.toList = none) := by
      show _ = _
      rw [frmR_A, g1]
      rfl
    have K := hide k1'
    clear g1 k1 k1'
    go_wp2
    exact ⟨rfl, K.out, Or.inr ⟨G.out, rfl⟩⟩
end Go.Proofs.YtjalggkhpnfbiaaDoor.pg
