import Derived.Test.YtjalggkhpnfbiaaDoorBRdFrm
namespace Go.Proofs.YtjalggkhpnfbiaaDoor.pg
open Go.ChangeShapes Go.WideShapes Go.ChangeAt Go.RowKit Go.Proofs.YtjalggkhpnfbiaaDoor.common Go.Maps
attribute [local go_sem ↓] Go.wp_at_zero Go.wp_at_succ

theorem Sr.textIs {b : Nat} {ea : Addr} {W w : World} {s : ByteArray} (H : Sr b ea W w s) {c : UInt8} {x : ByteArray} {r : List UInt8} (hi : txtL c s.data.toList = some (x, r)) :
    Calls Tryd.prog 39 #[ptr b, B c] w fun e w' => e = .returned (.string x) ∧ Kr b w w' ∧ Sr b ea W w' ⟨r.toArray⟩ := by
  refine (H.text c).mono ?_
  rintro e w' ⟨hk, ⟨x', r', h1, h2, h3⟩ | ⟨h1, _, _⟩⟩
  · rw [hi] at h1
    injection h1 with h1
    injection h1 with h4 h5
    subst h4; subst h5
    exact ⟨h2, hk, h3⟩
  · rw [hi] at h1; cases h1
theorem Sr.textBad {b : Nat} {ea : Addr} {W w : World} {s : ByteArray} (H : Sr b ea W w s) {c : UInt8} (hi : txtL c s.data.toList = none) :
    Calls Tryd.prog 39 #[ptr b, B c] w fun e w' => e = PX ea ∧ Kr b W w' := by
  refine (H.text c).mono ?_
  rintro e w' ⟨hk, ⟨x', r', h1, h2, h3⟩ | ⟨h1, h2, h3⟩⟩
  · rw [hi] at h1; cases h1
  · exact ⟨h2, h3⟩
/-- rows of one's own that share nothing -/
def Aside (s : List Value) : Prop := s.Pairwise fun u v => u.ownBlock = none ∨ u.ownBlock ≠ v.ownBlock
/-- how a page is handed back -/
def PPost (b : Nat) (ea : Addr) (w : World) (o : Option (ByteArray × List ByteArray × List Frm)) (e : Ending) (w' : World) : Prop :=
  Kr b w w' ∧ ((∃ t ls fs vL vF ss, o = some (t, ls, fs) ∧ e = .returned (.agg #[.string t, vL, vF]) ∧ w'.ownsRow w.heap.size 9 1 vL ls.length (ls.map Value.string) ∧ OwnF w.heap.size w' vF fs ss ∧ Aside ss) ∨ (o = none ∧ e = PX ea))
theorem stepv_calls {P : Program} {ops : Array Oper} {o : Oper} {a : Act} {w : World} {K : Act → World → Prop} {Q : Exit → Act → World → Prop} {E : Prop} (hgd : o.guard = none) {f : FuncId} {args : Array Value} {post : Value → World → Prop}
    (hx : (execOp a.eval o).run P w = .ok (.enter f args) w) (hC : Calls P f args w fun e w' => ∃ v, e = .returned v ∧ post v w') (hK : ∀ v w', post v w' → K (a.put o.dst v) w') : if Region.wanted o (yielded ops a.tmps) = true then Oper.wp P o a w K Q else E := by
  have hw : Region.wanted o (yielded ops a.tmps) = true := by simp [Region.wanted, hgd]
  rw [if_pos hw]
  unfold Oper.wp
  rw [hx, Oper.upon_enter]
  refine hC.mono ?_
  rintro e w' ⟨v, rfl, h⟩
  exact hK v w' h
theorem Sr.formIs {b : Nat} {ea : Addr} {W w : World} {s : ByteArray} (H : Sr b ea W w s) (hs : s.size ≤ 1099511627776) {f : Frm} {r : List UInt8} (hi : frmR s.data.toList = some (f, r)) :
    Calls Tryd.prog 41 #[ptr b] w fun e w' => ∃ v, e = .returned v ∧ ∃ oa cap, v = .agg #[.string f.act, .slice oa f.ins.length cap, .string f.but] ∧ Kr b w w' ∧ Sr b ea W w' ⟨r.toArray⟩ ∧ w'.ownsRow w.heap.size 28 4 (.slice oa f.ins.length cap) f.ins.length (ic f.ins) := by
  refine (form_any b s ea w hs H.rr H.env).mono ?_
  rintro e w' ⟨hk, ⟨f', r', v, h1, h2, h3, h4⟩ | ⟨h1, _⟩⟩
  · rw [hi] at h1
    injection h1 with h1
    injection h1 with h5 h6
    subst h5; subst h6
    obtain ⟨oa, cap, rfl⟩ := form_w h4
    refine ⟨_, h2, oa, cap, rfl, hk, H.next hk h3 ?_, h4⟩
    have := frmR_len hi
    rwa [len_list, len_list] at this
  · rw [hi] at h1; cases h1
theorem Sr.formBad {b : Nat} {ea : Addr} {W w : World} {s : ByteArray} (H : Sr b ea W w s) (hs : s.size ≤ 1099511627776) (hi : frmR s.data.toList = none) :
    Calls Tryd.prog 41 #[ptr b] w fun e w' => e = PX ea ∧ Kr b W w' := by
  refine (form_any b s ea w hs H.rr H.env).mono ?_
  rintro e w' ⟨hk, ⟨f', r', v, h1, h2, h3, h4⟩ | ⟨h1, h2⟩⟩
  · rw [hi] at h1; cases h1
  · exact ⟨h2, H.kr.trans hk⟩
theorem OwnF.kr {b base : Nat} {w w' : World} {v : Value} {l : List Frm} {s : List Value} (h : OwnF base w v l s) (hk : Kr b w w') (hb : b < base) : OwnF base w' v l s :=
  ⟨h.len, own_kr h.row hk hb, fun i hi => own_kr (h.each i hi) hk hb⟩
theorem OwnF.lower {base base' : Nat} {w : World} {v : Value} {l : List Frm} {s : List Value} (h : OwnF base w v l s) (hb : base' ≤ base) : OwnF base' w v l s :=
  ⟨h.len, own_low h.row hb, fun i hi => own_low (h.each i hi) hb⟩
theorem OwnF.nil (base : Nat) (w : World) : OwnF base w (.slice none 0 0) [] [] := ⟨rfl, World.ownsRow_nil _ _ _ _, fun _ hi => absurd hi (Nat.not_lt_zero _)⟩
theorem Aside.snoc {base : Nat} {w w' : World} {e e' : TypeId} {z z' n' : Nat} {v : Value} {xs' : List Value} {s : List Value} (h : Aside s) (hs : ∀ i (hi : i < s.length), ∃ n xs, w.ownsRow base e z s[i] n xs) (hv : w'.ownsRow w.heap.size e' z' v n' xs') : Aside (s ++ [v]) := by
  unfold Aside at h ⊢
  rw [List.pairwise_append]
  refine ⟨h, List.pairwise_singleton _ _, fun u hu x hx => ?_⟩
  rw [List.mem_singleton] at hx
  subst hx
  obtain ⟨i, hi, rfl⟩ := List.mem_iff_getElem.1 hu
  obtain ⟨n, xs, ho⟩ := hs i hi
  cases hb : s[i].ownBlock with
  | none => exact Or.inl rfl
  | some g =>
    refine Or.inr fun e => ?_
    have h1 := ho.lt g hb
    have h2 := hv.lt g e.symm
    omega
theorem ba_ext' {x y : ByteArray} (h : x.data.toList = y.data.toList) : x = y := by apply ByteArray.ext; apply Array.toList_inj.1; exact h
theorem ne_list' {x y : ByteArray} (h : x ≠ y) : (x.toList == y.toList) = false := by
  rw [ByteArray.toList_eq, ByteArray.toList_eq]
  exact beq_false_of_ne fun e => h (ba_ext' e)
theorem size_mk (l : List UInt8) : (ByteArray.mk l.toArray).size = l.length := by simp [ByteArray.size]
abbrev cP : Obj := .cells #[.string ⟨#[]⟩, .slice none 0 0, .slice none 0 0] 25
theorem pageRd_A (s : List UInt8) : pageRd s = (skp mPageHead.data.toList s).bind fun r => (txtL 60 r).bind fun t => (skp mPageTitle.data.toList t.2).bind fun r => (txtL 60 r).bind fun u => if u.1.data.toList = t.1.data.toList then (skp mPageBody.data.toList u.2).bind fun r => (linA r).bind fun l => (frmA l.2).bind fun f => (skp mPageEnd.data.toList f.2).bind fun r => if r = [] then some (t.1, l.1, f.1) else none else none := rfl

set_option maxRecDepth 100000 in
set_option maxHeartbeats 3200000 in
theorem rpage_any (b : Nat) (s : ByteArray) (ea : Addr) (w : World) (hs : s.size ≤ 1099511627776) (h : Rr w b s) (he : REnv w b ea) :
    Calls Tryd.prog 19 #[ptr b] w fun e w' => PPost b ea w (pageRd s.data.toList) e w' := by
  have H0 := ((Sr.start (by omega) h he).alloc cP).alloc cP
  have hP := (at_new (w.alloc cP) cP)
  have hF : ((w.alloc cP).alloc cP).heap[w.heap.size]? = some cP := (((Below.refl _ (w.alloc cP)).alloc (Nat.le_refl _) cP).block w.heap.size (by show _ < (w.heap.push _).size; simp)).trans (at_new w cP)
  have hz : (w.alloc cP).heap.size = w.heap.size + 1 := by show (w.heap.push _).size = _; simp
  rw [hz] at hP
  have hbl := h.lt
  have HL := hide (H0.must mPageHead)
  have HP := hide hF
  have HF := hide hP
  have hPb : w.heap.size ≠ b := by omega
  have hFb : w.heap.size + 1 ≠ b := by omega
  clear h he hF hP H0 hz
  go_enter Tryd.func19, Tryd.ntmps19
  go_wp2_with fail
  generalize (w.alloc cP).alloc cP = W at *
  refine HL.out.mono ?_
  rintro e w0 ⟨k0, ⟨r0, g0, rfl, S0⟩ | ⟨g0, rfl, k0'⟩⟩
  · have G0 : Hid (pageRd s.data.toList = (txtL 60 r0.data.toList).bind fun t => (skp mPageTitle.data.toList t.2).bind fun r => (txtL 60 r).bind fun u => if u.1.data.toList = t.1.data.toList then (skp mPageBody.data.toList u.2).bind fun r => (linA r).bind fun l => (frmA l.2).bind fun f => (skp mPageEnd.data.toList f.2).bind fun r => if r = [] then some (t.1, l.1, f.1) else none else none) := by
      show _ = _
      rw [pageRd_A, g0, Option.bind_some]
    have hsz0 : r0.size ≤ 1099511627776 := by have := skp_len g0; rw [len_list, len_list] at this; omega
    have HP0 := hide (k0.at HP.out hPb)
    have HF0 := hide (k0.at HF.out hFb)
    have HT := hide (S0.text 60)
    clear g0 k0 S0 HL HP HF hs
    go_wp2_with fail
    refine HT.out.mono ?_
    rintro e w1 ⟨k1, ⟨t, r1, g1, rfl, S1⟩ | ⟨g1, rfl, k1'⟩⟩
    · have G1 : Hid (pageRd s.data.toList = (skp mPageTitle.data.toList r1.data.toList).bind fun r => (txtL 60 r).bind fun u => if u.1.data.toList = t.data.toList then (skp mPageBody.data.toList u.2).bind fun r => (linA r).bind fun l => (frmA l.2).bind fun f => (skp mPageEnd.data.toList f.2).bind fun r => if r = [] then some (t, l.1, f.1) else none else none) := by
        show _ = _
        rw [G0.out, g1, Option.bind_some]
      have hF1 := k1.at HF0.out hFb
      have S2 := S1.cell ⟨w.heap.size + 1, 0, none⟩ (.string t) (Nat.le_succ _)
      have HP1 : Hid ((w1.setCell ⟨w.heap.size + 1, 0, none⟩ (.string t)).heap[w.heap.size]? = some cP) := (Below.heap_setCell _ _ _ _ (by show w.heap.size ≠ w.heap.size + 1; omega)).trans (k1.at HP0.out hPb)
      have HF1 := hide (set3a hF1 (.string t))
      have HM := hide (S2.must mPageTitle)
      have hsz1 : r1.size ≤ 1099511627776 := by have := len_of (txtL_is g1).1; rw [len_list, len_list] at this; omega
      obtain ⟨q0, _, _, y0, _, _⟩ := three_cells hF1
      clear g1 k1 S1 HP0 HF0 S2 hF1 G0 hsz0 HT
      go_wp2_with fail
      clear q0 y0
      generalize w1.setCell ⟨w.heap.size + 1, 0, none⟩ (.string t) = W1 at *
      refine HM.out.mono ?_
      rintro e w2 ⟨k2, ⟨r2, g2, rfl, S2⟩ | ⟨g2, rfl, k2'⟩⟩
      · have hsz2 : r2.size ≤ 1099511627776 := by have := skp_len g2; rw [len_list, len_list] at this; omega
        have hF2 := k2.at HF1.out hFb
        have HP2 := hide (k2.at HP1.out hPb)
        have HF2 := hide hF2
        obtain ⟨q0, _, _, _, _, _⟩ := three_cells hF2
        cases hu : txtL 60 r2.data.toList with
        | none =>
          have HC := hide (S2.drew.textBad hu)
          have G : Hid (pageRd s.data.toList = none) := by
            show _ = _
            rw [G1.out, g2, Option.bind_some, hu]
            rfl
          clear g2 hu k2 S2 hF2 HP1 HF1 HM HP2 HF2 G1
          go_wp2_with fail
          refine wp_region_any (by kernel_rfl) ?_
          change wpAny _ _ _ _ _ _ _ (World.drew _)
          refine wpAny_take (i := 0) (v := ptr b) rfl (by kernel_rfl) (by kernel_rfl) (by kernel_rfl) (fun _ _ _ h => h) (Or.inl ⟨by rfl, by intro w; go_simp⟩) ?_
          refine wpAny_take (i := 2) (v := .pointer (some ⟨w.heap.size + 1, 0, none⟩)) rfl (by kernel_rfl) (by kernel_rfl) (by kernel_rfl) (fun _ _ _ h => h) (Or.inl ⟨by rfl, by intro w; go_simp⟩) ?_
          refine wpAny_ready (rs := [1, 3]) (by kernel_rfl) (by simp) ?_
          refine AllReady.cons rfl (fun K hK => ?_) (AllReady.cons rfl (fun K hK => ?_) AllReady.nil)
          · refine step_panics (by rfl) (by simp [go_sem]) HC.out ?_
            exact fun w4 hk => ⟨rfl, hk, Or.inr ⟨G.out, rfl⟩⟩
          · go_simp
            refine hK _ _ ?_
            clear hK K
            refine wpAny_ready (rs := [1]) (by kernel_rfl) (by simp) ?_
            refine AllReady.cons rfl (fun K hK => ?_) AllReady.nil
            refine step_panics (by rfl) (by simp [go_sem]) HC.out ?_
            exact fun w4 hk => ⟨rfl, hk, Or.inr ⟨G.out, rfl⟩⟩
        | some p =>
          obtain ⟨u, q⟩ := p
          have HC := hide (S2.drew.textIs hu)
          have G2 : Hid (pageRd s.data.toList = if u.data.toList = t.data.toList then (skp mPageBody.data.toList q).bind fun r => (linA r).bind fun l => (frmA l.2).bind fun f => (skp mPageEnd.data.toList f.2).bind fun r => if r = [] then some (t, l.1, f.1) else none else none) := by
            show _ = _
            rw [G1.out, g2, Option.bind_some, hu, Option.bind_some]
          have HQ : Hid (q.length ≤ 1099511627776) := by have := len_of (txtL_is hu).1; rw [len_list] at this; show _ ≤ _; omega
          clear g2 hu k2 S2 hF2 HP1 HF1 HM G1
          go_wp2_with fail
          by_cases hut : u = t
          · subst hut
            go_region_law (refine step_calls (by rfl) (by simp [go_sem]) HC.out ?_; rintro w3 ⟨k3, S3⟩; have hF3 := k3.undrew.at HF2.out hFb; obtain ⟨q0', _, _, _, _, _⟩ := three_cells hF3; have HF3 := hide hF3; have HP3 := hide (k3.undrew.at HP2.out hPb); have HS3 := hide S3; clear hF3 k3 S3)
            all_goals
              have G3 : Hid (pageRd s.data.toList = (skp mPageBody.data.toList q).bind fun r => (linA r).bind fun l => (frmA l.2).bind fun f => (skp mPageEnd.data.toList f.2).bind fun r => if r = [] then some (u, l.1, f.1) else none) := by
                show _ = _
                rw [G2.out, if_pos rfl]
              have HM := hide (HS3.out.must mPageBody)
              clear G2 q0 HC HF2 HP2 HS3
              go_wp2_with fail
              refine HM.out.mono ?_
              rintro e w4 ⟨k4, ⟨r4, g4, rfl, S4⟩ | ⟨g4, rfl, k4'⟩⟩
              · have G4 : Hid (pageRd s.data.toList = (linA r4.data.toList).bind fun l => (frmA l.2).bind fun f => (skp mPageEnd.data.toList f.2).bind fun r => if r = [] then some (u, l.1, f.1) else none) := by
                  show _ = _
                  rw [G3.out]
                  change skp mPageBody.data.toList q = _ at g4
                  rw [g4, Option.bind_some]
                have hsz4 : r4.size ≤ 1099511627776 := by
                  change skp mPageBody.data.toList q = _ at g4
                  have h1 := skp_len g4
                  have h2 := HQ.out
                  rw [len_list] at h1
                  omega
                have HP4 := hide (k4.at HP3.out hPb)
                have HF4 := hide (k4.at HF3.out hFb)
                have HS4 := hide S4
                clear g4 k4 S4 HM HP3 HF3 G3 hsz1 hsz2
                go_wp2
                go_loopw [] (fun wr => ∃ (r : ByteArray) (v : Value) (l : List ByteArray), Hid (Sr b ea w wr r) ∧ Hid (wr.heap[w.heap.size]? = some cP) ∧ Hid (wr.heap[w.heap.size + 1]? = some (.cells #[.string u, v, .slice none 0 0] 25)) ∧ Hid (wr.ownsRow (w.heap.size + 2) 9 1 v l.length (l.map Value.string)) ∧ Hid (LeftL r4.data.toList r.data.toList l) ∧ Hid (l.length + r.size ≤ 1099511627776)) (fun wr => left wr b)
                case atStart => exact ⟨r4, .slice none 0 0, [], HS4, HP4, HF4, hide (World.ownsRow_nil _ _ _ _), hide (LeftL.start _), hide (by simpa using hsz4)⟩
                case round =>
                  obtain ⟨r, v, l, HS, HP, HF, HO, HLf, HN⟩ := hrel
                  have HK := hide (HS.out.skip mLineHead)
                  clear HS4 HP4 HF4 hsz4
                  go_wp2_with fail
                  refine HK.out.mono ?_
                  rintro e w5 ⟨k5, ⟨r5, g5, rfl, S5⟩ | ⟨g5, rfl, S5⟩⟩
                  · have HF5 := hide (k5.at HF.out hFb)
                    have HP5 := hide (k5.at HP.out hPb)
                    have HO5 := hide (own_kr HO.out k5 (by omega))
                    have hsz5 : r5.size + 3 = r.size := by have := skp_len g5; rw [len_list, len_list] at this; exact this
                    obtain ⟨_, q1, _, _, _, _⟩ := three_cells HF5.out
                    cases ht : txtL 60 r5.data.toList with
                    | none =>
                      have HC := hide (S5.drew.textBad ht)
                      have G : Hid (pageRd s.data.toList = none) := by
                        show _ = _
                        rw [G4.out, HLf.out.bad (linA_bad1 g5 ht)]
                        rfl
                      clear g5 ht k5 S5 HK HF HP HO HLf
                      go_wp2_with fail
                      refine wp_region_any (by kernel_rfl) ?_
                      change wpAny _ _ _ _ _ _ _ (World.drew _)
                      refine wpAny_take (i := 0) (v := .pointer (some ⟨w.heap.size + 1, 1, none⟩)) rfl (by kernel_rfl) (by kernel_rfl) (by kernel_rfl) (fun _ _ _ h => h) (Or.inl ⟨by rfl, by intro w; go_simp⟩) ?_
                      refine wpAny_take (i := 2) (v := ptr b) rfl (by kernel_rfl) (by kernel_rfl) (by kernel_rfl) (fun _ _ _ h => h) (Or.inl ⟨by rfl, by intro w; go_simp⟩) ?_
                      refine wpAny_ready (rs := [1, 3]) (by kernel_rfl) (by simp) ?_
                      refine AllReady.cons rfl (fun K hK => ?_) (AllReady.cons rfl (fun K hK => ?_) AllReady.nil)
                      · go_simp
                        refine hK _ _ ?_
                        clear hK K
                        refine wpAny_ready (rs := [3]) (by kernel_rfl) (by simp) ?_
                        refine AllReady.cons rfl (fun K hK => ?_) AllReady.nil
                        refine step_panics (by rfl) (by simp [go_sem]) HC.out ?_
                        exact fun w4 hk => ⟨rfl, hk, Or.inr ⟨G.out, rfl⟩⟩
                      · refine step_panics (by rfl) (by simp [go_sem]) HC.out ?_
                        exact fun w4 hk => ⟨rfl, hk, Or.inr ⟨G.out, rfl⟩⟩
                    | some p =>
                      obtain ⟨x, q6⟩ := p
                      have HC := hide (S5.drew.textIs ht)
                      have HG5 := hide g5
                      have HT5 := hide ht
                      have HQ6 : Hid (q6.length ≤ r5.size) := by have := len_of (txtL_is ht).1; rw [len_list] at this; exact this
                      have HIA : Hid ((l ++ [x]).map Value.string = l.map Value.string ++ [.string x]) := by show _ = _; rw [List.map_append]; rfl
                      have HWS : Hid (w.heap.size + 2 ≤ w5.heap.size) := (Array.getElem?_eq_some_iff.1 HF5.out).1
                      clear g5 ht k5 S5 HK HF HP HO
                      obtain ⟨i0, hi, hz0, hz1, hz2⟩ := info_parts infoS
                      go_wp2_with fail
                      go_region_law (first
                        | (refine step_calls (by rfl) (by simp [go_sem]) HC.out ?_; rintro w6 ⟨k6, S6⟩; have hF6 := k6.undrew.at HF5.out hFb; obtain ⟨_, q1', _, _, y1', _⟩ := three_cells hF6; have q1'' : (w6.alloc (.cells #[.string x] 9)).cell? ⟨w.heap.size + 1, 1, none⟩ = some v := (three_cells ((Below.heap_alloc w6 _ _ (Array.getElem?_eq_some_iff.1 hF6).1).trans hF6)).2.1; have HF6 := hide hF6; have HP6 := hide (k6.undrew.at HP5.out hPb); have HO6 := hide (own_kr HO5.out k6.undrew (by omega)); have HS6 := hide S6; have HW6 := hide k6.size; clear hF6 k6 S6)
                        | (refine step_append_lies _ (by rfl) _ _ _ (by rfl) (w.heap.size + 2) 9 i0 _ 1 16 Tryd.underlying22 hi hz0 hz1 hz2 rfl (by omega) v l.length _ (by rfl) (HO6.out.alloc _) ⟨w6.heap.size, 0, none⟩ 1 1 [.string x] (by rfl) (by rfl) (World.news_of_block (cs := #[.string x]) (t := 9) (fr := (0, 0)) (heap_alloc_new w6 _)) (by simp [Value.oneCell']) (by omega) (by unfold maxLen; have := HN.out; omega) (by have := HN.out; omega) (by have h1 := HWS.out; have h2 : w5.heap.size ≤ w6.heap.size := HW6.out; simp; omega) (w6.heap.size + 1) (by simp) ?_; intro gg cap w7 hown7 hgrow7 hat7 hlt7; have hL7 := grown_low HO6.out (by have h1 := HWS.out; have h2 : w5.heap.size ≤ w6.heap.size := HW6.out; omega) hgrow7; have hF7 := (hL7.block (w.heap.size + 1) (by omega)).trans HF6.out; obtain ⟨_, q7, _, _, y7, _⟩ := three_cells hF7; have HF7 := hide hF7; have HP7 := hide ((hL7.block w.heap.size (by omega)).trans HP6.out); have HS7 := hide (HS6.out.low hL7 (by omega)); have HO7 := hide hown7; clear hL7 hown7 hgrow7 hat7 hlt7 hF7))
                      all_goals
                        have hS8 := HS7.out.cell ⟨w.heap.size + 1, 1, none⟩ (.slice (some ⟨gg, 0, none⟩) (l.length + 1) cap) (Nat.le_succ _)
                        have HP8 : Hid ((w7.setCell ⟨w.heap.size + 1, 1, none⟩ (.slice (some ⟨gg, 0, none⟩) (l.length + 1) cap)).heap[w.heap.size]? = some cP) := (Below.heap_setCell _ _ _ _ (by show w.heap.size ≠ w.heap.size + 1; omega)).trans HP7.out
                        have HF8 := hide (set3 HF7.out (.slice (some ⟨gg, 0, none⟩) (l.length + 1) cap)).1
                        have HO8 : Hid ((w7.setCell ⟨w.heap.size + 1, 1, none⟩ (.slice (some ⟨gg, 0, none⟩) (l.length + 1) cap)).ownsRow (w.heap.size + 2) 9 1 (.slice (some ⟨gg, 0, none⟩) (l.length + 1) cap) (l ++ [x]).length ((l ++ [x]).map Value.string)) := by
                          show World.ownsRow _ _ _ _ _ _ _
                          rw [HIA.out, List.length_append]
                          exact own_off HO7.out _ _ (Or.inl (by show w.heap.size + 1 < w.heap.size + 2; omega))
                        have HM := hide (hS8.must mLineEnd)
                        clear hS8 HC HF5 HP5 HO5 HF6 HP6 HO6 HS6 HF7 HP7 HS7 HO7 q1 q1' q1''
                        go_wp2_with fail
                        clear q7 y7 y1'
                        generalize w7.setCell ⟨w.heap.size + 1, 1, none⟩ (.slice (some ⟨gg, 0, none⟩) (l.length + 1) cap) = W7 at *
                        refine HM.out.mono ?_
                        rintro e w9 ⟨k9, ⟨r9, g9, rfl, S9⟩ | ⟨g9, rfl, k9'⟩⟩
                        · have HQ9 := hide (HLf.out.next HG5.out HT5.out g9)
                          have hsz9 : r9.size ≤ q6.length := by
                            change skp mLineEnd.data.toList q6 = _ at g9
                            have := skp_len g9; rw [len_list] at this; omega
                          have HS9 := hide S9
                          have HP9 := hide (k9.at HP8.out hPb)
                          have HF9 := hide (k9.at HF8.out hFb)
                          have HO9 := hide (own_kr HO8.out k9 (by omega))
                          have HZ9 : Hid (r9.size + 3 ≤ r.size) := by have := HQ6.out; show _ ≤ _; omega
                          clear g9 k9 S9 HM HP8 HF8 HO8 hsz9 hsz5
                          go_wp2
                          go_roundw
                          case rel => exact ⟨r9, _, l ++ [x], HS9, HP9, HF9, HO9, HQ9, hide (by
                            have h1 := HZ9.out
                            have h2 := HN.out
                            rw [List.length_append]
                            simp only [List.length_singleton]
                            omega)⟩
                          case measure =>
                            rw [HS9.out.rr.left, HS.out.rr.left]
                            have := HZ9.out
                            omega
                        · have G : Hid (pageRd s.data.toList = none) := by
                            show _ = _
                            rw [G4.out, HLf.out.bad (linA_bad2 HG5.out HT5.out g9)]
                            rfl
                          have K := hide k9'
                          clear g9 k9 k9'
                          go_wp2
                          exact ⟨rfl, K.out, Or.inr ⟨G.out, rfl⟩⟩
                  · have G5 : Hid (pageRd s.data.toList = (frmA r.data.toList).bind fun f => (skp mPageEnd.data.toList f.2).bind fun r => if r = [] then some (u, l, f.1) else none) := by
                      show _ = _
                      rw [G4.out, HLf.out.done g5]
                      rfl
                    have HF5 := hide (k5.at HF.out hFb)
                    have HP5 := hide (k5.at HP.out hPb)
                    have HO5 := hide (own_kr HO.out k5 (by omega))
                    have HS5 := hide S5
                    have hN5 : r.size ≤ 1099511627776 := by have := HN.out; omega
                    clear g5 k5 S5 HK HF HP HO HLf G4 HS HN
                    go_wp2
                    go_loopw [] (fun wr => ∃ (r' : ByteArray) (v2 : Value) (fs : List Frm) (ss : List Value), Hid (Sr b ea w wr r') ∧ Hid (wr.heap[w.heap.size]? = some cP) ∧ Hid (wr.heap[w.heap.size + 1]? = some (.cells #[.string u, v, v2] 25)) ∧ Hid (wr.ownsRow (w.heap.size + 2) 9 1 v l.length (l.map Value.string)) ∧ Hid (OwnF (w.heap.size + 2) wr v2 fs ss) ∧ Hid (Aside ss) ∧ Hid (LeftF r.data.toList r'.data.toList fs) ∧ Hid (fs.length + r'.size ≤ 1099511627776)) (fun wr => left wr b)
                    case atStart => exact ⟨r, .slice none 0 0, [], [], HS5, HP5, HF5, HO5, hide (OwnF.nil _ _), hide List.Pairwise.nil, hide (LeftF.start _), hide (by simpa using hN5)⟩
                    case round =>
                      obtain ⟨r', v2, fs, ss, HS, HP, HF, HO, HOF, HA, HLf, HN⟩ := hrel
                      have HK := hide (HS.out.skip mFormHead)
                      clear HS5 HP5 HF5 HO5 hN5
                      go_wp2_with fail
                      refine HK.out.mono ?_
                      rintro e w6 ⟨k6, ⟨r7, g7, rfl, S7⟩ | ⟨g7, rfl, S7⟩⟩
                      · have HF7 := hide (k6.at HF.out hFb)
                        have HP7 := hide (k6.at HP.out hPb)
                        have HO7 := hide (own_kr HO.out k6 (by omega))
                        have HOF7 := hide (HOF.out.kr k6 (by omega))
                        have hsz7 : r7.size + 28 = r'.size := by have := skp_len g7; rw [len_list, len_list] at this; exact this
                        have hm7 : r7.size ≤ 1099511627776 := by have := HN.out; omega
                        obtain ⟨_, _, q1, _, _, _⟩ := three_cells HF7.out
                        cases ht : frmR r7.data.toList with
                        | none =>
                          have HC := hide (S7.drew.formBad hm7 ht)
                          have G : Hid (pageRd s.data.toList = none) := by
                            show _ = _
                            rw [G5.out, HLf.out.bad (frmA_bad g7 ht)]
                            rfl
                          clear g7 ht k6 S7 HK HF HP HO HOF HLf
                          go_wp2_with fail
                          refine wp_region_any (by kernel_rfl) ?_
                          change wpAny _ _ _ _ _ _ _ (World.drew _)
                          refine wpAny_take (i := 0) (v := .pointer (some ⟨w.heap.size + 1, 2, none⟩)) rfl (by kernel_rfl) (by kernel_rfl) (by kernel_rfl) (fun _ _ _ h => h) (Or.inl ⟨by rfl, by intro w; go_simp⟩) ?_
                          refine wpAny_take (i := 2) (v := ptr b) rfl (by kernel_rfl) (by kernel_rfl) (by kernel_rfl) (fun _ _ _ h => h) (Or.inl ⟨by rfl, by intro w; go_simp⟩) ?_
                          refine wpAny_ready (rs := [1, 3]) (by kernel_rfl) (by simp) ?_
                          refine AllReady.cons rfl (fun K hK => ?_) (AllReady.cons rfl (fun K hK => ?_) AllReady.nil)
                          · go_simp
                            refine hK _ _ ?_
                            clear hK K
                            refine wpAny_ready (rs := [3]) (by kernel_rfl) (by simp) ?_
                            refine AllReady.cons rfl (fun K hK => ?_) AllReady.nil
                            refine step_panics (by rfl) (by simp [go_sem]) HC.out ?_
                            exact fun w4 hk => ⟨rfl, hk, Or.inr ⟨G.out, rfl⟩⟩
                          · refine step_panics (by rfl) (by simp [go_sem]) HC.out ?_
                            exact fun w4 hk => ⟨rfl, hk, Or.inr ⟨G.out, rfl⟩⟩
                        | some p =>
                          obtain ⟨x, q8⟩ := p
                          have HC := hide (S7.drew.formIs hm7 ht)
                          have HQ := hide (HLf.out.next g7 ht)
                          have HQ8 : Hid (q8.length ≤ r7.size) := by have := frmR_len ht; rw [len_list] at this; exact this
                          have HWS : Hid (w.heap.size + 2 ≤ w6.heap.size) := (Array.getElem?_eq_some_iff.1 HF7.out).1
                          clear g7 ht k6 S7 HK HF HP HO HOF HLf
                          obtain ⟨i0, hi, hz0, hz1, hz2⟩ := info_parts infoF
                          go_wp2_with fail
                          go_region_law (first
                            | (refine stepv_calls (by rfl) (by simp [go_sem]) HC.out ?_; rintro vv w8 ⟨oa, cp, rfl, k8, S8, hR8⟩; have hF8 := k8.undrew.at HF7.out hFb; obtain ⟨_, _, q1', _, _, y1'⟩ := three_cells hF8; have q1'' : (w8.alloc (.cells #[.string x.act, .slice oa x.ins.length cp, .string x.but] 31)).cell? ⟨w.heap.size + 1, 2, none⟩ = some v2 := (three_cells ((Below.heap_alloc w8 _ _ (Array.getElem?_eq_some_iff.1 hF8).1).trans hF8)).2.2.1; have HF8 := hide hF8; have HP8 := hide (k8.undrew.at HP7.out hPb); have HO8 := hide (own_kr HO7.out k8.undrew (by omega)); have HOF8 := hide (HOF7.out.kr k8.undrew (by omega)); have HA8 := hide (HA.out.snoc (w := w6) (e := 28) (z := 4) (fun i hi => ⟨_, _, HOF7.out.each i hi⟩) hR8); have HR8 := hide hR8; have HS8 := hide S8; have HW8 := hide k8.size; clear hF8 k8 S8 hR8)
                            | (refine step_append_lies _ (by rfl) _ _ _ (by rfl) (w.heap.size + 2) 31 i0 _ 3 56 Tryd.underlying23 hi hz0 hz1 hz2 rfl (by omega) v2 fs.length _ (by rfl) (HOF8.out.row.alloc _) ⟨w8.heap.size, 0, none⟩ 1 1 [.string x.act, .slice oa x.ins.length cp, .string x.but] (by rfl) (by rfl) (World.news_of_block (cs := #[.string x.act, .slice oa x.ins.length cp, .string x.but]) (t := 31) (fr := (0, 0)) (heap_alloc_new w8 _)) (by simp [Value.oneCell']) (by omega) (by unfold maxLen; have := HN.out; omega) (by have := HN.out; omega) (by have h1 := HWS.out; have h2 : w6.heap.size ≤ w8.heap.size := HW8.out; simp; omega) (w8.heap.size + 1) (by simp) ?_; intro gg cap w9 hown9 hgrow9 hat9 hlt9; have hL9 := grown_low HOF8.out.row (by have h1 := HWS.out; have h2 : w6.heap.size ≤ w8.heap.size := HW8.out; omega) hgrow9; have hF9 := (hL9.block (w.heap.size + 1) (by omega)).trans HF8.out; obtain ⟨_, _, q9, _, _, y9⟩ := three_cells hF9; have HF9 := hide hF9; have HP9 := hide ((hL9.block w.heap.size (by omega)).trans HP8.out); have HS9 := hide (HS8.out.low hL9 (by omega)); have HO9 := hide ((HO8.out.alloc _).kept hgrow9 (rows_ne (by decide) HO8.out HOF8.out.row)); have HOF9 := hide (ownF_snoc (f := x) HOF8.out.len hown9 (fun i h => ((HOF8.out.each i h).alloc _).kept hgrow9 (rows_ne (by decide) (HOF8.out.each i h) HOF8.out.row)) (own_low ((HR8.out.alloc _).kept hgrow9 (rows_ne (by decide) HR8.out HOF8.out.row)) HWS.out)); clear hL9 hown9 hgrow9 hat9 hlt9 hF9))
                          all_goals
                            have HS10 := hide (HS9.out.cell ⟨w.heap.size + 1, 2, none⟩ (.slice (some ⟨gg, 0, none⟩) (fs.length + 1) cap) (Nat.le_succ _))
                            have HP10 : Hid ((w9.setCell ⟨w.heap.size + 1, 2, none⟩ (.slice (some ⟨gg, 0, none⟩) (fs.length + 1) cap)).heap[w.heap.size]? = some cP) := (Below.heap_setCell _ _ _ _ (by show w.heap.size ≠ w.heap.size + 1; omega)).trans HP9.out
                            have HF10 := hide (set3 HF9.out (.slice (some ⟨gg, 0, none⟩) (fs.length + 1) cap)).2
                            have HO10 := hide (own_off HO9.out ⟨w.heap.size + 1, 2, none⟩ (.slice (some ⟨gg, 0, none⟩) (fs.length + 1) cap) (Or.inl (by show w.heap.size + 1 < w.heap.size + 2; omega)))
                            have HOF10 := hide (HOF9.out.off ⟨w.heap.size + 1, 2, none⟩ (.slice (some ⟨gg, 0, none⟩) (fs.length + 1) cap) (Or.inl (by show w.heap.size + 1 < w.heap.size + 2; omega)))
                            go_wp2
                            go_roundw
                            case rel => exact ⟨⟨q8.toArray⟩, _, fs ++ [x], _, HS10, HP10, HF10, HO10, HOF10, HA8, HQ, hide (by
                              have h1 := HQ8.out
                              have h2 := HN.out
                              rw [size_mk, List.length_append]
                              simp only [List.length_singleton]
                              omega)⟩
                            case measure =>
                              rw [HS10.out.rr.left, HS.out.rr.left, size_mk]
                              have := HQ8.out
                              omega
                      · have G7 : Hid (pageRd s.data.toList = (skp mPageEnd.data.toList r'.data.toList).bind fun r => if r = [] then some (u, l, fs) else none) := by
                          show _ = _
                          rw [G5.out, HLf.out.done g7]
                          rfl
                        have HF7 := hide (k6.at HF.out hFb)
                        have HP7 := hide (k6.at HP.out hPb)
                        have HO7 := hide (own_kr HO.out k6 (by omega))
                        have HOF7 := hide (HOF.out.kr k6 (by omega))
                        have HM := hide (S7.must mPageEnd)
                        clear g7 k6 S7 HK HF HP HO HOF HLf G5 HS HN
                        go_wp2_with fail
                        refine HM.out.mono ?_
                        rintro e w8 ⟨k8, ⟨r8, g8, rfl, S8⟩ | ⟨g8, rfl, k8'⟩⟩
                        · have hR8 : w8.heap[b]? = some (.cells #[.string r8] 61) := S8.rr
                          have c0 : w8.cell? ⟨b, 0, none⟩ = some (.string r8) := by simp [World.cell?, hR8]
                          have ce : w8.cell? ⟨1, 0, none⟩ = some (X ea) := S8.env.txt
                          have hF8 := k8.at HF7.out hFb
                          have hP8 := k8.at HP7.out hPb
                          have HO8 := hide (own_kr HO7.out k8 (by omega))
                          have HOF8 := hide (HOF7.out.kr k8 (by omega))
                          obtain ⟨en, hen⟩ : ∃ en, r8.toList.isEmpty = en := ⟨_, rfl⟩
                          cases en with
                          | true =>
                            have G8 : Hid (pageRd s.data.toList = some (u, l, fs)) := by
                              show _ = _
                              rw [G7.out, g8, Option.bind_some, if_pos (by rw [← ByteArray.toList_eq]; exact List.isEmpty_iff.1 hen)]
                            have S9 := hide (((S8.cell ⟨w.heap.size, 0, none⟩ (.string u) (Nat.le_refl _)).cell ⟨w.heap.size, 1, none⟩ v (Nat.le_refl _)).cell ⟨w.heap.size, 2, none⟩ v2 (Nat.le_refl _))
                            have HP9 := hide hP8
                            obtain ⟨oa, cap, rfl⟩ := form_w HO8.out
                            obtain ⟨ob, cab, rfl⟩ := form_w HOF8.out.row
                            obtain ⟨q0, q1, q2, y0, y1, y2⟩ := three_cells hP8
                            obtain ⟨p0, p1, p2, _, _, _⟩ := three_cells hF8
                            clear hP8 hF8 k8 g8 S8 HM HF7 HP7 HO7 HOF7 G7 hR8
                            go_wp2
                            have hlo : w.heap.size < w.heap.size + 2 := by omega
                            have HOP := own_low (own_off (own_off (own_off HO8.out ⟨w.heap.size, 0, none⟩ (.string u) (Or.inl hlo)) ⟨w.heap.size, 1, none⟩ (.slice oa l.length cap) (Or.inl hlo)) ⟨w.heap.size, 2, none⟩ (.slice ob fs.length cab) (Or.inl hlo)) (base' := w.heap.size) (by omega)
                            have HOQ := (((HOF8.out.off ⟨w.heap.size, 0, none⟩ (.string u) (Or.inl hlo)).off ⟨w.heap.size, 1, none⟩ (.slice oa l.length cap) (Or.inl hlo)).off ⟨w.heap.size, 2, none⟩ (.slice ob fs.length cab) (Or.inl hlo)).lower (base' := w.heap.size) (by omega)
                            refine bodyPost_ret (results_c rfl _ rfl (range3 (set_three HP9.out (.string u) (.slice oa l.length cap) (.slice ob fs.length cab))) Tryd.underlying25 rfl sizePg) rfl ?_
                            exact ⟨S9.out.kr, Or.inl ⟨u, l, fs, _, _, ss, G8.out, rfl, HOP, HOQ, HA.out⟩⟩
                          | false =>
                            have G8 : Hid (pageRd s.data.toList = none) := by
                              show _ = _
                              rw [G7.out, g8, Option.bind_some, if_neg (by rw [← ByteArray.toList_eq]; intro e; rw [e] at hen; cases hen)]
                            have K := hide S8.kr
                            clear hP8 hF8 k8 g8 S8 HM HF7 HP7 HO7 HOF7 G7 hR8
                            go_wp2
                            exact ⟨rfl, K.out, Or.inr ⟨G8.out, rfl⟩⟩
                        · have G : Hid (pageRd s.data.toList = none) := by
                            show _ = _
                            rw [G7.out, g8]
                            rfl
                          have K := hide k8'
                          clear g8 k8 k8'
                          go_wp2
                          exact ⟨rfl, K.out, Or.inr ⟨G.out, rfl⟩⟩
              · have G : Hid (pageRd s.data.toList = none) := by
                  show _ = _
                  rw [G3.out]
                  change skp mPageBody.data.toList q = _ at g4
                  rw [g4]
                  rfl
                have K := hide k4'
                clear g4 k4 k4'
                go_wp2
                exact ⟨rfl, K.out, Or.inr ⟨G.out, rfl⟩⟩
          · have hne := ne_list' hut
            have G : Hid (pageRd s.data.toList = none) := by
              show _ = _
              rw [G2.out, if_neg (fun e => hut (ba_ext' e))]
            clear hut
            go_region_law (refine step_calls (by rfl) (by simp [go_sem]) HC.out ?_; rintro w3 ⟨k3, S3⟩; have hF3 := k3.undrew.at HF2.out hFb; obtain ⟨q0', _, _, _, _, _⟩ := three_cells hF3; have HF3 := hide hF3; have HP3 := hide (k3.undrew.at HP2.out hPb); have HS3 := hide S3; clear hF3 k3 S3)
            all_goals
              have K := hide HS3.out.kr
              have ce : w3.cell? ⟨1, 0, none⟩ = some (X ea) := HS3.out.env.txt
              go_wp2
              exact ⟨rfl, K.out, Or.inr ⟨G.out, rfl⟩⟩
      · have G : Hid (pageRd s.data.toList = none) := by
          show _ = _
          rw [G1.out, g2]
          rfl
        have K := hide k2'
        clear g2 k2 k2'
        go_wp2
        exact ⟨rfl, K.out, Or.inr ⟨G.out, rfl⟩⟩
    · have G : Hid (pageRd s.data.toList = none) := by
        show _ = _
        rw [G0.out, g1]
        rfl
      have K := hide k1'
      clear g1 k1 k1'
      go_wp2
      exact ⟨rfl, K.out, Or.inr ⟨G.out, rfl⟩⟩
  · have G : Hid (pageRd s.data.toList = none) := by
      show _ = _
      rw [pageRd_A, g0]
      rfl
    have K := hide k0'
    clear g0 k0 k0'
    go_wp2
    exact ⟨rfl, K.out, Or.inr ⟨G.out, rfl⟩⟩
end Go.Proofs.YtjalggkhpnfbiaaDoor.pg
