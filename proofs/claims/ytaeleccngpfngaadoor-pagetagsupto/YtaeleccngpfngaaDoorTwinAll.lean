import Derived.Test.YtaeleccngpfngaaDoorTwinPg
namespace Go.Proofs.YtaeleccngpfngaaDoor.pg
open Go.ChangeShapes Go.WideShapes Go.ChangeAt Go.RowKit Go.Proofs.YtaeleccngpfngaaDoor.common Go.Maps
attribute [local go_sem ↓] Go.wp_at_zero Go.wp_at_succ

theorem own_low {w : World} {base base' : Nat} {e : TypeId} {size : Nat} {v : Value} {n : Nat} {xs : List Value} (h : w.ownsRow base e size v n xs) (hb : base' ≤ base) : w.ownsRow base' e size v n xs := by
  refine ⟨h.1, ?_⟩
  rcases h.2 with hh | ⟨g, cap, cur, hv, hg, hr⟩
  · exact Or.inl hh
  · exact Or.inr ⟨g, cap, cur, hv, Nat.le_trans hb hg, hr⟩
theorem results_c {fn : Func} {p : Tmp} {ty : TypeId} {P : Program} {w : World} {b o : Nat} {cs : List Value} {d : TypeDesc} (h : fn.results = #[.cell p ty]) (tmps : Array Value) (hx : tmps.getD p undef = .pointer (some ⟨b, o, none⟩))
    (hc : w.rangeAt b o cs) (hu : P.underlying ty = some d) (hd : d.isRow = true) (hi : (P.info? ty).map (·.size) = some cs.length) : (results fn tmps).run P w = .ok (.agg cs.toArray) w := by
  have hx' : tmps[p]?.getD undef = .pointer (some ⟨b, o, none⟩) := by simpa using hx
  simp [results, h, hx', asAddr, run_loadVar_mid w b o ty cs d hc hu hd hi]
theorem set_three {w : World} {F : Nat} {x y z : Value} {t : TypeId} (h : w.heap[F]? = some (.cells #[x, y, z] t)) (a b c : Value) : (((w.setCell ⟨F, 0, none⟩ a).setCell ⟨F, 1, none⟩ b).setCell ⟨F, 2, none⟩ c).heap[F]? = some (.cells #[a, b, c] t) := by
  simp [World.setCell, Array.getElem?_modify, h]
/-- one form more -/
theorem ownF_snoc {base : Nat} {w : World} {v : Value} {l : List Frm} {s : List Value} {f : Frm} {u : Value} (hlen : l.length = s.length) (hrow : w.ownsRow base 45 3 v (l.length + 1) (fc l s ++ [.string f.act, u, .string f.but])) (heach : ∀ i (h : i < s.length), w.ownsRow base 42 4 s[i] (l[i]'(by omega)).ins.length (ic (l[i]'(by omega)).ins)) (hu : w.ownsRow base 42 4 u f.ins.length (ic f.ins)) : OwnF base w v (l ++ [f]) (s ++ [u]) := by
  refine ⟨by simp [hlen], ?_, fun i hi => ?_⟩
  · rw [fc_snoc f u l s hlen, List.length_append]
    exact hrow
  · by_cases h : i < s.length
    · have e1 : (s ++ [u])[i] = s[i] := List.getElem_append_left h
      have e2 : (l ++ [f])[i]'(by simp; omega) = l[i]'(by omega) := List.getElem_append_left (by omega)
      rw [e1, e2]
      exact heach i h
    · have hi2 : i = s.length := by simp at hi; omega
      subst hi2
      have e1 : (s ++ [u])[s.length] = u := by simp
      have e2 : (l ++ [f])[s.length]'(by simp; omega) = f := by
        have : ∀ j (hj : j < (l ++ [f]).length), j = l.length → (l ++ [f])[j] = f := by intro j hj e; subst e; simp
        exact this _ _ hlen.symm
      rw [e1, e2]
      exact hu

set_option maxRecDepth 100000 in
set_option maxHeartbeats 3200000 in
theorem twinPage_any (w : World) (t : ByteArray) (vL vF : Value) (ls : List ByteArray) (fs : List Frm) (hL : LiesS w vL ls) (hF : LiesF w vF fs) (hls : ls.length ≤ 1000000000) (hfs : fs.length ≤ 1000000000) (hfi : ∀ f ∈ fs, f.ins.length ≤ 1000000000) :
    Calls Tryd.prog 12 #[.agg #[.string t, vL, vF]] w fun e w' => ∃ vL' vF', e = .returned (.agg #[.string t, vL', vF']) ∧ LiesS w' vL' ls ∧ LiesF w' vF' fs ∧ Below w.heap.size w w' := by
  have HLw := hide hL
  obtain ⟨ol, cl, rfl, _⟩ := hL
  obtain ⟨of, cf, rfl, hFc⟩ := hF
  obtain ⟨j0, hjn, hy0, hy1, hy2⟩ := info_parts infoF
  obtain ⟨hP, hR, hQ⟩ := heap_three w (.cells #[.string t, .slice ol ls.length cl, .slice of fs.length cf] 25) (.cells #[.string ⟨#[]⟩, .slice none 0 0, .slice none 0 0] 25) (.cells #[.string t, .slice none 0 0, .slice none 0 0] 25)
  have B1 : Below w.heap.size w (((w.alloc (.cells #[.string t, .slice ol ls.length cl, .slice of fs.length cf] 25)).alloc (.cells #[.string ⟨#[]⟩, .slice none 0 0, .slice none 0 0] 25)).alloc (.cells #[.string t, .slice none 0 0, .slice none 0 0] 25)) := (((Below.refl _ _).alloc (Nat.le_refl _) _).alloc (by simp) _).alloc (by simp; omega) _
  have hsz : (((w.alloc (.cells #[.string t, .slice ol ls.length cl, .slice of fs.length cf] 25)).alloc (.cells #[.string ⟨#[]⟩, .slice none 0 0, .slice none 0 0] 25)).alloc (.cells #[.string t, .slice none 0 0, .slice none 0 0] 25)).heap.size = w.heap.size + 3 := by simp
  have HP := hide hP
  have HR := hide hR
  have HQ := hide hQ
  have HB1 := hide B1
  have HL1 := hide (HLw.out.below B1)
  have HFC := hide hFc
  clear hP hR hQ B1 hFc
  go_enter Tryd.func12, Tryd.ntmps12
  go_wp2_with (at_builtin; refine append_strs _ rfl _ _ rfl (w.heap.size + 3) rfl _ ls rfl HL1.out ?c3 ?c4 ?c5 ?_)
  case c3 => unfold maxLen; omega
  case c4 => omega
  case c5 => rw [hsz]; exact Nat.le_refl _
  intro v1 w1 own1 hg1
  obtain ⟨o1, c1, rfl⟩ := form_w own1
  have P1 := grown_at hg1 HP.out (fun k hk => by cases hk)
  have R1 := grown_at hg1 HR.out (fun k hk => by cases hk)
  have Q1 := grown_at hg1 HQ.out (fun k hk => by cases hk)
  have q1 : w1.cell? ⟨w.heap.size + 1 + 1, 1, none⟩ = some (.slice none 0 0) := by simp [World.cell?, Q1]
  have z1 : w1.frozen? ⟨w.heap.size + 1 + 1, 1, none⟩ = false := by simp [World.frozen?, Q1]
  have HQ2 := hide (set3 Q1 (.slice o1 ls.length c1)).1
  have HP2 : Hid ((w1.setCell ⟨w.heap.size + 1 + 1, 1, none⟩ (.slice o1 ls.length c1)).heap[w.heap.size]? = _) := hide ((Below.heap_setCell w1 ⟨w.heap.size + 1 + 1, 1, none⟩ (.slice o1 ls.length c1) w.heap.size (by show w.heap.size ≠ w.heap.size + 1 + 1; omega)).trans P1)
  have HR2 : Hid ((w1.setCell ⟨w.heap.size + 1 + 1, 1, none⟩ (.slice o1 ls.length c1)).heap[w.heap.size + 1]? = _) := hide ((Below.heap_setCell w1 ⟨w.heap.size + 1 + 1, 1, none⟩ (.slice o1 ls.length c1) (w.heap.size + 1) (by show w.heap.size + 1 ≠ w.heap.size + 1 + 1; omega)).trans R1)
  have HO2 := hide (own_off own1 ⟨w.heap.size + 1 + 1, 1, none⟩ (.slice o1 ls.length c1) (Or.inl (by show w.heap.size + 1 + 1 < _; omega)))
  have HB2 : Hid (Below w.heap.size w (w1.setCell ⟨w.heap.size + 1 + 1, 1, none⟩ (.slice o1 ls.length c1))) := (HB1.out.grown hg1 (by rw [hsz]; omega) (fun k hk => by cases hk)).setCell (p := ⟨w.heap.size + 1 + 1, 1, none⟩) (by show w.heap.size ≤ w.heap.size + 1 + 1; omega) _
  have HZ2 : Hid (w.heap.size + 3 ≤ (w1.setCell ⟨w.heap.size + 1 + 1, 1, none⟩ (.slice o1 ls.length c1)).heap.size) := by
    have h1 := hg1.size
    rw [hsz] at h1
    have e : (w1.setCell ⟨w.heap.size + 1 + 1, 1, none⟩ (.slice o1 ls.length c1)).heap.size = w1.heap.size := by simp [World.setCell]
    show _ ≤ _
    omega
  clear own1 hg1 P1 R1 Q1 HP HR HQ HB1 HL1 hsz
  go_wp2_with fail
  go_loopw [4] (fun i wr => ∃ (k : Nat) (s : List Value) (vN : Value), k ≤ fs.length ∧ i = .int .i64 k ∧ Hid (OwnF (w.heap.size + 3) wr vN (fs.take k) s) ∧ Hid (wr.ownsRow (w.heap.size + 3) 9 1 (.slice o1 ls.length c1) ls.length (ls.map Value.string)) ∧ Hid (wr.heap[w.heap.size + 1 + 1]? = some (.cells #[.string t, .slice o1 ls.length c1, vN] 25)) ∧ Hid (wr.heap[w.heap.size]? = some (.cells #[.string t, .slice ol ls.length cl, .slice of fs.length cf] 25)) ∧ Hid (wr.heap[w.heap.size + 1]? = some (.cells #[.string ⟨#[]⟩, .slice none 0 0, .slice none 0 0] 25)) ∧ Hid (Below w.heap.size w wr) ∧ Hid (w.heap.size + 3 ≤ wr.heap.size)) (fun i _ => fs.length - (intOf i).toNat)
  case atStart => exact ⟨0, [], .slice none 0 0, by omega, rfl, ⟨rfl, World.ownsRow_nil _ _ _ _, fun i hi => absurd hi (Nat.not_lt_zero _)⟩, HO2, HQ2, HP2, HR2, HB2, HZ2⟩
  case round =>
    obtain ⟨k, sv, vN, hk, rfl, HF, HO, HQ, HP, HR, HB, HZ⟩ := hrel
    clear HO2 HQ2 HP2 HR2 HB2 HZ2
    have p2 : wr.cell? ⟨w.heap.size, 2, none⟩ = some (.slice of fs.length cf) := by have := HP.out; simp [World.cell?, this]
    by_cases hlt : k < fs.length
    · have hki : (k : Int) < (fs.length : Int) := by omega
      have k0 : (0 : Int) ≤ (k : Int) := Int.natCast_nonneg _
      have hil := hfi fs[k] (List.getElem_mem hlt)
      have htk : fs.take (k + 1) = fs.take k ++ [fs[k]] := List.take_succ_eq_append_getElem hlt
      have HTK := hide htk
      clear htk
      have hfc := HFC.out k hlt
      obtain ⟨X, hXe⟩ : ∃ X, fs[k] = X := ⟨_, rfl⟩
      rw [hXe] at hil hfc HTK
      clear hXe
      obtain ⟨fa, fi, fb⟩ := X
      simp only at hil hfc
      obtain ⟨bl, o, vI, ho, hbl, c0, c1', c2, hI0⟩ := hfc
      cases ho
      have d0 := (HB.out.cell (p := ⟨bl, o + k * 3, none⟩) hbl).trans c0
      have d1 := (HB.out.cell (p := ⟨bl, o + k * 3 + 1, none⟩) hbl).trans c1'
      have d2 := (HB.out.cell (p := ⟨bl, o + k * 3 + 2, none⟩) hbl).trans c2
      have BA : Below wr.heap.size wr (wr.alloc (.cells #[.string fa, vI, .string fb] 45)) := (Below.refl _ _).alloc (Nat.le_refl _) _
      have HBV := hide (HB.out.trans (BA.mono HB.out.size))
      have HI0 := hide (hI0.below HBV.out)
      have hFb : (wr.alloc (.cells #[.string fa, vI, .string fb] 45)).heap[wr.heap.size]? = some (.cells #[.string fa, vI, .string fb] 45) := by show (wr.heap.push _)[wr.heap.size]? = _; simp
      have hszV : (wr.alloc (.cells #[.string fa, vI, .string fb] 45)).heap.size = wr.heap.size + 1 := by simp
      have HFB := hide hFb
      have HBA := hide BA
      obtain ⟨oI, cI, rfl, _⟩ := hI0
      clear c0 c1' c2 BA hFb
      go_wp2_with fail
      generalize wr.alloc (.cells #[.string fa, .slice oI fi.length cI, .string fb] 45) = V at *
      refine (twin_any _ fi V HI0.out (by omega)).mono ?_
      rintro e w5 ⟨v5, rfl, own5, b5⟩
      obtain ⟨o5, c5, rfl⟩ := form_w own5
      have hF5 := (b5.block wr.heap.size (by omega)).trans HFB.out
      have g1 : w5.cell? ⟨wr.heap.size, 1, none⟩ = some (.slice oI fi.length cI) := by simp [World.cell?, hF5]
      have g2 : w5.frozen? ⟨wr.heap.size, 1, none⟩ = false := by simp [World.frozen?, hF5]
      have b5' : Below wr.heap.size wr w5 := HBA.out.trans (b5.mono HBA.out.size)
      have B6 : Below wr.heap.size wr (w5.setCell ⟨wr.heap.size, 1, none⟩ (.slice o5 fi.length c5)) := b5'.setCell (p := ⟨wr.heap.size, 1, none⟩) (Nat.le_refl _) _
      have HF6 := hide (set3 hF5 (.slice o5 fi.length c5)).1
      have HO5 := hide (own_off own5 ⟨wr.heap.size, 1, none⟩ (.slice o5 fi.length c5) (Or.inl (by show wr.heap.size < _; omega)))
      have e6 : (w5.setCell ⟨wr.heap.size, 1, none⟩ (.slice o5 fi.length c5)).heap.size = w5.heap.size := by simp [World.setCell]
      have hQl := (Array.getElem?_eq_some_iff.1 HQ.out).1
      have hPl := (Array.getElem?_eq_some_iff.1 HP.out).1
      have hRl := (Array.getElem?_eq_some_iff.1 HR.out).1
      have hQ6 := (B6.block _ hQl).trans HQ.out
      have q2 : (w5.setCell ⟨wr.heap.size, 1, none⟩ (.slice o5 fi.length c5)).cell? ⟨w.heap.size + 1 + 1, 2, none⟩ = some vN := by simp [World.cell?, hQ6]
      have HRG := hide (range3 HF6.out)
      have htl : (fs.take k).length = k := by rw [List.length_take]; omega
      have hrow : wr.ownsRow (w.heap.size + 3) 45 3 vN k (fc (fs.take k) sv) := by have := HF.out.row; rwa [htl] at this
      obtain ⟨oN, cN, hvN⟩ := form_w hrow
      have HRW := hide (own_below hrow B6)
      clear hrow htl
      have HFO := hide (HF.out.below B6)
      have HOO := hide (own_below HO.out B6)
      have HB6 := hide B6
      have hz6 := b5.size
      have hz7 := B6.size
      have HC6 := hide (cells_new (w5.setCell ⟨wr.heap.size, 1, none⟩ (.slice o5 fi.length c5)) [.string fa, .slice o5 fi.length c5, .string fb] 45)
      rw [e6] at HC6
      subst hvN
      clear own5 b5 b5' B6 hF5 d0 d1 d2 p2 HFB HBA HI0
      go_wp2_with (first
        | (refine wpList_load_mid rfl 45 (.tmp 5) rfl wr.heap.size 0 rfl _ _ HRG.out Tryd.underlying45 rfl (by kernel_rfl) ?_)
        | (at_builtin; refine wpList_append_own _ rfl _ _ 23 rfl (w.heap.size + 3) 45 j0 (.agg #[.string ⟨#[]⟩, .slice none 0 0, .string ⟨#[]⟩]) 3 56 Tryd.underlying23 hjn hy0 hy1 hy2 rfl (by decide) _ _ _ rfl (HRW.out.alloc _) ⟨w5.heap.size, 0, none⟩ 1 1 [.string fa, .slice o5 fi.length c5, .string fb] rfl rfl HC6.out ?c2 ?c3 ?c4 ?c5 ?_))
      case c2 => first | rfl | (intro u hu; simp at hu; rcases hu with rfl | rfl | rfl <;> rfl)
      case c3 => unfold maxLen; omega
      case c4 => omega
      case c5 => have := HZ.out; simp; omega
      intro v7 w7 own7 hg7 _
      obtain ⟨o7, c7, rfl⟩ := form_w own7
      have hrb := own_ge HRW.out
      have l6 : w5.heap.size = (w5.setCell ⟨wr.heap.size, 1, none⟩ (.slice o5 fi.length c5)).heap.size := e6.symm
      have hQ7 := grown_at hg7 ((Below.heap_alloc _ _ _ (by omega)).trans hQ6) (fun k' hk' => by have := hrb k' hk'; omega)
      have hP7 := grown_at hg7 ((Below.heap_alloc _ _ _ (by omega)).trans ((HB6.out.block _ hPl).trans HP.out)) (fun k' hk' => by have := hrb k' hk'; omega)
      have hR7 := grown_at hg7 ((Below.heap_alloc _ _ _ (by omega)).trans ((HB6.out.block _ hRl).trans HR.out)) (fun k' hk' => by have := hrb k' hk'; omega)
      have hB7 : Below w.heap.size w w7 := ((HB.out.trans (HB6.out.mono HB.out.size)).alloc (by have := HB.out.size; omega) _).grown hg7 (by have := HB.out.size; simp; omega) (fun k' hk' => by have := hrb k' hk'; omega)
      have E7 : ∀ i (h : i < sv.length), w7.ownsRow (w.heap.size + 3) 42 4 sv[i] ((fs.take k)[i]'(by have := HF.out.len; omega)).ins.length (ic ((fs.take k)[i]'(by have := HF.out.len; omega)).ins) := fun i h => ((HFO.out.each i h).alloc _).kept hg7 (rows_ne (by decide) (HFO.out.each i h) HRW.out)
      have N7 : w7.ownsRow (w.heap.size + 3) 42 4 (.slice o5 fi.length c5) fi.length (ic fi) := own_low ((HO5.out.alloc _).kept hg7 (rows_ne (by decide) HO5.out HRW.out)) (by have := HZ.out; omega)
      have O7 := (HOO.out.alloc (.cells #[.string fa, .slice o5 fi.length c5, .string fb] 45)).kept hg7 (rows_ne (by decide) HOO.out HRW.out)
      have hz7' : w.heap.size + 3 ≤ w7.heap.size := by have := hg7.size; have := HZ.out; simp at *; omega
      have hql : w.heap.size + 1 + 1 < w.heap.size + 3 := by omega
      have HF8 : Hid (OwnF (w.heap.size + 3) (w7.setCell ⟨w.heap.size + 1 + 1, 2, none⟩ (.slice o7 (k + 1) c7)) (.slice o7 (k + 1) c7) (fs.take (k + 1)) (sv ++ [.slice o5 fi.length c5])) := by
        show OwnF _ _ _ _ _
        rw [HTK.out]
        refine OwnF.off ?_ _ _ (Or.inl hql)
        refine ownF_snoc (f := ⟨fa, fi, fb⟩) HF.out.len ?_ E7 N7
        have htl : (fs.take k).length = k := by rw [List.length_take]; omega
        rw [htl]
        exact own7
      have HO8 := hide (own_off O7 ⟨w.heap.size + 1 + 1, 2, none⟩ (.slice o7 (k + 1) c7) (Or.inl hql))
      have HQ8 := hide (set3 hQ7 (.slice o7 (k + 1) c7)).2
      have HP8 : Hid ((w7.setCell ⟨w.heap.size + 1 + 1, 2, none⟩ (.slice o7 (k + 1) c7)).heap[w.heap.size]? = _) := hide ((Below.heap_setCell w7 ⟨w.heap.size + 1 + 1, 2, none⟩ (.slice o7 (k + 1) c7) w.heap.size (by show w.heap.size ≠ w.heap.size + 1 + 1; omega)).trans hP7)
      have HR8 : Hid ((w7.setCell ⟨w.heap.size + 1 + 1, 2, none⟩ (.slice o7 (k + 1) c7)).heap[w.heap.size + 1]? = _) := hide ((Below.heap_setCell w7 ⟨w.heap.size + 1 + 1, 2, none⟩ (.slice o7 (k + 1) c7) (w.heap.size + 1) (by show w.heap.size + 1 ≠ w.heap.size + 1 + 1; omega)).trans hR7)
      have HB8 := hide (hB7.setCell (p := ⟨w.heap.size + 1 + 1, 2, none⟩) (by show w.heap.size ≤ w.heap.size + 1 + 1; omega) (.slice o7 (k + 1) c7))
      have HZ8 : Hid (w.heap.size + 3 ≤ (w7.setCell ⟨w.heap.size + 1 + 1, 2, none⟩ (.slice o7 (k + 1) c7)).heap.size) := by
        have e : (w7.setCell ⟨w.heap.size + 1 + 1, 2, none⟩ (.slice o7 (k + 1) c7)).heap.size = w7.heap.size := by simp [World.setCell]
        show _ ≤ _
        omega
      have q3 : w7.cell? ⟨w.heap.size + 1 + 1, 2, none⟩ = some (.slice oN k cN) := by simp [World.cell?, hQ7]
      have q4 : w7.frozen? ⟨w.heap.size + 1 + 1, 2, none⟩ = false := by simp [World.frozen?, hQ7]
      clear own7 hg7 hQ7 hP7 hR7 hB7 E7 N7 O7 hQ6 q2 HFO HOO HRW HO5 HF6 HRG HC6
      go_wp2_with fail
      go_roundw
      case rel => exact ⟨k + 1, _, _, by omega, by go_num, HF8, HO8, HQ8, HP8, HR8, HB8, HZ8⟩
      case measure => simp [intOf] <;> omega
    · have hk8 : ¬ (k : Int) < (fs.length : Int) := by omega
      obtain rfl : k = fs.length := by omega
      rw [List.take_length] at HF
      obtain ⟨oN, cN, rfl⟩ := form_w HF.out.row
      have HRG := hide (range3 HQ.out)
      have r0 : wr.cell? ⟨w.heap.size + 1, 0, none⟩ = some (.string ⟨#[]⟩) := by have := HR.out; simp [World.cell?, this]
      have r1 : wr.cell? ⟨w.heap.size + 1, 0 + 1, none⟩ = some (.slice none 0 0) := by have := HR.out; simp [World.cell?, this]
      have r2 : wr.cell? ⟨w.heap.size + 1, 0 + 2, none⟩ = some (.slice none 0 0) := by have := HR.out; simp [World.cell?, this]
      have y0 : wr.frozen? ⟨w.heap.size + 1, 0, none⟩ = false := by have := HR.out; simp [World.frozen?, this]
      have y1 : wr.frozen? ⟨w.heap.size + 1, 0 + 1, none⟩ = false := by have := HR.out; simp [World.frozen?, this]
      have y2 : wr.frozen? ⟨w.heap.size + 1, 0 + 2, none⟩ = false := by have := HR.out; simp [World.frozen?, this]
      go_wp2_with (refine wpList_load_mid rfl 25 (.tmp 3) rfl (w.heap.size + 1 + 1) 0 rfl _ _ HRG.out Tryd.underlying25 rfl sizePg ?_)
      have hrl : w.heap.size + 1 < w.heap.size + 3 := by omega
      have HO9 := hide (own_off (own_off (own_off HO.out ⟨w.heap.size + 1, 0, none⟩ (.string t) (Or.inl hrl)) ⟨w.heap.size + 1, 1, none⟩ (.slice o1 ls.length c1) (Or.inl hrl)) ⟨w.heap.size + 1, 2, none⟩ (.slice oN fs.length cN) (Or.inl hrl))
      have HF9 := hide (((HF.out.off ⟨w.heap.size + 1, 0, none⟩ (.string t) (Or.inl hrl)).off ⟨w.heap.size + 1, 1, none⟩ (.slice o1 ls.length c1) (Or.inl hrl)).off ⟨w.heap.size + 1, 2, none⟩ (.slice oN fs.length cN) (Or.inl hrl))
      have hwl : w.heap.size ≤ w.heap.size + 1 := Nat.le_succ _
      have HB9 := hide (((HB.out.setCell (p := ⟨w.heap.size + 1, 0, none⟩) hwl (.string t)).setCell (p := ⟨w.heap.size + 1, 1, none⟩) hwl (.slice o1 ls.length c1)).setCell (p := ⟨w.heap.size + 1, 2, none⟩) hwl (.slice oN fs.length cN))
      refine bodyPost_ret (results_c rfl _ rfl (range3 (set_three HR.out (.string t) (.slice o1 ls.length c1) (.slice oN fs.length cN))) Tryd.underlying25 rfl sizePg) rfl ?_
      exact ⟨_, _, rfl, liesS_of_own HO9.out, HF9.out.lies, HB9.out⟩
end Go.Proofs.YtaeleccngpfngaaDoor.pg
