import Derived.Test.YtjalggkhpnfbiaaDoorBPickWalk
import Derived.Test.YtjalggkhpnfbiaaDoorBTwinAll
namespace Go.Proofs.YtjalggkhpnfbiaaDoor.pg
open Go.ChangeShapes Go.WideShapes Go.ChangeAt Go.RowKit Go.Proofs.YtjalggkhpnfbiaaDoor.common Go.Maps
attribute [local go_sem ↓] Go.wp_at_zero Go.wp_at_succ

theorem insW_snoc (x : Inp) : ∀ l : List Inp, insW (l ++ [x]) = insW l + inW x + 100
  | [] => by show inW x + 100 + 0 = 0 + inW x + 100; omega
  | y :: r => by
    have := insW_snoc x r
    show inW y + 100 + insW (r ++ [x]) = inW y + 100 + insW r + inW x + 100
    omega
theorem frmsW_snoc (x : Frm) : ∀ l : List Frm, frmsW (l ++ [x]) = frmsW l + frmW x
  | [] => by show frmW x + 0 = 0 + frmW x; omega
  | y :: r => by
    have := frmsW_snoc x r
    show frmW y + frmsW (r ++ [x]) = frmW y + frmsW r + frmW x
    omega
theorem insW_le : ∀ (l : List Inp) (k : Nat), insW (l.take k) ≤ insW l
  | [], k => by rw [List.take_nil]; exact Nat.le_refl _
  | x :: r, 0 => Nat.zero_le _
  | x :: r, k + 1 => by
    have := insW_le r k
    show inW x + 100 + insW (r.take k) ≤ inW x + 100 + insW r
    omega
theorem wrap_in (x : Int) : -9223372036854775808 ≤ wrap64 x ∧ wrap64 x ≤ 9223372036854775807 := by
  have h1 := Int.emod_nonneg (x + 9223372036854775808) (show (18446744073709551616 : Int) ≠ 0 by decide)
  have h2 := Int.emod_lt_of_pos (x + 9223372036854775808) (show (0 : Int) < 18446744073709551616 by decide)
  unfold wrap64
  constructor <;> omega

/-- tidied forms -/
structure Tidy (fs : List Frm) (k : Nat) (gs : List Frm) : Prop where
  len : gs.length = k
  ok : ∀ f ∈ gs, okF f = true
  wt : frmsW gs ≤ 2 * frmsW (fs.take k)
  short : ∀ f ∈ gs, f.ins.length ≤ 32
  same : (∀ f ∈ fs.take k, okF f = true ∧ f.ins.length ≤ 32) → gs = fs.take k
/-- what tidy answers -/
def TdOut (t : ByteArray) (ls : List ByteArray) (fs : List Frm) (w : World) (e : Ending) (w' : World) : Prop :=
  ∃ vL' vF' gs ss, e = .returned (.agg #[.string t, vL', vF']) ∧ w'.ownsRow w.heap.size 9 1 vL' ls.length (ls.map Value.string) ∧ OwnF w.heap.size w' vF' gs ss ∧ Tidy fs fs.length gs ∧ Below w.heap.size w w'
theorem OwnF.low {base base' : Nat} {w : World} {v : Value} {l : List Frm} {s : List Value} (h : OwnF base w v l s) (hb : base' ≤ base) : OwnF base' w v l s :=
  ⟨h.len, own_low h.row hb, fun i hi => own_low (h.each i hi) hb⟩
theorem emp_nil {s : ByteArray} (h : emp s = true) : s = ⟨#[]⟩ := by
  unfold emp at h
  rw [ByteArray.toList_eq] at h
  have := List.isEmpty_iff.1 h
  cases s with
  | mk d => rw [show d = #[] from Array.toList_eq_nil_iff.1 this]
/-- an input that may be so is left as it is -/
theorem tid_same (kd : Int) (nm vl lb : ByteArray) (h : mayB ⟨kd, nm, vl, lb⟩ = true) : kd = kitw.pick (wrap64 (kd - 1)) 4 + 1 ∧ nm.toList.isEmpty = false ∧ (kd = 1 → lb = ⟨#[]⟩) ∧ (kd = 3 → vl = ⟨#[]⟩) := by
  have hk := mayB_kind h
  dsimp only at hk
  have hc : kd = 1 ∨ kd = 2 ∨ kd = 3 ∨ kd = 4 := by omega
  rcases hc with rfl | rfl | rfl | rfl
  · unfold mayB at h
    simp at h
    exact ⟨by simp [kitw.pick, wrap64], by have := h.1; unfold emp at this; simpa using this, fun _ => emp_nil h.2, fun e => by omega⟩
  · unfold mayB at h
    simp at h
    exact ⟨by simp [kitw.pick, wrap64], by have := h; unfold emp at this; simpa using this, fun e => by omega, fun e => by omega⟩
  · unfold mayB at h
    simp at h
    exact ⟨by simp [kitw.pick, wrap64], by have := h.1; unfold emp at this; simpa using this, fun e => by omega, fun _ => emp_nil h.2⟩
  · unfold mayB at h
    simp at h
    exact ⟨by simp [kitw.pick, wrap64], by have := h; unfold emp at this; simpa using this, fun e => by omega, fun e => by omega⟩
theorem tid_put {fi ys : List Inp} {j : Nat} {x y : Inp} (ht : fi.take (j + 1) = fi.take j ++ [y]) (hs : (fi.take j).all mayB = true → ys = fi.take j) (hx : mayB y = true → x = y) (h : (fi.take (j + 1)).all mayB = true) : ys ++ [x] = fi.take (j + 1) := by
  rw [ht] at h ⊢
  rw [List.all_append, Bool.and_eq_true] at h
  have h2 : mayB y = true := by simpa using h.2
  rw [hs h.1, hx h2]

set_option maxRecDepth 100000 in
set_option maxHeartbeats 1600000 in
theorem tidy_own (w : World) (t : ByteArray) (vL vF : Value) (ls : List ByteArray) (fs : List Frm) (hL : LiesS w vL ls) (hF : LiesF w vF fs) (hls : ls.length ≤ 1000000000) (hfs : fs.length ≤ 1000000000) (hfi : ∀ f ∈ fs, f.ins.length ≤ 1000000000) (hfk : ∀ f ∈ fs, ∀ x ∈ f.ins, inK x) :
    Calls Tryd.prog 5 #[.agg #[.string t, vL, vF]] w (TdOut t ls fs w) := by
  have HLw := hide hL
  obtain ⟨ol, cl, rfl, _⟩ := hL
  obtain ⟨of, cf, rfl, hFc⟩ := hF
  obtain ⟨j0, hjn, hy0, hy1, hy2⟩ := info_parts infoF
  obtain ⟨i0, hin, hz0, hz1, hz2⟩ := info_parts infoI
  obtain ⟨hP, hR, hQ⟩ := heap_three w (.cells #[.string t, .slice ol ls.length cl, .slice of fs.length cf] 25) (.cells #[.string ⟨#[]⟩, .slice none 0 0, .slice none 0 0] 25) (.cells #[.string t, .slice none 0 0, .slice none 0 0] 25)
  have B1 : Below w.heap.size w (((w.alloc (.cells #[.string t, .slice ol ls.length cl, .slice of fs.length cf] 25)).alloc (.cells #[.string ⟨#[]⟩, .slice none 0 0, .slice none 0 0] 25)).alloc (.cells #[.string t, .slice none 0 0, .slice none 0 0] 25)) := (((Below.refl _ _).alloc (Nat.le_refl _) _).alloc (by simp) _).alloc (by simp; omega) _
  have hsz : (((w.alloc (.cells #[.string t, .slice ol ls.length cl, .slice of fs.length cf] 25)).alloc (.cells #[.string ⟨#[]⟩, .slice none 0 0, .slice none 0 0] 25)).alloc (.cells #[.string t, .slice none 0 0, .slice none 0 0] 25)).heap.size = w.heap.size + 3 := by simp
  have HP := hide hP
  have HR := hide hR
  have HQ := hide hQ
  have HB1 := hide B1
  have HL1 := hide (HLw.out.below B1)
  have HFC := hide hFc
  clear hP hR hQ B1 hFc
  go_enter Tryd.func5, Tryd.ntmps5
  go_wp2_with (at_builtin; refine append_strs _ rfl _ _ rfl (w.heap.size + 3) rfl _ ls rfl HL1.out ?c3 ?c4 ?c5 ?_)
  case c3 => unfold maxLen; omega
  case c4 => omega
  case c5 => rw [hsz]; exact Nat.le_refl _
  intro v1 w1 own1 hg1
  obtain ⟨o1, c1, rfl⟩ := form_w own1
  have P1 := grown_at hg1 HP.out (fun k hk => by cases hk)
  have R1 := grown_at hg1 HR.out (fun k hk => by cases hk)
  have Q1 := grown_at hg1 HQ.out (fun k hk => by cases hk)
  have q1 : w1.cell? ⟨w.heap.size + 1 + 1, 1, none⟩ = some (.slice none 0 0) := by simp [World.cell?, Q1]
  have z1 : w1.frozen? ⟨w.heap.size + 1 + 1, 1, none⟩ = false := by simp [World.frozen?, Q1]
  have HQ2 := hide (set3 Q1 (.slice o1 ls.length c1)).1
  have HP2 : Hid ((w1.setCell ⟨w.heap.size + 1 + 1, 1, none⟩ (.slice o1 ls.length c1)).heap[w.heap.size]? = _) := hide ((Below.heap_setCell w1 ⟨w.heap.size + 1 + 1, 1, none⟩ (.slice o1 ls.length c1) w.heap.size (by show w.heap.size ≠ w.heap.size + 1 + 1; omega)).trans P1)
  have HR2 : Hid ((w1.setCell ⟨w.heap.size + 1 + 1, 1, none⟩ (.slice o1 ls.length c1)).heap[w.heap.size + 1]? = _) := hide ((Below.heap_setCell w1 ⟨w.heap.size + 1 + 1, 1, none⟩ (.slice o1 ls.length c1) (w.heap.size + 1) (by show w.heap.size + 1 ≠ w.heap.size + 1 + 1; omega)).trans R1)
  have HO2 := hide (own_off own1 ⟨w.heap.size + 1 + 1, 1, none⟩ (.slice o1 ls.length c1) (Or.inl (by show w.heap.size + 1 + 1 < _; omega)))
  have HB2 : Hid (Below w.heap.size w (w1.setCell ⟨w.heap.size + 1 + 1, 1, none⟩ (.slice o1 ls.length c1))) := (HB1.out.grown hg1 (by rw [hsz]; omega) (fun k hk => by cases hk)).setCell (p := ⟨w.heap.size + 1 + 1, 1, none⟩) (by show w.heap.size ≤ w.heap.size + 1 + 1; omega) _
  have HZ2 : Hid (w.heap.size + 3 ≤ (w1.setCell ⟨w.heap.size + 1 + 1, 1, none⟩ (.slice o1 ls.length c1)).heap.size) := by
    have h1 := hg1.size
    rw [hsz] at h1
    have e : (w1.setCell ⟨w.heap.size + 1 + 1, 1, none⟩ (.slice o1 ls.length c1)).heap.size = w1.heap.size := by simp [World.setCell]
    show _ ≤ _
    omega
  clear own1 hg1 P1 R1 Q1 HP HR HQ HB1 HL1 hsz
  go_wp2_with fail
  go_loopw [4] (fun i wr => ∃ (k : Nat) (s : List Value) (vN : Value) (gs : List Frm), k ≤ fs.length ∧ i = .int .i64 k ∧ Hid (Tidy fs k gs) ∧ Hid (OwnF (w.heap.size + 3) wr vN gs s) ∧ Hid (wr.ownsRow (w.heap.size + 3) 9 1 (.slice o1 ls.length c1) ls.length (ls.map Value.string)) ∧ Hid (wr.heap[w.heap.size + 1 + 1]? = some (.cells #[.string t, .slice o1 ls.length c1, vN] 25)) ∧ Hid (wr.heap[w.heap.size]? = some (.cells #[.string t, .slice ol ls.length cl, .slice of fs.length cf] 25)) ∧ Hid (wr.heap[w.heap.size + 1]? = some (.cells #[.string ⟨#[]⟩, .slice none 0 0, .slice none 0 0] 25)) ∧ Hid (Below w.heap.size w wr) ∧ Hid (w.heap.size + 3 ≤ wr.heap.size)) (fun i _ => fs.length - (intOf i).toNat)
  case atStart => exact ⟨0, [], .slice none 0 0, [], by omega, rfl, ⟨rfl, fun f hf => (by cases hf), Nat.zero_le _, fun f hf => (by cases hf), fun _ => rfl⟩, ⟨rfl, World.ownsRow_nil _ _ _ _, fun i hi => absurd hi (Nat.not_lt_zero _)⟩, HO2, HQ2, HP2, HR2, HB2, HZ2⟩
  case round =>
    obtain ⟨k, sv, vN, gs, hk, rfl, HTI, HF, HO, HQ, HP, HR, HB, HZ⟩ := hrel
    clear HO2 HQ2 HP2 HR2 HB2 HZ2
    generalize wr = U at *
    have p2 : U.cell? ⟨w.heap.size, 2, none⟩ = some (.slice of fs.length cf) := by have := HP.out; simp [World.cell?, this]
    by_cases hlt : k < fs.length
    · have hki : (k : Int) < (fs.length : Int) := by omega
      have k0 : (0 : Int) ≤ (k : Int) := Int.natCast_nonneg _
      have hil := hfi fs[k] (List.getElem_mem hlt)
      have hkk := hfk fs[k] (List.getElem_mem hlt)
      have HTK := hide (frmsW_take fs k hlt)
      have HTK2 : Hid (fs.take (k + 1) = fs.take k ++ [fs[k]]) := List.take_succ_eq_append_getElem hlt
      have hfc := HFC.out k hlt
      obtain ⟨X, hXe⟩ : ∃ X, fs[k] = X := ⟨_, rfl⟩
      rw [hXe] at hil hfc HTK HTK2 hkk
      clear hXe HTK
      obtain ⟨fa, fi, fb⟩ := X
      simp only at hil hfc hkk
      have HKK := hide hkk
      clear hkk
      obtain ⟨bl, o, vI, ho, hbl, c0, c1', c2, hI0⟩ := hfc
      cases ho
      have d0 := (HB.out.cell (p := ⟨bl, o + k * 3, none⟩) hbl).trans c0
      have d2 := (HB.out.cell (p := ⟨bl, o + k * 3 + 2, none⟩) hbl).trans c2
      have BA : Below U.heap.size U (U.alloc (.cells #[.string ⟨#[]⟩, .slice none 0 0, .string ⟨#[]⟩] 31)) := (Below.refl _ _).alloc (Nat.le_refl _) _
      have hwbr : Below w.heap.size w (U.alloc (.cells #[.string ⟨#[]⟩, .slice none 0 0, .string ⟨#[]⟩] 31)) := HB.out.trans (BA.mono HB.out.size)
      have hPl := (Array.getElem?_eq_some_iff.1 HP.out).1
      have hQl := (Array.getElem?_eq_some_iff.1 HQ.out).1
      have hRl := (Array.getElem?_eq_some_iff.1 HR.out).1
      have hPa := (BA.block _ hPl).trans HP.out
      have p2a : (U.alloc (.cells #[.string ⟨#[]⟩, .slice none 0 0, .string ⟨#[]⟩] 31)).cell? ⟨w.heap.size, 2, none⟩ = some (.slice (some ⟨bl, o, none⟩) fs.length cf) := by simp [World.cell?, hPa]
      have d0a := (hwbr.cell (p := ⟨bl, o + k * 3, none⟩) hbl).trans c0
      have d2a := (hwbr.cell (p := ⟨bl, o + k * 3 + 2, none⟩) hbl).trans c2
      have HC1 := hide c1'
      have HI0 := hide hI0
      obtain ⟨oI, cI, rfl, hIc⟩ := hI0
      have HIC := hide hIc
      clear c0 c1' c2 hIc hwbr hPa BA
      go_wp2_with fail
      go_region
      have HVF : Hid ((U.alloc (.cells #[.string fa, .slice none 0 0, .string fb] 31)).drew.heap[U.heap.size]? = some (.cells #[.string fa, .slice none 0 0, .string fb] 31)) := by show (U.heap.push _)[U.heap.size]? = _; simp
      have HBV : Hid (Below U.heap.size U (U.alloc (.cells #[.string fa, .slice none 0 0, .string fb] 31)).drew) := ((Below.refl _ _).alloc (Nat.le_refl _) _).drew
      have HSV : Hid ((U.alloc (.cells #[.string fa, .slice none 0 0, .string fb] 31)).drew.heap.size = U.heap.size + 1) := by show (U.heap.push _).size = _; simp
      generalize (U.alloc (.cells #[.string fa, .slice none 0 0, .string fb] 31)).drew = V at *
      clear d0 d2 d0a d2a p2 p2a
      go_wp2_with fail
      go_loopw [6] (fun i wx => ∃ (j : Nat) (ys : List Inp) (vG : Value), j ≤ fi.length ∧ j ≤ 32 ∧ i = .int .i64 j ∧ Hid (ys.length = j) ∧ Hid (ys.all mayB = true) ∧ Hid (insW ys ≤ 2 * insW (fi.take j)) ∧ Hid ((fi.take j).all mayB = true → ys = fi.take j) ∧ Hid (wx.ownsRow (U.heap.size + 1) 28 4 vG j (ic ys)) ∧ Hid (wx.heap[U.heap.size]? = some (.cells #[.string fa, vG, .string fb] 31)) ∧ Hid (Below U.heap.size U wx) ∧ Hid (U.heap.size + 1 ≤ wx.heap.size)) (fun i _ => fi.length - (intOf i).toNat)
      case atStart => exact ⟨0, [], .slice none 0 0, by omega, by omega, rfl, rfl, rfl, Nat.zero_le _, (fun _ => rfl), World.ownsRow_nil _ _ _ _, HVF, HBV, by show _ ≤ _; rw [HSV.out]; exact Nat.le_refl _⟩
      case round =>
        obtain ⟨j, ys, vG, hj, hj32, rfl, HYL, HYO, HYW, HYS, HOG, HFX, HBX, HZX⟩ := hrel
        obtain ⟨oG, cG, rfl⟩ := form_w HOG.out
        have hPx := (HBX.out.block _ hPl).trans HP.out
        have p2 : wr.cell? ⟨w.heap.size, 2, none⟩ = some (.slice (some ⟨bl, o, none⟩) fs.length cf) := by simp [World.cell?, hPx]
        have hwx : Below w.heap.size w wr := HB.out.trans (HBX.out.mono HB.out.size)
        have d1 := (hwx.cell (p := ⟨bl, o + k * 3 + 1, none⟩) hbl).trans HC1.out
        have hFbl : U.heap.size < wr.heap.size := HZX.out
        clear hPx
        by_cases hlj : j < fi.length ∧ j < 32
        · obtain ⟨hlj, hl32⟩ := hlj
          have hji : (j : Int) < (fi.length : Int) := by omega
          have hj3 : (j : Int) < 32 := by omega
          have j0' : (0 : Int) ≤ (j : Int) := Int.natCast_nonneg _
          have HIW := hide (insW_take fi j hlj)
          have HIT : Hid (fi.take (j + 1) = fi.take j ++ [fi[j]]) := List.take_succ_eq_append_getElem hlj
          have hkx := HKK.out fi[j] (List.getElem_mem hlj)
          obtain ⟨b2, o2, ho, hb2, c0, c1', c2, c3⟩ := HIC.out j hlj
          cases ho
          have e0 := (hwx.cell (p := ⟨b2, o2 + j * 4, none⟩) hb2).trans c0
          have e1 := (hwx.cell (p := ⟨b2, o2 + j * 4 + 1, none⟩) hb2).trans c1'
          have e2 := (hwx.cell (p := ⟨b2, o2 + j * 4 + 2, none⟩) hb2).trans c2
          have e3 := (hwx.cell (p := ⟨b2, o2 + j * 4 + 3, none⟩) hb2).trans c3
          clear c0 c1' c2 c3 HIW
          obtain ⟨Y, hYe⟩ : ∃ Y, fi[j] = Y := ⟨_, rfl⟩
          rw [hYe] at HIT hkx e0 e1 e2 e3
          clear hYe
          obtain ⟨kd, nm, vl, lb⟩ := Y
          simp only at e0 e1 e2 e3
          have HPK := hide (fun W => kitw.pick_any (wrap64 (kd - 1)) 4 W (by decide) (by decide) (wrap_in _).1 (wrap_in _).2)
          have hqb := kitw.pick_bounds (wrap64 (kd - 1)) 4
          have hq4 := hqb.2 (by decide)
          have hq0 := hqb.1
          clear hqb hkx
          have HSM := hide (tid_same kd nm vl lb)
          generalize kitw.pick (wrap64 (kd - 1)) 4 = q at *
          obtain ⟨en, hen⟩ : ∃ en, nm.toList.isEmpty = en := ⟨_, rfl⟩
          have hq : q = 0 ∨ q = 1 ∨ q = 2 ∨ q = 3 := by omega
          clear hq4 hq0
          rcases hq with rfl | rfl | rfl | rfl <;> cases en
          · have HMB : Hid (mayB ⟨1, nm, vl, (⟨#[]⟩ : ByteArray)⟩ = true) := by
              show _ = _
              unfold mayB emp
              simp [hen]
            have HWX : Hid (inW ⟨1, nm, vl, (⟨#[]⟩ : ByteArray)⟩ ≤ inW ⟨kd, nm, vl, lb⟩ + 1) := by
              show (nm).size + (vl).size + ((⟨#[]⟩ : ByteArray)).size ≤ nm.size + vl.size + lb.size + 1
              have z0 : (⟨#[110]⟩ : ByteArray).size = 1 := rfl
              have z1 : (⟨#[]⟩ : ByteArray).size = 0 := rfl
              omega
            have BX : Below wr.heap.size wr (wr.alloc (.cells #[.int .i64 1, .string nm, .string vl, .string (⟨#[]⟩ : ByteArray)] 28)) := (Below.refl _ _).alloc (Nat.le_refl _) _
            have hFx := (BX.block _ hFbl).trans HFX.out
            have f1 : (wr.alloc (.cells #[.int .i64 1, .string nm, .string vl, .string (⟨#[]⟩ : ByteArray)] 28)).cell? ⟨U.heap.size, 1, none⟩ = some (.slice oG j cG) := by simp [World.cell?, hFx]
            have HOX := hide (own_below HOG.out BX)
            have HBX1 := hide (HBX.out.trans (BX.mono HBX.out.size))
            have HFX1 := hide hFx
            have szX : (wr.alloc (.cells #[.int .i64 1, .string nm, .string vl, .string (⟨#[]⟩ : ByteArray)] 28)).heap.size = wr.heap.size + 1 := by simp
            have HCX := hide (cells_new (wr.alloc (.cells #[.int .i64 1, .string nm, .string vl, .string (⟨#[]⟩ : ByteArray)] 28)) (ic [⟨1, nm, vl, (⟨#[]⟩ : ByteArray)⟩]) 28)
            rw [szX] at HCX
            clear BX hFx
            go_wp2_with (first
              | (go_at_call 12; refine (HPK.out _).mono ?_; rintro x w9 ⟨rfl, rfl⟩)
              | (at_builtin; refine wpList_append_own _ rfl _ _ 29 rfl (U.heap.size + 1) 28 i0 (.agg #[.int .i64 0, .string ⟨#[]⟩, .string ⟨#[]⟩, .string ⟨#[]⟩]) 4 56 Tryd.underlying29 hin hz0 hz1 hz2 rfl (by decide) _ _ _ rfl (HOX.out.alloc _) ⟨wr.heap.size + 1, 0, none⟩ 1 1 (ic [⟨1, nm, vl, (⟨#[]⟩ : ByteArray)⟩]) rfl rfl HCX.out (ic_one _) ?c3 ?c4 ?c5 ?_))
            case c3 => unfold maxLen; omega
            case c4 => omega
            case c5 => simp; omega
            intro v7 w7 own7 hg7 _
            obtain ⟨o7, c7, rfl⟩ := form_w own7
            have hrb := own_ge HOX.out
            have hF7 := grown_at hg7 ((Below.heap_alloc _ _ _ (by rw [szX]; omega)).trans HFX1.out) (fun k' hk' => by have := hrb k' hk'; omega)
            have hB7 : Below U.heap.size U w7 := (HBX1.out.alloc (by rw [szX]; omega) _).grown hg7 (by simp; omega) (fun k' hk' => by have := hrb k' hk'; omega)
            have hz7' : U.heap.size + 1 ≤ w7.heap.size := by have := hg7.size; simp at this; omega
            have HY8 : Hid ((w7.setCell ⟨U.heap.size, 1, none⟩ (.slice o7 (j + 1) c7)).ownsRow (U.heap.size + 1) 28 4 (.slice o7 (j + 1) c7) (j + 1) (ic (ys ++ [⟨1, nm, vl, (⟨#[]⟩ : ByteArray)⟩]))) := by
              show World.ownsRow _ _ _ _ _ _ _
              rw [ic_app]
              exact own_off own7 _ _ (Or.inl (by show U.heap.size < U.heap.size + 1; omega))
            have HF8 := hide (set3 hF7 (.slice o7 (j + 1) c7)).1
            have HB8 := hide (hB7.setCell (p := ⟨U.heap.size, 1, none⟩) (Nat.le_refl _) (.slice o7 (j + 1) c7))
            have HZ8 : Hid (U.heap.size + 1 ≤ (w7.setCell ⟨U.heap.size, 1, none⟩ (.slice o7 (j + 1) c7)).heap.size) := by
              have e : (w7.setCell ⟨U.heap.size, 1, none⟩ (.slice o7 (j + 1) c7)).heap.size = w7.heap.size := by simp [World.setCell]
              show _ ≤ _
              omega
            have HL8 : Hid ((ys ++ [(⟨1, nm, vl, (⟨#[]⟩ : ByteArray)⟩ : Inp)]).length = j + 1) := by have := HYL.out; show _ = _; simp [this]
            have HA8 : Hid ((ys ++ [(⟨1, nm, vl, (⟨#[]⟩ : ByteArray)⟩ : Inp)]).all mayB = true) := by have h1 := HYO.out; have h2 := HMB.out; show _ = _; rw [List.all_append, h1]; simp [h2]
            have HW8 : Hid (insW (ys ++ [(⟨1, nm, vl, (⟨#[]⟩ : ByteArray)⟩ : Inp)]) ≤ 2 * insW (fi.take (j + 1))) := by
              have h1 := HYW.out; have h2 := HWX.out
              show _ ≤ _
              rw [HIT.out, insW_snoc, insW_snoc]
              omega
            have q3 : w7.cell? ⟨U.heap.size, 1, none⟩ = some (.slice oG j cG) := by simp [World.cell?, hF7]
            have q4 : w7.frozen? ⟨U.heap.size, 1, none⟩ = false := by simp [World.frozen?, hF7]
            have HS8 : Hid ((fi.take (j + 1)).all mayB = true → ys ++ [(⟨1, nm, vl, (⟨#[]⟩ : ByteArray)⟩ : Inp)] = fi.take (j + 1)) := tid_put HIT.out HYS.out (fun hm => by
              have hs := HSM.out hm
              obtain rfl : kd = 1 := by have := hs.1; omega
              rw [hs.2.2.1 rfl])
            generalize (ys ++ [(⟨1, nm, vl, (⟨#[]⟩ : ByteArray)⟩ : Inp)]) = ys' at *
            clear own7 hg7 hF7 hB7 hrb HOX HCX HFX1 HBX1 HMB HWX HPK HSM f1 szX
            go_wp2_with fail
            go_roundw
            case rel => exact ⟨j + 1, ys', _, by omega, by omega, by go_num, HL8, HA8, HW8, HS8, HY8, HF8, HB8, HZ8⟩
            case measure => simp [intOf] <;> omega
          · have HMB : Hid (mayB ⟨1, (⟨#[110]⟩ : ByteArray), vl, (⟨#[]⟩ : ByteArray)⟩ = true) := by
              show _ = _
              unfold mayB emp
              simp
            have HWX : Hid (inW ⟨1, (⟨#[110]⟩ : ByteArray), vl, (⟨#[]⟩ : ByteArray)⟩ ≤ inW ⟨kd, nm, vl, lb⟩ + 1) := by
              show ((⟨#[110]⟩ : ByteArray)).size + (vl).size + ((⟨#[]⟩ : ByteArray)).size ≤ nm.size + vl.size + lb.size + 1
              have z0 : (⟨#[110]⟩ : ByteArray).size = 1 := rfl
              have z1 : (⟨#[]⟩ : ByteArray).size = 0 := rfl
              omega
            have BX : Below wr.heap.size wr (wr.alloc (.cells #[.int .i64 1, .string (⟨#[110]⟩ : ByteArray), .string vl, .string (⟨#[]⟩ : ByteArray)] 28)) := (Below.refl _ _).alloc (Nat.le_refl _) _
            have hFx := (BX.block _ hFbl).trans HFX.out
            have f1 : (wr.alloc (.cells #[.int .i64 1, .string (⟨#[110]⟩ : ByteArray), .string vl, .string (⟨#[]⟩ : ByteArray)] 28)).cell? ⟨U.heap.size, 1, none⟩ = some (.slice oG j cG) := by simp [World.cell?, hFx]
            have HOX := hide (own_below HOG.out BX)
            have HBX1 := hide (HBX.out.trans (BX.mono HBX.out.size))
            have HFX1 := hide hFx
            have szX : (wr.alloc (.cells #[.int .i64 1, .string (⟨#[110]⟩ : ByteArray), .string vl, .string (⟨#[]⟩ : ByteArray)] 28)).heap.size = wr.heap.size + 1 := by simp
            have HCX := hide (cells_new (wr.alloc (.cells #[.int .i64 1, .string (⟨#[110]⟩ : ByteArray), .string vl, .string (⟨#[]⟩ : ByteArray)] 28)) (ic [⟨1, (⟨#[110]⟩ : ByteArray), vl, (⟨#[]⟩ : ByteArray)⟩]) 28)
            rw [szX] at HCX
            clear BX hFx
            go_wp2_with (first
              | (go_at_call 12; refine (HPK.out _).mono ?_; rintro x w9 ⟨rfl, rfl⟩)
              | (at_builtin; refine wpList_append_own _ rfl _ _ 29 rfl (U.heap.size + 1) 28 i0 (.agg #[.int .i64 0, .string ⟨#[]⟩, .string ⟨#[]⟩, .string ⟨#[]⟩]) 4 56 Tryd.underlying29 hin hz0 hz1 hz2 rfl (by decide) _ _ _ rfl (HOX.out.alloc _) ⟨wr.heap.size + 1, 0, none⟩ 1 1 (ic [⟨1, (⟨#[110]⟩ : ByteArray), vl, (⟨#[]⟩ : ByteArray)⟩]) rfl rfl HCX.out (ic_one _) ?c3 ?c4 ?c5 ?_))
            case c3 => unfold maxLen; omega
            case c4 => omega
            case c5 => simp; omega
            intro v7 w7 own7 hg7 _
            obtain ⟨o7, c7, rfl⟩ := form_w own7
            have hrb := own_ge HOX.out
            have hF7 := grown_at hg7 ((Below.heap_alloc _ _ _ (by rw [szX]; omega)).trans HFX1.out) (fun k' hk' => by have := hrb k' hk'; omega)
            have hB7 : Below U.heap.size U w7 := (HBX1.out.alloc (by rw [szX]; omega) _).grown hg7 (by simp; omega) (fun k' hk' => by have := hrb k' hk'; omega)
            have hz7' : U.heap.size + 1 ≤ w7.heap.size := by have := hg7.size; simp at this; omega
            have HY8 : Hid ((w7.setCell ⟨U.heap.size, 1, none⟩ (.slice o7 (j + 1) c7)).ownsRow (U.heap.size + 1) 28 4 (.slice o7 (j + 1) c7) (j + 1) (ic (ys ++ [⟨1, (⟨#[110]⟩ : ByteArray), vl, (⟨#[]⟩ : ByteArray)⟩]))) := by
              show World.ownsRow _ _ _ _ _ _ _
              rw [ic_app]
              exact own_off own7 _ _ (Or.inl (by show U.heap.size < U.heap.size + 1; omega))
            have HF8 := hide (set3 hF7 (.slice o7 (j + 1) c7)).1
            have HB8 := hide (hB7.setCell (p := ⟨U.heap.size, 1, none⟩) (Nat.le_refl _) (.slice o7 (j + 1) c7))
            have HZ8 : Hid (U.heap.size + 1 ≤ (w7.setCell ⟨U.heap.size, 1, none⟩ (.slice o7 (j + 1) c7)).heap.size) := by
              have e : (w7.setCell ⟨U.heap.size, 1, none⟩ (.slice o7 (j + 1) c7)).heap.size = w7.heap.size := by simp [World.setCell]
              show _ ≤ _
              omega
            have HL8 : Hid ((ys ++ [(⟨1, (⟨#[110]⟩ : ByteArray), vl, (⟨#[]⟩ : ByteArray)⟩ : Inp)]).length = j + 1) := by have := HYL.out; show _ = _; simp [this]
            have HA8 : Hid ((ys ++ [(⟨1, (⟨#[110]⟩ : ByteArray), vl, (⟨#[]⟩ : ByteArray)⟩ : Inp)]).all mayB = true) := by have h1 := HYO.out; have h2 := HMB.out; show _ = _; rw [List.all_append, h1]; simp [h2]
            have HW8 : Hid (insW (ys ++ [(⟨1, (⟨#[110]⟩ : ByteArray), vl, (⟨#[]⟩ : ByteArray)⟩ : Inp)]) ≤ 2 * insW (fi.take (j + 1))) := by
              have h1 := HYW.out; have h2 := HWX.out
              show _ ≤ _
              rw [HIT.out, insW_snoc, insW_snoc]
              omega
            have q3 : w7.cell? ⟨U.heap.size, 1, none⟩ = some (.slice oG j cG) := by simp [World.cell?, hF7]
            have q4 : w7.frozen? ⟨U.heap.size, 1, none⟩ = false := by simp [World.frozen?, hF7]
            have HS8 : Hid ((fi.take (j + 1)).all mayB = true → ys ++ [(⟨1, (⟨#[110]⟩ : ByteArray), vl, (⟨#[]⟩ : ByteArray)⟩ : Inp)] = fi.take (j + 1)) := tid_put HIT.out HYS.out (fun hm => by
              have hs := HSM.out hm
              rw [hen] at hs; exact absurd hs.2.1 (by decide))
            generalize (ys ++ [(⟨1, (⟨#[110]⟩ : ByteArray), vl, (⟨#[]⟩ : ByteArray)⟩ : Inp)]) = ys' at *
            clear own7 hg7 hF7 hB7 hrb HOX HCX HFX1 HBX1 HMB HWX HPK HSM f1 szX
            go_wp2_with fail
            go_roundw
            case rel => exact ⟨j + 1, ys', _, by omega, by omega, by go_num, HL8, HA8, HW8, HS8, HY8, HF8, HB8, HZ8⟩
            case measure => simp [intOf] <;> omega
          · have HMB : Hid (mayB ⟨2, nm, vl, lb⟩ = true) := by
              show _ = _
              unfold mayB emp
              simp [hen]
            have HWX : Hid (inW ⟨2, nm, vl, lb⟩ ≤ inW ⟨kd, nm, vl, lb⟩ + 1) := by
              show (nm).size + (vl).size + (lb).size ≤ nm.size + vl.size + lb.size + 1
              have z0 : (⟨#[110]⟩ : ByteArray).size = 1 := rfl
              have z1 : (⟨#[]⟩ : ByteArray).size = 0 := rfl
              omega
            have BX : Below wr.heap.size wr (wr.alloc (.cells #[.int .i64 2, .string nm, .string vl, .string lb] 28)) := (Below.refl _ _).alloc (Nat.le_refl _) _
            have hFx := (BX.block _ hFbl).trans HFX.out
            have f1 : (wr.alloc (.cells #[.int .i64 2, .string nm, .string vl, .string lb] 28)).cell? ⟨U.heap.size, 1, none⟩ = some (.slice oG j cG) := by simp [World.cell?, hFx]
            have HOX := hide (own_below HOG.out BX)
            have HBX1 := hide (HBX.out.trans (BX.mono HBX.out.size))
            have HFX1 := hide hFx
            have szX : (wr.alloc (.cells #[.int .i64 2, .string nm, .string vl, .string lb] 28)).heap.size = wr.heap.size + 1 := by simp
            have HCX := hide (cells_new (wr.alloc (.cells #[.int .i64 2, .string nm, .string vl, .string lb] 28)) (ic [⟨2, nm, vl, lb⟩]) 28)
            rw [szX] at HCX
            clear BX hFx
            go_wp2_with (first
              | (go_at_call 12; refine (HPK.out _).mono ?_; rintro x w9 ⟨rfl, rfl⟩)
              | (at_builtin; refine wpList_append_own _ rfl _ _ 29 rfl (U.heap.size + 1) 28 i0 (.agg #[.int .i64 0, .string ⟨#[]⟩, .string ⟨#[]⟩, .string ⟨#[]⟩]) 4 56 Tryd.underlying29 hin hz0 hz1 hz2 rfl (by decide) _ _ _ rfl (HOX.out.alloc _) ⟨wr.heap.size + 1, 0, none⟩ 1 1 (ic [⟨2, nm, vl, lb⟩]) rfl rfl HCX.out (ic_one _) ?c3 ?c4 ?c5 ?_))
            case c3 => unfold maxLen; omega
            case c4 => omega
            case c5 => simp; omega
            intro v7 w7 own7 hg7 _
            obtain ⟨o7, c7, rfl⟩ := form_w own7
            have hrb := own_ge HOX.out
            have hF7 := grown_at hg7 ((Below.heap_alloc _ _ _ (by rw [szX]; omega)).trans HFX1.out) (fun k' hk' => by have := hrb k' hk'; omega)
            have hB7 : Below U.heap.size U w7 := (HBX1.out.alloc (by rw [szX]; omega) _).grown hg7 (by simp; omega) (fun k' hk' => by have := hrb k' hk'; omega)
            have hz7' : U.heap.size + 1 ≤ w7.heap.size := by have := hg7.size; simp at this; omega
            have HY8 : Hid ((w7.setCell ⟨U.heap.size, 1, none⟩ (.slice o7 (j + 1) c7)).ownsRow (U.heap.size + 1) 28 4 (.slice o7 (j + 1) c7) (j + 1) (ic (ys ++ [⟨2, nm, vl, lb⟩]))) := by
              show World.ownsRow _ _ _ _ _ _ _
              rw [ic_app]
              exact own_off own7 _ _ (Or.inl (by show U.heap.size < U.heap.size + 1; omega))
            have HF8 := hide (set3 hF7 (.slice o7 (j + 1) c7)).1
            have HB8 := hide (hB7.setCell (p := ⟨U.heap.size, 1, none⟩) (Nat.le_refl _) (.slice o7 (j + 1) c7))
            have HZ8 : Hid (U.heap.size + 1 ≤ (w7.setCell ⟨U.heap.size, 1, none⟩ (.slice o7 (j + 1) c7)).heap.size) := by
              have e : (w7.setCell ⟨U.heap.size, 1, none⟩ (.slice o7 (j + 1) c7)).heap.size = w7.heap.size := by simp [World.setCell]
              show _ ≤ _
              omega
            have HL8 : Hid ((ys ++ [(⟨2, nm, vl, lb⟩ : Inp)]).length = j + 1) := by have := HYL.out; show _ = _; simp [this]
            have HA8 : Hid ((ys ++ [(⟨2, nm, vl, lb⟩ : Inp)]).all mayB = true) := by have h1 := HYO.out; have h2 := HMB.out; show _ = _; rw [List.all_append, h1]; simp [h2]
            have HW8 : Hid (insW (ys ++ [(⟨2, nm, vl, lb⟩ : Inp)]) ≤ 2 * insW (fi.take (j + 1))) := by
              have h1 := HYW.out; have h2 := HWX.out
              show _ ≤ _
              rw [HIT.out, insW_snoc, insW_snoc]
              omega
            have q3 : w7.cell? ⟨U.heap.size, 1, none⟩ = some (.slice oG j cG) := by simp [World.cell?, hF7]
            have q4 : w7.frozen? ⟨U.heap.size, 1, none⟩ = false := by simp [World.frozen?, hF7]
            have HS8 : Hid ((fi.take (j + 1)).all mayB = true → ys ++ [(⟨2, nm, vl, lb⟩ : Inp)] = fi.take (j + 1)) := tid_put HIT.out HYS.out (fun hm => by
              have hs := HSM.out hm
              obtain rfl : kd = 2 := by have := hs.1; omega
              rfl)
            generalize (ys ++ [(⟨2, nm, vl, lb⟩ : Inp)]) = ys' at *
            clear own7 hg7 hF7 hB7 hrb HOX HCX HFX1 HBX1 HMB HWX HPK HSM f1 szX
            go_wp2_with fail
            go_roundw
            case rel => exact ⟨j + 1, ys', _, by omega, by omega, by go_num, HL8, HA8, HW8, HS8, HY8, HF8, HB8, HZ8⟩
            case measure => simp [intOf] <;> omega
          · have HMB : Hid (mayB ⟨2, (⟨#[110]⟩ : ByteArray), vl, lb⟩ = true) := by
              show _ = _
              unfold mayB emp
              simp
            have HWX : Hid (inW ⟨2, (⟨#[110]⟩ : ByteArray), vl, lb⟩ ≤ inW ⟨kd, nm, vl, lb⟩ + 1) := by
              show ((⟨#[110]⟩ : ByteArray)).size + (vl).size + (lb).size ≤ nm.size + vl.size + lb.size + 1
              have z0 : (⟨#[110]⟩ : ByteArray).size = 1 := rfl
              have z1 : (⟨#[]⟩ : ByteArray).size = 0 := rfl
              omega
            have BX : Below wr.heap.size wr (wr.alloc (.cells #[.int .i64 2, .string (⟨#[110]⟩ : ByteArray), .string vl, .string lb] 28)) := (Below.refl _ _).alloc (Nat.le_refl _) _
            have hFx := (BX.block _ hFbl).trans HFX.out
            have f1 : (wr.alloc (.cells #[.int .i64 2, .string (⟨#[110]⟩ : ByteArray), .string vl, .string lb] 28)).cell? ⟨U.heap.size, 1, none⟩ = some (.slice oG j cG) := by simp [World.cell?, hFx]
            have HOX := hide (own_below HOG.out BX)
            have HBX1 := hide (HBX.out.trans (BX.mono HBX.out.size))
            have HFX1 := hide hFx
            have szX : (wr.alloc (.cells #[.int .i64 2, .string (⟨#[110]⟩ : ByteArray), .string vl, .string lb] 28)).heap.size = wr.heap.size + 1 := by simp
            have HCX := hide (cells_new (wr.alloc (.cells #[.int .i64 2, .string (⟨#[110]⟩ : ByteArray), .string vl, .string lb] 28)) (ic [⟨2, (⟨#[110]⟩ : ByteArray), vl, lb⟩]) 28)
            rw [szX] at HCX
            clear BX hFx
            go_wp2_with (first
              | (go_at_call 12; refine (HPK.out _).mono ?_; rintro x w9 ⟨rfl, rfl⟩)
              | (at_builtin; refine wpList_append_own _ rfl _ _ 29 rfl (U.heap.size + 1) 28 i0 (.agg #[.int .i64 0, .string ⟨#[]⟩, .string ⟨#[]⟩, .string ⟨#[]⟩]) 4 56 Tryd.underlying29 hin hz0 hz1 hz2 rfl (by decide) _ _ _ rfl (HOX.out.alloc _) ⟨wr.heap.size + 1, 0, none⟩ 1 1 (ic [⟨2, (⟨#[110]⟩ : ByteArray), vl, lb⟩]) rfl rfl HCX.out (ic_one _) ?c3 ?c4 ?c5 ?_))
            case c3 => unfold maxLen; omega
            case c4 => omega
            case c5 => simp; omega
            intro v7 w7 own7 hg7 _
            obtain ⟨o7, c7, rfl⟩ := form_w own7
            have hrb := own_ge HOX.out
            have hF7 := grown_at hg7 ((Below.heap_alloc _ _ _ (by rw [szX]; omega)).trans HFX1.out) (fun k' hk' => by have := hrb k' hk'; omega)
            have hB7 : Below U.heap.size U w7 := (HBX1.out.alloc (by rw [szX]; omega) _).grown hg7 (by simp; omega) (fun k' hk' => by have := hrb k' hk'; omega)
            have hz7' : U.heap.size + 1 ≤ w7.heap.size := by have := hg7.size; simp at this; omega
            have HY8 : Hid ((w7.setCell ⟨U.heap.size, 1, none⟩ (.slice o7 (j + 1) c7)).ownsRow (U.heap.size + 1) 28 4 (.slice o7 (j + 1) c7) (j + 1) (ic (ys ++ [⟨2, (⟨#[110]⟩ : ByteArray), vl, lb⟩]))) := by
              show World.ownsRow _ _ _ _ _ _ _
              rw [ic_app]
              exact own_off own7 _ _ (Or.inl (by show U.heap.size < U.heap.size + 1; omega))
            have HF8 := hide (set3 hF7 (.slice o7 (j + 1) c7)).1
            have HB8 := hide (hB7.setCell (p := ⟨U.heap.size, 1, none⟩) (Nat.le_refl _) (.slice o7 (j + 1) c7))
            have HZ8 : Hid (U.heap.size + 1 ≤ (w7.setCell ⟨U.heap.size, 1, none⟩ (.slice o7 (j + 1) c7)).heap.size) := by
              have e : (w7.setCell ⟨U.heap.size, 1, none⟩ (.slice o7 (j + 1) c7)).heap.size = w7.heap.size := by simp [World.setCell]
              show _ ≤ _
              omega
            have HL8 : Hid ((ys ++ [(⟨2, (⟨#[110]⟩ : ByteArray), vl, lb⟩ : Inp)]).length = j + 1) := by have := HYL.out; show _ = _; simp [this]
            have HA8 : Hid ((ys ++ [(⟨2, (⟨#[110]⟩ : ByteArray), vl, lb⟩ : Inp)]).all mayB = true) := by have h1 := HYO.out; have h2 := HMB.out; show _ = _; rw [List.all_append, h1]; simp [h2]
            have HW8 : Hid (insW (ys ++ [(⟨2, (⟨#[110]⟩ : ByteArray), vl, lb⟩ : Inp)]) ≤ 2 * insW (fi.take (j + 1))) := by
              have h1 := HYW.out; have h2 := HWX.out
              show _ ≤ _
              rw [HIT.out, insW_snoc, insW_snoc]
              omega
            have q3 : w7.cell? ⟨U.heap.size, 1, none⟩ = some (.slice oG j cG) := by simp [World.cell?, hF7]
            have q4 : w7.frozen? ⟨U.heap.size, 1, none⟩ = false := by simp [World.frozen?, hF7]
            have HS8 : Hid ((fi.take (j + 1)).all mayB = true → ys ++ [(⟨2, (⟨#[110]⟩ : ByteArray), vl, lb⟩ : Inp)] = fi.take (j + 1)) := tid_put HIT.out HYS.out (fun hm => by
              have hs := HSM.out hm
              rw [hen] at hs; exact absurd hs.2.1 (by decide))
            generalize (ys ++ [(⟨2, (⟨#[110]⟩ : ByteArray), vl, lb⟩ : Inp)]) = ys' at *
            clear own7 hg7 hF7 hB7 hrb HOX HCX HFX1 HBX1 HMB HWX HPK HSM f1 szX
            go_wp2_with fail
            go_roundw
            case rel => exact ⟨j + 1, ys', _, by omega, by omega, by go_num, HL8, HA8, HW8, HS8, HY8, HF8, HB8, HZ8⟩
            case measure => simp [intOf] <;> omega
          · have HMB : Hid (mayB ⟨3, nm, (⟨#[]⟩ : ByteArray), lb⟩ = true) := by
              show _ = _
              unfold mayB emp
              simp [hen]
            have HWX : Hid (inW ⟨3, nm, (⟨#[]⟩ : ByteArray), lb⟩ ≤ inW ⟨kd, nm, vl, lb⟩ + 1) := by
              show (nm).size + ((⟨#[]⟩ : ByteArray)).size + (lb).size ≤ nm.size + vl.size + lb.size + 1
              have z0 : (⟨#[110]⟩ : ByteArray).size = 1 := rfl
              have z1 : (⟨#[]⟩ : ByteArray).size = 0 := rfl
              omega
            have BX : Below wr.heap.size wr (wr.alloc (.cells #[.int .i64 3, .string nm, .string (⟨#[]⟩ : ByteArray), .string lb] 28)) := (Below.refl _ _).alloc (Nat.le_refl _) _
            have hFx := (BX.block _ hFbl).trans HFX.out
            have f1 : (wr.alloc (.cells #[.int .i64 3, .string nm, .string (⟨#[]⟩ : ByteArray), .string lb] 28)).cell? ⟨U.heap.size, 1, none⟩ = some (.slice oG j cG) := by simp [World.cell?, hFx]
            have HOX := hide (own_below HOG.out BX)
            have HBX1 := hide (HBX.out.trans (BX.mono HBX.out.size))
            have HFX1 := hide hFx
            have szX : (wr.alloc (.cells #[.int .i64 3, .string nm, .string (⟨#[]⟩ : ByteArray), .string lb] 28)).heap.size = wr.heap.size + 1 := by simp
            have HCX := hide (cells_new (wr.alloc (.cells #[.int .i64 3, .string nm, .string (⟨#[]⟩ : ByteArray), .string lb] 28)) (ic [⟨3, nm, (⟨#[]⟩ : ByteArray), lb⟩]) 28)
            rw [szX] at HCX
            clear BX hFx
            go_wp2_with (first
              | (go_at_call 12; refine (HPK.out _).mono ?_; rintro x w9 ⟨rfl, rfl⟩)
              | (at_builtin; refine wpList_append_own _ rfl _ _ 29 rfl (U.heap.size + 1) 28 i0 (.agg #[.int .i64 0, .string ⟨#[]⟩, .string ⟨#[]⟩, .string ⟨#[]⟩]) 4 56 Tryd.underlying29 hin hz0 hz1 hz2 rfl (by decide) _ _ _ rfl (HOX.out.alloc _) ⟨wr.heap.size + 1, 0, none⟩ 1 1 (ic [⟨3, nm, (⟨#[]⟩ : ByteArray), lb⟩]) rfl rfl HCX.out (ic_one _) ?c3 ?c4 ?c5 ?_))
            case c3 => unfold maxLen; omega
            case c4 => omega
            case c5 => simp; omega
            intro v7 w7 own7 hg7 _
            obtain ⟨o7, c7, rfl⟩ := form_w own7
            have hrb := own_ge HOX.out
            have hF7 := grown_at hg7 ((Below.heap_alloc _ _ _ (by rw [szX]; omega)).trans HFX1.out) (fun k' hk' => by have := hrb k' hk'; omega)
            have hB7 : Below U.heap.size U w7 := (HBX1.out.alloc (by rw [szX]; omega) _).grown hg7 (by simp; omega) (fun k' hk' => by have := hrb k' hk'; omega)
            have hz7' : U.heap.size + 1 ≤ w7.heap.size := by have := hg7.size; simp at this; omega
            have HY8 : Hid ((w7.setCell ⟨U.heap.size, 1, none⟩ (.slice o7 (j + 1) c7)).ownsRow (U.heap.size + 1) 28 4 (.slice o7 (j + 1) c7) (j + 1) (ic (ys ++ [⟨3, nm, (⟨#[]⟩ : ByteArray), lb⟩]))) := by
              show World.ownsRow _ _ _ _ _ _ _
              rw [ic_app]
              exact own_off own7 _ _ (Or.inl (by show U.heap.size < U.heap.size + 1; omega))
            have HF8 := hide (set3 hF7 (.slice o7 (j + 1) c7)).1
            have HB8 := hide (hB7.setCell (p := ⟨U.heap.size, 1, none⟩) (Nat.le_refl _) (.slice o7 (j + 1) c7))
            have HZ8 : Hid (U.heap.size + 1 ≤ (w7.setCell ⟨U.heap.size, 1, none⟩ (.slice o7 (j + 1) c7)).heap.size) := by
              have e : (w7.setCell ⟨U.heap.size, 1, none⟩ (.slice o7 (j + 1) c7)).heap.size = w7.heap.size := by simp [World.setCell]
              show _ ≤ _
              omega
            have HL8 : Hid ((ys ++ [(⟨3, nm, (⟨#[]⟩ : ByteArray), lb⟩ : Inp)]).length = j + 1) := by have := HYL.out; show _ = _; simp [this]
            have HA8 : Hid ((ys ++ [(⟨3, nm, (⟨#[]⟩ : ByteArray), lb⟩ : Inp)]).all mayB = true) := by have h1 := HYO.out; have h2 := HMB.out; show _ = _; rw [List.all_append, h1]; simp [h2]
            have HW8 : Hid (insW (ys ++ [(⟨3, nm, (⟨#[]⟩ : ByteArray), lb⟩ : Inp)]) ≤ 2 * insW (fi.take (j + 1))) := by
              have h1 := HYW.out; have h2 := HWX.out
              show _ ≤ _
              rw [HIT.out, insW_snoc, insW_snoc]
              omega
            have q3 : w7.cell? ⟨U.heap.size, 1, none⟩ = some (.slice oG j cG) := by simp [World.cell?, hF7]
            have q4 : w7.frozen? ⟨U.heap.size, 1, none⟩ = false := by simp [World.frozen?, hF7]
            have HS8 : Hid ((fi.take (j + 1)).all mayB = true → ys ++ [(⟨3, nm, (⟨#[]⟩ : ByteArray), lb⟩ : Inp)] = fi.take (j + 1)) := tid_put HIT.out HYS.out (fun hm => by
              have hs := HSM.out hm
              obtain rfl : kd = 3 := by have := hs.1; omega
              rw [hs.2.2.2 rfl])
            generalize (ys ++ [(⟨3, nm, (⟨#[]⟩ : ByteArray), lb⟩ : Inp)]) = ys' at *
            clear own7 hg7 hF7 hB7 hrb HOX HCX HFX1 HBX1 HMB HWX HPK HSM f1 szX
            go_wp2_with fail
            go_roundw
            case rel => exact ⟨j + 1, ys', _, by omega, by omega, by go_num, HL8, HA8, HW8, HS8, HY8, HF8, HB8, HZ8⟩
            case measure => simp [intOf] <;> omega
          · have HMB : Hid (mayB ⟨3, (⟨#[110]⟩ : ByteArray), (⟨#[]⟩ : ByteArray), lb⟩ = true) := by
              show _ = _
              unfold mayB emp
              simp
            have HWX : Hid (inW ⟨3, (⟨#[110]⟩ : ByteArray), (⟨#[]⟩ : ByteArray), lb⟩ ≤ inW ⟨kd, nm, vl, lb⟩ + 1) := by
              show ((⟨#[110]⟩ : ByteArray)).size + ((⟨#[]⟩ : ByteArray)).size + (lb).size ≤ nm.size + vl.size + lb.size + 1
              have z0 : (⟨#[110]⟩ : ByteArray).size = 1 := rfl
              have z1 : (⟨#[]⟩ : ByteArray).size = 0 := rfl
              omega
            have BX : Below wr.heap.size wr (wr.alloc (.cells #[.int .i64 3, .string (⟨#[110]⟩ : ByteArray), .string (⟨#[]⟩ : ByteArray), .string lb] 28)) := (Below.refl _ _).alloc (Nat.le_refl _) _
            have hFx := (BX.block _ hFbl).trans HFX.out
            have f1 : (wr.alloc (.cells #[.int .i64 3, .string (⟨#[110]⟩ : ByteArray), .string (⟨#[]⟩ : ByteArray), .string lb] 28)).cell? ⟨U.heap.size, 1, none⟩ = some (.slice oG j cG) := by simp [World.cell?, hFx]
            have HOX := hide (own_below HOG.out BX)
            have HBX1 := hide (HBX.out.trans (BX.mono HBX.out.size))
            have HFX1 := hide hFx
            have szX : (wr.alloc (.cells #[.int .i64 3, .string (⟨#[110]⟩ : ByteArray), .string (⟨#[]⟩ : ByteArray), .string lb] 28)).heap.size = wr.heap.size + 1 := by simp
            have HCX := hide (cells_new (wr.alloc (.cells #[.int .i64 3, .string (⟨#[110]⟩ : ByteArray), .string (⟨#[]⟩ : ByteArray), .string lb] 28)) (ic [⟨3, (⟨#[110]⟩ : ByteArray), (⟨#[]⟩ : ByteArray), lb⟩]) 28)
            rw [szX] at HCX
            clear BX hFx
            go_wp2_with (first
              | (go_at_call 12; refine (HPK.out _).mono ?_; rintro x w9 ⟨rfl, rfl⟩)
              | (at_builtin; refine wpList_append_own _ rfl _ _ 29 rfl (U.heap.size + 1) 28 i0 (.agg #[.int .i64 0, .string ⟨#[]⟩, .string ⟨#[]⟩, .string ⟨#[]⟩]) 4 56 Tryd.underlying29 hin hz0 hz1 hz2 rfl (by decide) _ _ _ rfl (HOX.out.alloc _) ⟨wr.heap.size + 1, 0, none⟩ 1 1 (ic [⟨3, (⟨#[110]⟩ : ByteArray), (⟨#[]⟩ : ByteArray), lb⟩]) rfl rfl HCX.out (ic_one _) ?c3 ?c4 ?c5 ?_))
            case c3 => unfold maxLen; omega
            case c4 => omega
            case c5 => simp; omega
            intro v7 w7 own7 hg7 _
            obtain ⟨o7, c7, rfl⟩ := form_w own7
            have hrb := own_ge HOX.out
            have hF7 := grown_at hg7 ((Below.heap_alloc _ _ _ (by rw [szX]; omega)).trans HFX1.out) (fun k' hk' => by have := hrb k' hk'; omega)
            have hB7 : Below U.heap.size U w7 := (HBX1.out.alloc (by rw [szX]; omega) _).grown hg7 (by simp; omega) (fun k' hk' => by have := hrb k' hk'; omega)
            have hz7' : U.heap.size + 1 ≤ w7.heap.size := by have := hg7.size; simp at this; omega
            have HY8 : Hid ((w7.setCell ⟨U.heap.size, 1, none⟩ (.slice o7 (j + 1) c7)).ownsRow (U.heap.size + 1) 28 4 (.slice o7 (j + 1) c7) (j + 1) (ic (ys ++ [⟨3, (⟨#[110]⟩ : ByteArray), (⟨#[]⟩ : ByteArray), lb⟩]))) := by
              show World.ownsRow _ _ _ _ _ _ _
              rw [ic_app]
              exact own_off own7 _ _ (Or.inl (by show U.heap.size < U.heap.size + 1; omega))
            have HF8 := hide (set3 hF7 (.slice o7 (j + 1) c7)).1
            have HB8 := hide (hB7.setCell (p := ⟨U.heap.size, 1, none⟩) (Nat.le_refl _) (.slice o7 (j + 1) c7))
            have HZ8 : Hid (U.heap.size + 1 ≤ (w7.setCell ⟨U.heap.size, 1, none⟩ (.slice o7 (j + 1) c7)).heap.size) := by
              have e : (w7.setCell ⟨U.heap.size, 1, none⟩ (.slice o7 (j + 1) c7)).heap.size = w7.heap.size := by simp [World.setCell]
              show _ ≤ _
              omega
            have HL8 : Hid ((ys ++ [(⟨3, (⟨#[110]⟩ : ByteArray), (⟨#[]⟩ : ByteArray), lb⟩ : Inp)]).length = j + 1) := by have := HYL.out; show _ = _; simp [this]
            have HA8 : Hid ((ys ++ [(⟨3, (⟨#[110]⟩ : ByteArray), (⟨#[]⟩ : ByteArray), lb⟩ : Inp)]).all mayB = true) := by have h1 := HYO.out; have h2 := HMB.out; show _ = _; rw [List.all_append, h1]; simp [h2]
            have HW8 : Hid (insW (ys ++ [(⟨3, (⟨#[110]⟩ : ByteArray), (⟨#[]⟩ : ByteArray), lb⟩ : Inp)]) ≤ 2 * insW (fi.take (j + 1))) := by
              have h1 := HYW.out; have h2 := HWX.out
              show _ ≤ _
              rw [HIT.out, insW_snoc, insW_snoc]
              omega
            have q3 : w7.cell? ⟨U.heap.size, 1, none⟩ = some (.slice oG j cG) := by simp [World.cell?, hF7]
            have q4 : w7.frozen? ⟨U.heap.size, 1, none⟩ = false := by simp [World.frozen?, hF7]
            have HS8 : Hid ((fi.take (j + 1)).all mayB = true → ys ++ [(⟨3, (⟨#[110]⟩ : ByteArray), (⟨#[]⟩ : ByteArray), lb⟩ : Inp)] = fi.take (j + 1)) := tid_put HIT.out HYS.out (fun hm => by
              have hs := HSM.out hm
              rw [hen] at hs; exact absurd hs.2.1 (by decide))
            generalize (ys ++ [(⟨3, (⟨#[110]⟩ : ByteArray), (⟨#[]⟩ : ByteArray), lb⟩ : Inp)]) = ys' at *
            clear own7 hg7 hF7 hB7 hrb HOX HCX HFX1 HBX1 HMB HWX HPK HSM f1 szX
            go_wp2_with fail
            go_roundw
            case rel => exact ⟨j + 1, ys', _, by omega, by omega, by go_num, HL8, HA8, HW8, HS8, HY8, HF8, HB8, HZ8⟩
            case measure => simp [intOf] <;> omega
          · have HMB : Hid (mayB ⟨4, nm, vl, lb⟩ = true) := by
              show _ = _
              unfold mayB emp
              simp [hen]
            have HWX : Hid (inW ⟨4, nm, vl, lb⟩ ≤ inW ⟨kd, nm, vl, lb⟩ + 1) := by
              show (nm).size + (vl).size + (lb).size ≤ nm.size + vl.size + lb.size + 1
              have z0 : (⟨#[110]⟩ : ByteArray).size = 1 := rfl
              have z1 : (⟨#[]⟩ : ByteArray).size = 0 := rfl
              omega
            have BX : Below wr.heap.size wr (wr.alloc (.cells #[.int .i64 4, .string nm, .string vl, .string lb] 28)) := (Below.refl _ _).alloc (Nat.le_refl _) _
            have hFx := (BX.block _ hFbl).trans HFX.out
            have f1 : (wr.alloc (.cells #[.int .i64 4, .string nm, .string vl, .string lb] 28)).cell? ⟨U.heap.size, 1, none⟩ = some (.slice oG j cG) := by simp [World.cell?, hFx]
            have HOX := hide (own_below HOG.out BX)
            have HBX1 := hide (HBX.out.trans (BX.mono HBX.out.size))
            have HFX1 := hide hFx
            have szX : (wr.alloc (.cells #[.int .i64 4, .string nm, .string vl, .string lb] 28)).heap.size = wr.heap.size + 1 := by simp
            have HCX := hide (cells_new (wr.alloc (.cells #[.int .i64 4, .string nm, .string vl, .string lb] 28)) (ic [⟨4, nm, vl, lb⟩]) 28)
            rw [szX] at HCX
            clear BX hFx
            go_wp2_with (first
              | (go_at_call 12; refine (HPK.out _).mono ?_; rintro x w9 ⟨rfl, rfl⟩)
              | (at_builtin; refine wpList_append_own _ rfl _ _ 29 rfl (U.heap.size + 1) 28 i0 (.agg #[.int .i64 0, .string ⟨#[]⟩, .string ⟨#[]⟩, .string ⟨#[]⟩]) 4 56 Tryd.underlying29 hin hz0 hz1 hz2 rfl (by decide) _ _ _ rfl (HOX.out.alloc _) ⟨wr.heap.size + 1, 0, none⟩ 1 1 (ic [⟨4, nm, vl, lb⟩]) rfl rfl HCX.out (ic_one _) ?c3 ?c4 ?c5 ?_))
            case c3 => unfold maxLen; omega
            case c4 => omega
            case c5 => simp; omega
            intro v7 w7 own7 hg7 _
            obtain ⟨o7, c7, rfl⟩ := form_w own7
            have hrb := own_ge HOX.out
            have hF7 := grown_at hg7 ((Below.heap_alloc _ _ _ (by rw [szX]; omega)).trans HFX1.out) (fun k' hk' => by have := hrb k' hk'; omega)
            have hB7 : Below U.heap.size U w7 := (HBX1.out.alloc (by rw [szX]; omega) _).grown hg7 (by simp; omega) (fun k' hk' => by have := hrb k' hk'; omega)
            have hz7' : U.heap.size + 1 ≤ w7.heap.size := by have := hg7.size; simp at this; omega
            have HY8 : Hid ((w7.setCell ⟨U.heap.size, 1, none⟩ (.slice o7 (j + 1) c7)).ownsRow (U.heap.size + 1) 28 4 (.slice o7 (j + 1) c7) (j + 1) (ic (ys ++ [⟨4, nm, vl, lb⟩]))) := by
              show World.ownsRow _ _ _ _ _ _ _
              rw [ic_app]
              exact own_off own7 _ _ (Or.inl (by show U.heap.size < U.heap.size + 1; omega))
            have HF8 := hide (set3 hF7 (.slice o7 (j + 1) c7)).1
            have HB8 := hide (hB7.setCell (p := ⟨U.heap.size, 1, none⟩) (Nat.le_refl _) (.slice o7 (j + 1) c7))
            have HZ8 : Hid (U.heap.size + 1 ≤ (w7.setCell ⟨U.heap.size, 1, none⟩ (.slice o7 (j + 1) c7)).heap.size) := by
              have e : (w7.setCell ⟨U.heap.size, 1, none⟩ (.slice o7 (j + 1) c7)).heap.size = w7.heap.size := by simp [World.setCell]
              show _ ≤ _
              omega
            have HL8 : Hid ((ys ++ [(⟨4, nm, vl, lb⟩ : Inp)]).length = j + 1) := by have := HYL.out; show _ = _; simp [this]
            have HA8 : Hid ((ys ++ [(⟨4, nm, vl, lb⟩ : Inp)]).all mayB = true) := by have h1 := HYO.out; have h2 := HMB.out; show _ = _; rw [List.all_append, h1]; simp [h2]
            have HW8 : Hid (insW (ys ++ [(⟨4, nm, vl, lb⟩ : Inp)]) ≤ 2 * insW (fi.take (j + 1))) := by
              have h1 := HYW.out; have h2 := HWX.out
              show _ ≤ _
              rw [HIT.out, insW_snoc, insW_snoc]
              omega
            have q3 : w7.cell? ⟨U.heap.size, 1, none⟩ = some (.slice oG j cG) := by simp [World.cell?, hF7]
            have q4 : w7.frozen? ⟨U.heap.size, 1, none⟩ = false := by simp [World.frozen?, hF7]
            have HS8 : Hid ((fi.take (j + 1)).all mayB = true → ys ++ [(⟨4, nm, vl, lb⟩ : Inp)] = fi.take (j + 1)) := tid_put HIT.out HYS.out (fun hm => by
              have hs := HSM.out hm
              obtain rfl : kd = 4 := by have := hs.1; omega
              rfl)
            generalize (ys ++ [(⟨4, nm, vl, lb⟩ : Inp)]) = ys' at *
            clear own7 hg7 hF7 hB7 hrb HOX HCX HFX1 HBX1 HMB HWX HPK HSM f1 szX
            go_wp2_with fail
            go_roundw
            case rel => exact ⟨j + 1, ys', _, by omega, by omega, by go_num, HL8, HA8, HW8, HS8, HY8, HF8, HB8, HZ8⟩
            case measure => simp [intOf] <;> omega
          · have HMB : Hid (mayB ⟨4, (⟨#[110]⟩ : ByteArray), vl, lb⟩ = true) := by
              show _ = _
              unfold mayB emp
              simp
            have HWX : Hid (inW ⟨4, (⟨#[110]⟩ : ByteArray), vl, lb⟩ ≤ inW ⟨kd, nm, vl, lb⟩ + 1) := by
              show ((⟨#[110]⟩ : ByteArray)).size + (vl).size + (lb).size ≤ nm.size + vl.size + lb.size + 1
              have z0 : (⟨#[110]⟩ : ByteArray).size = 1 := rfl
              have z1 : (⟨#[]⟩ : ByteArray).size = 0 := rfl
              omega
            have BX : Below wr.heap.size wr (wr.alloc (.cells #[.int .i64 4, .string (⟨#[110]⟩ : ByteArray), .string vl, .string lb] 28)) := (Below.refl _ _).alloc (Nat.le_refl _) _
            have hFx := (BX.block _ hFbl).trans HFX.out
            have f1 : (wr.alloc (.cells #[.int .i64 4, .string (⟨#[110]⟩ : ByteArray), .string vl, .string lb] 28)).cell? ⟨U.heap.size, 1, none⟩ = some (.slice oG j cG) := by simp [World.cell?, hFx]
            have HOX := hide (own_below HOG.out BX)
            have HBX1 := hide (HBX.out.trans (BX.mono HBX.out.size))
            have HFX1 := hide hFx
            have szX : (wr.alloc (.cells #[.int .i64 4, .string (⟨#[110]⟩ : ByteArray), .string vl, .string lb] 28)).heap.size = wr.heap.size + 1 := by simp
            have HCX := hide (cells_new (wr.alloc (.cells #[.int .i64 4, .string (⟨#[110]⟩ : ByteArray), .string vl, .string lb] 28)) (ic [⟨4, (⟨#[110]⟩ : ByteArray), vl, lb⟩]) 28)
            rw [szX] at HCX
            clear BX hFx
            go_wp2_with (first
              | (go_at_call 12; refine (HPK.out _).mono ?_; rintro x w9 ⟨rfl, rfl⟩)
              | (at_builtin; refine wpList_append_own _ rfl _ _ 29 rfl (U.heap.size + 1) 28 i0 (.agg #[.int .i64 0, .string ⟨#[]⟩, .string ⟨#[]⟩, .string ⟨#[]⟩]) 4 56 Tryd.underlying29 hin hz0 hz1 hz2 rfl (by decide) _ _ _ rfl (HOX.out.alloc _) ⟨wr.heap.size + 1, 0, none⟩ 1 1 (ic [⟨4, (⟨#[110]⟩ : ByteArray), vl, lb⟩]) rfl rfl HCX.out (ic_one _) ?c3 ?c4 ?c5 ?_))
            case c3 => unfold maxLen; omega
            case c4 => omega
            case c5 => simp; omega
            intro v7 w7 own7 hg7 _
            obtain ⟨o7, c7, rfl⟩ := form_w own7
            have hrb := own_ge HOX.out
            have hF7 := grown_at hg7 ((Below.heap_alloc _ _ _ (by rw [szX]; omega)).trans HFX1.out) (fun k' hk' => by have := hrb k' hk'; omega)
            have hB7 : Below U.heap.size U w7 := (HBX1.out.alloc (by rw [szX]; omega) _).grown hg7 (by simp; omega) (fun k' hk' => by have := hrb k' hk'; omega)
            have hz7' : U.heap.size + 1 ≤ w7.heap.size := by have := hg7.size; simp at this; omega
            have HY8 : Hid ((w7.setCell ⟨U.heap.size, 1, none⟩ (.slice o7 (j + 1) c7)).ownsRow (U.heap.size + 1) 28 4 (.slice o7 (j + 1) c7) (j + 1) (ic (ys ++ [⟨4, (⟨#[110]⟩ : ByteArray), vl, lb⟩]))) := by
              show World.ownsRow _ _ _ _ _ _ _
              rw [ic_app]
              exact own_off own7 _ _ (Or.inl (by show U.heap.size < U.heap.size + 1; omega))
            have HF8 := hide (set3 hF7 (.slice o7 (j + 1) c7)).1
            have HB8 := hide (hB7.setCell (p := ⟨U.heap.size, 1, none⟩) (Nat.le_refl _) (.slice o7 (j + 1) c7))
            have HZ8 : Hid (U.heap.size + 1 ≤ (w7.setCell ⟨U.heap.size, 1, none⟩ (.slice o7 (j + 1) c7)).heap.size) := by
              have e : (w7.setCell ⟨U.heap.size, 1, none⟩ (.slice o7 (j + 1) c7)).heap.size = w7.heap.size := by simp [World.setCell]
              show _ ≤ _
              omega
            have HL8 : Hid ((ys ++ [(⟨4, (⟨#[110]⟩ : ByteArray), vl, lb⟩ : Inp)]).length = j + 1) := by have := HYL.out; show _ = _; simp [this]
            have HA8 : Hid ((ys ++ [(⟨4, (⟨#[110]⟩ : ByteArray), vl, lb⟩ : Inp)]).all mayB = true) := by have h1 := HYO.out; have h2 := HMB.out; show _ = _; rw [List.all_append, h1]; simp [h2]
            have HW8 : Hid (insW (ys ++ [(⟨4, (⟨#[110]⟩ : ByteArray), vl, lb⟩ : Inp)]) ≤ 2 * insW (fi.take (j + 1))) := by
              have h1 := HYW.out; have h2 := HWX.out
              show _ ≤ _
              rw [HIT.out, insW_snoc, insW_snoc]
              omega
            have q3 : w7.cell? ⟨U.heap.size, 1, none⟩ = some (.slice oG j cG) := by simp [World.cell?, hF7]
            have q4 : w7.frozen? ⟨U.heap.size, 1, none⟩ = false := by simp [World.frozen?, hF7]
            have HS8 : Hid ((fi.take (j + 1)).all mayB = true → ys ++ [(⟨4, (⟨#[110]⟩ : ByteArray), vl, lb⟩ : Inp)] = fi.take (j + 1)) := tid_put HIT.out HYS.out (fun hm => by
              have hs := HSM.out hm
              rw [hen] at hs; exact absurd hs.2.1 (by decide))
            generalize (ys ++ [(⟨4, (⟨#[110]⟩ : ByteArray), vl, lb⟩ : Inp)]) = ys' at *
            clear own7 hg7 hF7 hB7 hrb HOX HCX HFX1 HBX1 HMB HWX HPK HSM f1 szX
            go_wp2_with fail
            go_roundw
            case rel => exact ⟨j + 1, ys', _, by omega, by omega, by go_num, HL8, HA8, HW8, HS8, HY8, HF8, HB8, HZ8⟩
            case measure => simp [intOf] <;> omega
        · have hsp : ¬ (j : Int) < (fi.length : Int) ∨ (j : Int) < (fi.length : Int) ∧ ¬ (j : Int) < 32 := by omega
          rcases hsp with hsp | hsp
          · have hQ6 := (HBX.out.block _ hQl).trans HQ.out
            have q2 : wr.cell? ⟨w.heap.size + 1 + 1, 2, none⟩ = some vN := by simp [World.cell?, hQ6]
            have HRG := hide (range3 HFX.out)
            have htl : gs.length = k := HTI.out.len
            have hrow : U.ownsRow (w.heap.size + 3) 31 3 vN k (fc gs sv) := by have := HF.out.row; rwa [htl] at this
            obtain ⟨oN, cN, hvN⟩ := form_w hrow
            have HRW := hide (own_below hrow HBX.out)
            clear hrow
            have HFO := hide (HF.out.below HBX.out)
            have HOO := hide (own_below HO.out HBX.out)
            have hz6 := HBX.out.size
            have HC6 := hide (cells_new wr [.string fa, .slice oG j cG, .string fb] 31)
            have HTL := hide htl
            subst hvN
            clear htl
            go_wp2_with (first
              | (refine wpList_load_mid rfl 31 _ rfl U.heap.size 0 rfl _ _ HRG.out Tryd.underlying31 rfl (by kernel_rfl) ?_)
              | (at_builtin; refine wpList_append_own _ rfl _ _ 23 rfl (w.heap.size + 3) 31 j0 (.agg #[.string ⟨#[]⟩, .slice none 0 0, .string ⟨#[]⟩]) 3 56 Tryd.underlying23 hjn hy0 hy1 hy2 rfl (by decide) _ _ _ rfl (HRW.out.alloc _) ⟨wr.heap.size, 0, none⟩ 1 1 [.string fa, .slice oG j cG, .string fb] rfl rfl HC6.out ?c2 ?c3 ?c4 ?c5 ?_))
            case c2 => first | rfl | exact ⟨rfl, rfl, rfl⟩ | (intro u hu; simp at hu; rcases hu with rfl | rfl | rfl <;> rfl)
            case c3 => unfold maxLen; omega
            case c4 => omega
            case c5 => have := HZ.out; simp; omega
            intro v7 w7 own7 hg7 _
            obtain ⟨o7, c7, rfl⟩ := form_w own7
            have hrb := own_ge HRW.out
            have hzw := HZ.out
            have hQ7 := grown_at hg7 ((Below.heap_alloc _ _ _ (by omega)).trans hQ6) (fun k' hk' => by have := hrb k' hk'; omega)
            have hP7 := grown_at hg7 ((Below.heap_alloc _ _ _ (by omega)).trans ((HBX.out.block _ hPl).trans HP.out)) (fun k' hk' => by have := hrb k' hk'; omega)
            have hR7 := grown_at hg7 ((Below.heap_alloc _ _ _ (by omega)).trans ((HBX.out.block _ hRl).trans HR.out)) (fun k' hk' => by have := hrb k' hk'; omega)
            have hB7 : Below w.heap.size w w7 := (hwx.alloc (by have := HB.out.size; omega) _).grown hg7 (by have := HB.out.size; simp; omega) (fun k' hk' => by have := hrb k' hk'; omega)
            have E7 : ∀ i (h : i < sv.length), w7.ownsRow (w.heap.size + 3) 28 4 sv[i] (gs[i]'(by have := HF.out.len; omega)).ins.length (ic (gs[i]'(by have := HF.out.len; omega)).ins) := fun i h => ((HFO.out.each i h).alloc _).kept hg7 (rows_ne (by decide) (HFO.out.each i h) HRW.out)
            have N7 : w7.ownsRow (w.heap.size + 3) 28 4 (.slice oG j cG) ys.length (ic ys) := by rw [HYL.out]; exact own_low ((HOG.out.alloc _).kept hg7 (rows_ne (by decide) HOG.out HRW.out)) (by omega)
            have O7 := (HOO.out.alloc (.cells #[.string fa, .slice oG j cG, .string fb] 31)).kept hg7 (rows_ne (by decide) HOO.out HRW.out)
            have hz7' : w.heap.size + 3 ≤ w7.heap.size := by have := hg7.size; simp at this; omega
            have hql : w.heap.size + 1 + 1 < w.heap.size + 3 := by omega
            have HF8 : Hid (OwnF (w.heap.size + 3) (w7.setCell ⟨w.heap.size + 1 + 1, 2, none⟩ (.slice o7 (k + 1) c7)) (.slice o7 (k + 1) c7) (gs ++ [⟨fa, ys, fb⟩]) (sv ++ [.slice oG j cG])) := by
              show OwnF _ _ _ _ _
              refine OwnF.off ?_ _ _ (Or.inl hql)
              refine ownF_snoc (f := ⟨fa, ys, fb⟩) HF.out.len ?_ E7 N7
              rw [HTL.out]
              exact own7
            have HT8 : Hid (Tidy fs (k + 1) (gs ++ [⟨fa, ys, fb⟩])) := by
              refine ⟨by simp [HTL.out], fun f hf => ?_, ?_, fun f hf => ?_, fun h => ?_⟩
              · rcases List.mem_append.1 hf with h | h
                · exact HTI.out.ok f h
                · simp at h; subst h; exact HYO.out
              · have h1 := HTI.out.wt
                have h2 := HYW.out
                have h3 := insW_le fi j
                rw [HTK2.out, frmsW_snoc, frmsW_snoc]
                show _ + (fa.size + insW ys + fb.size + 100) ≤ 2 * (_ + (fa.size + insW fi + fb.size + 100))
                omega
              · rcases List.mem_append.1 hf with h | h
                · exact HTI.out.short f h
                · simp at h; subst h; have := HYL.out; show ys.length ≤ 32; omega
              · rw [HTK2.out] at h ⊢
                have h1 := HTI.out.same (fun f hf => h f (List.mem_append_left _ hf))
                have h2 := h ⟨fa, fi, fb⟩ (List.mem_append_right _ (List.mem_singleton.2 rfl))
                have h3 : j = fi.length := by have := h2.2; dsimp only at this; omega
                have h4 := HYS.out
                rw [h3, List.take_length] at h4
                rw [h1, h4 h2.1]
            have HO8 := hide (own_off O7 ⟨w.heap.size + 1 + 1, 2, none⟩ (.slice o7 (k + 1) c7) (Or.inl hql))
            have HQ8 := hide (set3 hQ7 (.slice o7 (k + 1) c7)).2
            have HP8 : Hid ((w7.setCell ⟨w.heap.size + 1 + 1, 2, none⟩ (.slice o7 (k + 1) c7)).heap[w.heap.size]? = _) := hide ((Below.heap_setCell w7 ⟨w.heap.size + 1 + 1, 2, none⟩ (.slice o7 (k + 1) c7) w.heap.size (by show w.heap.size ≠ w.heap.size + 1 + 1; omega)).trans hP7)
            have HR8 : Hid ((w7.setCell ⟨w.heap.size + 1 + 1, 2, none⟩ (.slice o7 (k + 1) c7)).heap[w.heap.size + 1]? = _) := hide ((Below.heap_setCell w7 ⟨w.heap.size + 1 + 1, 2, none⟩ (.slice o7 (k + 1) c7) (w.heap.size + 1) (by show w.heap.size + 1 ≠ w.heap.size + 1 + 1; omega)).trans hR7)
            have HB8 := hide (hB7.setCell (p := ⟨w.heap.size + 1 + 1, 2, none⟩) (by show w.heap.size ≤ w.heap.size + 1 + 1; omega) (.slice o7 (k + 1) c7))
            have HZ8 : Hid (w.heap.size + 3 ≤ (w7.setCell ⟨w.heap.size + 1 + 1, 2, none⟩ (.slice o7 (k + 1) c7)).heap.size) := by
              have e : (w7.setCell ⟨w.heap.size + 1 + 1, 2, none⟩ (.slice o7 (k + 1) c7)).heap.size = w7.heap.size := by simp [World.setCell]
              show _ ≤ _
              omega
            have q3 : w7.cell? ⟨w.heap.size + 1 + 1, 2, none⟩ = some (.slice oN k cN) := by simp [World.cell?, hQ7]
            have q4 : w7.frozen? ⟨w.heap.size + 1 + 1, 2, none⟩ = false := by simp [World.frozen?, hQ7]
            generalize (gs ++ [(⟨fa, ys, fb⟩ : Frm)]) = gs' at *
            clear own7 hg7 hQ7 hP7 hR7 hB7 E7 N7 O7 hQ6 q2 HFO HOO HRW HRG HC6 hrb d1 p2
            go_wp2_with fail
            go_roundw
            case rel => exact ⟨k + 1, _, _, gs', by omega, by go_num, HT8, HF8, HO8, HQ8, HP8, HR8, HB8, HZ8⟩
            case measure => simp [intOf] <;> omega
          · obtain ⟨hsp1, hsp2⟩ := hsp
            have hQ6 := (HBX.out.block _ hQl).trans HQ.out
            have q2 : wr.cell? ⟨w.heap.size + 1 + 1, 2, none⟩ = some vN := by simp [World.cell?, hQ6]
            have HRG := hide (range3 HFX.out)
            have htl : gs.length = k := HTI.out.len
            have hrow : U.ownsRow (w.heap.size + 3) 31 3 vN k (fc gs sv) := by have := HF.out.row; rwa [htl] at this
            obtain ⟨oN, cN, hvN⟩ := form_w hrow
            have HRW := hide (own_below hrow HBX.out)
            clear hrow
            have HFO := hide (HF.out.below HBX.out)
            have HOO := hide (own_below HO.out HBX.out)
            have hz6 := HBX.out.size
            have HC6 := hide (cells_new wr [.string fa, .slice oG j cG, .string fb] 31)
            have HTL := hide htl
            subst hvN
            clear htl
            go_wp2_with (first
              | (refine wpList_load_mid rfl 31 _ rfl U.heap.size 0 rfl _ _ HRG.out Tryd.underlying31 rfl (by kernel_rfl) ?_)
              | (at_builtin; refine wpList_append_own _ rfl _ _ 23 rfl (w.heap.size + 3) 31 j0 (.agg #[.string ⟨#[]⟩, .slice none 0 0, .string ⟨#[]⟩]) 3 56 Tryd.underlying23 hjn hy0 hy1 hy2 rfl (by decide) _ _ _ rfl (HRW.out.alloc _) ⟨wr.heap.size, 0, none⟩ 1 1 [.string fa, .slice oG j cG, .string fb] rfl rfl HC6.out ?c2 ?c3 ?c4 ?c5 ?_))
            case c2 => first | rfl | exact ⟨rfl, rfl, rfl⟩ | (intro u hu; simp at hu; rcases hu with rfl | rfl | rfl <;> rfl)
            case c3 => unfold maxLen; omega
            case c4 => omega
            case c5 => have := HZ.out; simp; omega
            intro v7 w7 own7 hg7 _
            obtain ⟨o7, c7, rfl⟩ := form_w own7
            have hrb := own_ge HRW.out
            have hzw := HZ.out
            have hQ7 := grown_at hg7 ((Below.heap_alloc _ _ _ (by omega)).trans hQ6) (fun k' hk' => by have := hrb k' hk'; omega)
            have hP7 := grown_at hg7 ((Below.heap_alloc _ _ _ (by omega)).trans ((HBX.out.block _ hPl).trans HP.out)) (fun k' hk' => by have := hrb k' hk'; omega)
            have hR7 := grown_at hg7 ((Below.heap_alloc _ _ _ (by omega)).trans ((HBX.out.block _ hRl).trans HR.out)) (fun k' hk' => by have := hrb k' hk'; omega)
            have hB7 : Below w.heap.size w w7 := (hwx.alloc (by have := HB.out.size; omega) _).grown hg7 (by have := HB.out.size; simp; omega) (fun k' hk' => by have := hrb k' hk'; omega)
            have E7 : ∀ i (h : i < sv.length), w7.ownsRow (w.heap.size + 3) 28 4 sv[i] (gs[i]'(by have := HF.out.len; omega)).ins.length (ic (gs[i]'(by have := HF.out.len; omega)).ins) := fun i h => ((HFO.out.each i h).alloc _).kept hg7 (rows_ne (by decide) (HFO.out.each i h) HRW.out)
            have N7 : w7.ownsRow (w.heap.size + 3) 28 4 (.slice oG j cG) ys.length (ic ys) := by rw [HYL.out]; exact own_low ((HOG.out.alloc _).kept hg7 (rows_ne (by decide) HOG.out HRW.out)) (by omega)
            have O7 := (HOO.out.alloc (.cells #[.string fa, .slice oG j cG, .string fb] 31)).kept hg7 (rows_ne (by decide) HOO.out HRW.out)
            have hz7' : w.heap.size + 3 ≤ w7.heap.size := by have := hg7.size; simp at this; omega
            have hql : w.heap.size + 1 + 1 < w.heap.size + 3 := by omega
            have HF8 : Hid (OwnF (w.heap.size + 3) (w7.setCell ⟨w.heap.size + 1 + 1, 2, none⟩ (.slice o7 (k + 1) c7)) (.slice o7 (k + 1) c7) (gs ++ [⟨fa, ys, fb⟩]) (sv ++ [.slice oG j cG])) := by
              show OwnF _ _ _ _ _
              refine OwnF.off ?_ _ _ (Or.inl hql)
              refine ownF_snoc (f := ⟨fa, ys, fb⟩) HF.out.len ?_ E7 N7
              rw [HTL.out]
              exact own7
            have HT8 : Hid (Tidy fs (k + 1) (gs ++ [⟨fa, ys, fb⟩])) := by
              refine ⟨by simp [HTL.out], fun f hf => ?_, ?_, fun f hf => ?_, fun h => ?_⟩
              · rcases List.mem_append.1 hf with h | h
                · exact HTI.out.ok f h
                · simp at h; subst h; exact HYO.out
              · have h1 := HTI.out.wt
                have h2 := HYW.out
                have h3 := insW_le fi j
                rw [HTK2.out, frmsW_snoc, frmsW_snoc]
                show _ + (fa.size + insW ys + fb.size + 100) ≤ 2 * (_ + (fa.size + insW fi + fb.size + 100))
                omega
              · rcases List.mem_append.1 hf with h | h
                · exact HTI.out.short f h
                · simp at h; subst h; have := HYL.out; show ys.length ≤ 32; omega
              · rw [HTK2.out] at h ⊢
                have h1 := HTI.out.same (fun f hf => h f (List.mem_append_left _ hf))
                have h2 := h ⟨fa, fi, fb⟩ (List.mem_append_right _ (List.mem_singleton.2 rfl))
                have h3 : j = fi.length := by have := h2.2; dsimp only at this; omega
                have h4 := HYS.out
                rw [h3, List.take_length] at h4
                rw [h1, h4 h2.1]
            have HO8 := hide (own_off O7 ⟨w.heap.size + 1 + 1, 2, none⟩ (.slice o7 (k + 1) c7) (Or.inl hql))
            have HQ8 := hide (set3 hQ7 (.slice o7 (k + 1) c7)).2
            have HP8 : Hid ((w7.setCell ⟨w.heap.size + 1 + 1, 2, none⟩ (.slice o7 (k + 1) c7)).heap[w.heap.size]? = _) := hide ((Below.heap_setCell w7 ⟨w.heap.size + 1 + 1, 2, none⟩ (.slice o7 (k + 1) c7) w.heap.size (by show w.heap.size ≠ w.heap.size + 1 + 1; omega)).trans hP7)
            have HR8 : Hid ((w7.setCell ⟨w.heap.size + 1 + 1, 2, none⟩ (.slice o7 (k + 1) c7)).heap[w.heap.size + 1]? = _) := hide ((Below.heap_setCell w7 ⟨w.heap.size + 1 + 1, 2, none⟩ (.slice o7 (k + 1) c7) (w.heap.size + 1) (by show w.heap.size + 1 ≠ w.heap.size + 1 + 1; omega)).trans hR7)
            have HB8 := hide (hB7.setCell (p := ⟨w.heap.size + 1 + 1, 2, none⟩) (by show w.heap.size ≤ w.heap.size + 1 + 1; omega) (.slice o7 (k + 1) c7))
            have HZ8 : Hid (w.heap.size + 3 ≤ (w7.setCell ⟨w.heap.size + 1 + 1, 2, none⟩ (.slice o7 (k + 1) c7)).heap.size) := by
              have e : (w7.setCell ⟨w.heap.size + 1 + 1, 2, none⟩ (.slice o7 (k + 1) c7)).heap.size = w7.heap.size := by simp [World.setCell]
              show _ ≤ _
              omega
            have q3 : w7.cell? ⟨w.heap.size + 1 + 1, 2, none⟩ = some (.slice oN k cN) := by simp [World.cell?, hQ7]
            have q4 : w7.frozen? ⟨w.heap.size + 1 + 1, 2, none⟩ = false := by simp [World.frozen?, hQ7]
            generalize (gs ++ [(⟨fa, ys, fb⟩ : Frm)]) = gs' at *
            clear own7 hg7 hQ7 hP7 hR7 hB7 E7 N7 O7 hQ6 q2 HFO HOO HRW HRG HC6 hrb d1 p2
            go_wp2_with fail
            go_roundw
            case rel => exact ⟨k + 1, _, _, gs', by omega, by go_num, HT8, HF8, HO8, HQ8, HP8, HR8, HB8, HZ8⟩
            case measure => simp [intOf] <;> omega
    · have hk8 : ¬ (k : Int) < (fs.length : Int) := by omega
      obtain rfl : k = fs.length := by omega
      have htl : gs.length = fs.length := HTI.out.len
      have hrow := HF.out.row
      rw [htl] at hrow
      obtain ⟨oN, cN, hvN⟩ := form_w hrow
      subst hvN
      have HTL := hide htl
      clear hrow htl
      have HRG := hide (range3 HQ.out)
      have r0 : U.cell? ⟨w.heap.size + 1, 0, none⟩ = some (.string ⟨#[]⟩) := by have := HR.out; simp [World.cell?, this]
      have r1 : U.cell? ⟨w.heap.size + 1, 0 + 1, none⟩ = some (.slice none 0 0) := by have := HR.out; simp [World.cell?, this]
      have r2 : U.cell? ⟨w.heap.size + 1, 0 + 2, none⟩ = some (.slice none 0 0) := by have := HR.out; simp [World.cell?, this]
      have y0 : U.frozen? ⟨w.heap.size + 1, 0, none⟩ = false := by have := HR.out; simp [World.frozen?, this]
      have y1 : U.frozen? ⟨w.heap.size + 1, 0 + 1, none⟩ = false := by have := HR.out; simp [World.frozen?, this]
      have y2 : U.frozen? ⟨w.heap.size + 1, 0 + 2, none⟩ = false := by have := HR.out; simp [World.frozen?, this]
      go_wp2_with (refine wpList_load_mid rfl 25 _ rfl (w.heap.size + 1 + 1) 0 rfl _ _ HRG.out Tryd.underlying25 rfl sizePg ?_)
      have hrl : w.heap.size + 1 < w.heap.size + 3 := by omega
      have HO9 := hide (own_off (own_off (own_off HO.out ⟨w.heap.size + 1, 0, none⟩ (.string t) (Or.inl hrl)) ⟨w.heap.size + 1, 1, none⟩ (.slice o1 ls.length c1) (Or.inl hrl)) ⟨w.heap.size + 1, 2, none⟩ (.slice oN fs.length cN) (Or.inl hrl))
      have HF9 := hide (((HF.out.off ⟨w.heap.size + 1, 0, none⟩ (.string t) (Or.inl hrl)).off ⟨w.heap.size + 1, 1, none⟩ (.slice o1 ls.length c1) (Or.inl hrl)).off ⟨w.heap.size + 1, 2, none⟩ (.slice oN fs.length cN) (Or.inl hrl))
      have hwl : w.heap.size ≤ w.heap.size + 1 := Nat.le_succ _
      have HB9 := hide (((HB.out.setCell (p := ⟨w.heap.size + 1, 0, none⟩) hwl (.string t)).setCell (p := ⟨w.heap.size + 1, 1, none⟩) hwl (.slice o1 ls.length c1)).setCell (p := ⟨w.heap.size + 1, 2, none⟩) hwl (.slice oN fs.length cN))
      refine bodyPost_ret (results_c rfl _ rfl (range3 (set_three HR.out (.string t) (.slice o1 ls.length c1) (.slice oN fs.length cN))) Tryd.underlying25 rfl sizePg) rfl ?_
      exact ⟨_, _, _, _, rfl, own_low HO9.out (by omega), HF9.out.low (by omega), HTI.out, HB9.out⟩
end Go.Proofs.YtjalggkhpnfbiaaDoor.pg
