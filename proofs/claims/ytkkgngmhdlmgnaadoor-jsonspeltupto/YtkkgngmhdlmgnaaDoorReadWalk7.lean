import Derived.Test.YtkkgngmhdlmgnaaDoorReadWalk6
namespace Go.Proofs.YtkkgngmhdlmgnaaDoor.jw
open Go.ChangeShapes Go.WideShapes Go.ChangeAt Go.RowKit Go.Proofs.YtkkgngmhdlmgnaaDoor.common
attribute [local go_sem ↓] Go.wp_at_zero Go.wp_at_succ

/-- what Atoi answers: the number and no error, or some number and an error -/
theorem atoi_any (s : ByteArray) (w : World) (hs : s.size ≤ 281474976710656) (h1 : ∃ te pe, w.cell? ⟨20, 0, none⟩ = some (.iface te pe)) (h2 : ∃ te pe, w.cell? ⟨21, 0, none⟩ = some (.iface te pe)) :
    Calls Tryd.prog 85 #[.string s] w fun e w' => Below w.heap.size w w' ∧ ∃ x ev, e = .returned (.tuple #[.int .i64 x, ev]) ∧ ((Lib.atoiAll s.data.toList = .ok x ∧ ev = .nilIface) ∨ ((∀ v, Lib.atoiAll s.data.toList ≠ .ok v) ∧ ∃ t p, ev = .iface t (.pointer (some p)))) := by
  obtain ⟨te, pe, h1⟩ := h1
  obtain ⟨tr, pr, h2⟩ := h2
  rcases h : Lib.atoiAll s.data.toList with v | _ | _
  · refine (Any.strconv_Atoi_ok jl.lays172 s (by omega) v h w).mono ?_
    rintro e w' ⟨rfl, hw⟩
    refine ⟨?_, _, _, rfl, Or.inl ⟨rfl, rfl⟩⟩
    rcases hw with rfl | ⟨t, rfl⟩
    · exact Below.refl _ _
    · exact ⟨rfl, rfl, rfl, by rw [Lib.bytesWorld_size]; omega, fun j hj => Lib.bytesWorld_at_old _ _ _ j hj⟩
  · refine (Any.strconv_Atoi_syntax jl.lays172 s hs h _ w h1 (Or.inr ⟨te, pe, rfl⟩)).mono ?_
    rintro e w' ⟨N, rfl, _, _, hb⟩
    exact ⟨hb, _, _, rfl, Or.inr ⟨fun v e => (by cases e), _, _, rfl⟩⟩
  · refine (Any.strconv_Atoi_range jl.lays172 s hs h _ w h2 (Or.inr ⟨tr, pr, rfl⟩)).mono ?_
    rintro e w' ⟨N, rfl, _, _, hb⟩
    exact ⟨hb, _, _, rfl, Or.inr ⟨fun v e => (by cases e), _, _, rfl⟩⟩

theorem extract_take (s : ByteArray) (a k : Nat) : (s.extract a k).data.toList = (s.data.toList.drop a).take (k - a) := by
  rw [ByteArray.data_extract, Array.toList_extract]

/-- the number at a: its sign, its digits -/
theorem number_eq (s : ByteArray) (a : Nat) (h : a < s.size) : Json.number (s.data.toList.drop a) =
    match Json.digitsOf (s.data.toList.drop (if s[a] = 45 then a + 1 else a)) with
    | none => none
    | some k => match Lib.atoiAll ((s.data.toList.drop a).take ((if s[a] = 45 then a + 1 else a) + k - a)) with
      | .ok v => some (v, s.data.toList.drop ((if s[a] = 45 then a + 1 else a) + k))
      | _ => none := by
  rw [drop_cons s a h, Json.number]
  by_cases hc : s[a] = 45
  · rw [if_pos hc, if_pos hc]
    cases Json.digitsOf (s.data.toList.drop (a + 1)) with
    | none => rfl
    | some k =>
      simp only [if_pos hc]
      rw [show a + 1 + k - a = k + 1 by omega, ← drop_cons s a h, List.drop_drop, show a + (k + 1) = a + 1 + k by omega]
      rfl
  · rw [if_neg hc, if_neg hc, ← drop_cons s a h]
    cases Json.digitsOf (s.data.toList.drop a) with
    | none => rfl
    | some k =>
      simp only [if_neg hc]
      rw [show a + k - a = k by omega, List.drop_drop]
      rfl

/-- digits from a to k -/
def Digs (s : ByteArray) (a k : Nat) : Prop := a ≤ k ∧ ∀ x ∈ (s.data.toList.drop a).take (k - a), Json.isDig x = true
theorem Digs.step {s : ByteArray} {a k : Nat} (h : Digs s a k) (hk : k < s.size) (hd : Json.isDig s[k] = true) : Digs s a (k + 1) := by
  refine ⟨by have := h.1; omega, fun x hx => ?_⟩
  have hka := h.1
  rw [show k + 1 - a = (k - a) + 1 by omega, List.take_add_one] at hx
  rcases List.mem_append.1 hx with hx | hx
  · exact h.2 x hx
  · rw [List.getElem?_drop, show a + (k - a) = k by omega, List.getElem?_eq_getElem (by rw [len_list]; exact hk)] at hx
    simp at hx
    have e : x = s[k] := hx
    rw [e]; exact hd
theorem digs_stop {s : ByteArray} {a k : Nat} (h : Digs s a k) (ha : a < s.size) (h0 : s[a] ≠ 48) (hk : k < s.size) (hd : Json.isDig s[k] = false) : Json.digitsOf (s.data.toList.drop a) = some (k - a) := by
  have hka := h.1
  have e : s.data.toList.drop a = (s.data.toList.drop a).take (k - a) ++ s[k] :: s.data.toList.drop (k + 1) := by
    rw [← drop_cons s k hk]
    have := List.take_append_drop (k - a) (s.data.toList.drop a)
    rw [List.drop_drop, show a + (k - a) = k by omega] at this
    exact this.symm
  have hw := Json.takeWhile_all Json.isDig _ s[k] (s.data.toList.drop (k + 1)) h.2 hd
  rw [← e] at hw
  have hlen : ((s.data.toList.drop a).take (k - a)).length = k - a := by rw [List.length_take, List.length_drop, len_list]; omega
  rw [drop_cons s a ha] at hw hlen ⊢
  rw [Json.digitsOf, if_neg h0, hw.1, hw.2, if_neg (by simp), hlen]
theorem dropWhile_nil (p : UInt8 → Bool) : ∀ l : List UInt8, (∀ x ∈ l, p x = true) → l.dropWhile p = []
  | [], _ => rfl
  | c :: r, h => by rw [List.dropWhile_cons, if_pos (h c (by simp))]; exact dropWhile_nil p r (fun x hx => h x (List.mem_cons_of_mem _ hx))
theorem digs_end {s : ByteArray} {a : Nat} (h : Digs s a s.size) (ha : a < s.size) (h0 : s[a] ≠ 48) : Json.digitsOf (s.data.toList.drop a) = none := by
  have e : (s.data.toList.drop a).take (s.size - a) = s.data.toList.drop a := List.take_of_length_le (by rw [List.length_drop, len_list]; exact Nat.le_refl _)
  have h2 := h.2
  rw [e] at h2
  have hw : (s.data.toList.drop a).dropWhile Json.isDig = [] := dropWhile_nil _ _ h2
  rw [drop_cons s a ha] at hw ⊢
  rw [Json.digitsOf, if_neg h0, if_pos hw]

theorem takeIf_all (rb : Nat) (s : ByteArray) (a : Nat) (mv : Value) (n : Nat) (w : World) (c : UInt8) (I : Int) (hI : I = (c.toNat : Int)) (h : a < s.size) (hs : s.size < 9223372036854775800) (hr : Rd w rb s a mv n) :
    Calls Tryd.prog 48 #[ptr rb, .int .u8 I] w fun e w' => ∃ x, Ok rb s mv n w (if s[a] = c then a + 1 else a) (.bool x) e w' := by
  by_cases hc : s[a] = c
  · rw [if_pos hc]; exact (takeIf_yes rb s a mv n w c I hI h hc hs hr).mono fun e w' h => ⟨true, h⟩
  · rw [if_neg hc]; exact (takeIf_no rb s a mv n w c I hI h hc hr).mono fun e w' h => ⟨false, h⟩

set_option maxRecDepth 100000 in
set_option maxHeartbeats 6400000 in
theorem number_any (rb : Nat) (s : ByteArray) (a : Nat) (mv : Value) (n : Nat) (ea : Addr) (w : World) (ha : a ≤ s.size) (hs : s.size ≤ reachBytes) (hr : Rd w rb s a mv n) (he : Env w rb ea) :
    Calls Tryd.prog 64 #[ptr rb] w fun e w' => Opt rb s mv n ea w ((Json.number (s.data.toList.drop a)).map fun x => (.int .i64 x.1, x.2)) e w' := by
  have hs63 : s.size < 9223372036854775800 := by unfold reachBytes at hs; omega
  obtain ⟨o, ho⟩ : ∃ o, Json.number (s.data.toList.drop a) = o := ⟨_, rfl⟩
  rw [ho]
  have HR := hide hr
  have HE := hide he
  have cc1 := hr.c1
  by_cases h : a < s.size
  · rw [number_eq s a h] at ho
    have HC := hide (takeIf_all rb s a mv n w 45 45 rfl h hs63 hr)
    obtain ⟨a1, ha1⟩ : ∃ a1, (if s[a] = 45 then a + 1 else a) = a1 := ⟨_, rfl⟩
    have hle : a ≤ a1 ∧ a1 ≤ s.size := by rw [← ha1]; split <;> omega
    rw [ha1] at ho HC
    have HO := hide ho
    have HLE := hide hle
    clear ho hr he ha1 hle
    go_enter Tryd.func64, Tryd.ntmps64
    go_wp2_with fail
    refine HC.out.mono ?_
    rintro e w1 ⟨x, rfl, hk, hr⟩
    have HK1 := hide hk
    have HR1 := hide hr
    have HE1 := hide (HE.out.kp HR.out hk)
    clear hk hr cc1
    by_cases h1 : a1 < s.size
    · by_cases hc : s[a1] = 48
      · have HC2 := hide (takeIf_yes rb s a1 mv n w1 48 48 rfl h1 hc hs63 HR1.out)
        have hdg : Json.digitsOf (s.data.toList.drop a1) = some 1 := by rw [drop_cons s a1 h1, Json.digitsOf, if_pos hc]
        have ho := HO.out
        rw [hdg] at ho
        simp only at ho
        have HO1 := hide ho
        clear hdg ho hc
        go_wp2_with fail
        refine HC2.out.mono ?_
        rintro e wr ⟨rfl, hk, hr⟩
        have HKK := hide (HK1.out.trans hk)
        have HRR := hide hr
        have HEE := hide (HE1.out.kp HR1.out hk)
        have c0 := hr.c0
        have c1 := hr.c1
        clear hk hr
        obtain ⟨A2, hA2⟩ : ∃ A2, a1 + 1 = A2 := ⟨_, rfl⟩
        rw [hA2] at HO1 HRR c1
        have HA2 : Hid (a ≤ A2 ∧ A2 ≤ s.size) := ⟨by have := HLE.out.1; omega, by omega⟩
        have HK9 := HKK
        clear hA2
        have kA : (0 : Int) ≤ (a : Int) := by omega
        have kB : (a : Int) ≤ (A2 : Int) := by have := HA2.out; omega
        have kC : (A2 : Int) ≤ (s.size : Int) := by have := HA2.out; omega
        have kD : (0 : Int) ≤ (A2 : Int) := by omega
        have kE : (a : Int).toNat = a := by omega
        have kF : (A2 : Int).toNat = A2 := by omega
        go_wp2_with fail
        go_region_held3 (fun W => W.cell? ⟨rb, 0, none⟩ = some (.string s) ∧ W.cell? ⟨rb, 1, none⟩ = some (.int .i64 A2)) (first | go_keep | exact ⟨(hb5.cell HRR.out.lt).trans c0, (hb5.cell HRR.out.lt).trans c1⟩)
          ((go_at_call 85; refine (atoi_any (s.extract a A2) _ (by rw [ByteArray.size_extract]; unfold reachBytes at hs; omega) (by exact HEE.out.syn) (by exact HEE.out.rng)).mono ?_; rintro x w5 ⟨hb5, X5, ev, rfl, hres⟩))
        have hr5 : Rd w5 rb s A2 mv n := HRR.out.drew.below hb5
        have HK5 := hide (HK9.out.drew.trans (Kp.of hb5))
        have HR5 := hide hr5
        have ce : w5.cell? ⟨1, 0, none⟩ = some (X ea) := (HE.out.kp HR.out HK5.out).txt
        rw [extract_take] at hres
        clear hb5 hr5 c0 c1
        rcases hres with ⟨hat, rfl⟩ | ⟨hat, tt, pp, rfl⟩
        · have HX : Hid (o = some (X5, s.data.toList.drop A2)) := by
            show _ = _
            rw [← HO1.out, hat]
          clear hat ce
          go_wp2
          go_ret
          exact Or.inl ⟨_, _, A2, by rw [HX.out]; rfl, HA2.out.2, rfl, rfl, HK5.out, HR5.out⟩
        · have HX : Hid (o = none) := by
            show _ = _
            rw [← HO1.out]
            split
            · rename_i hv; exact absurd hv (hat _)
            · rfl
          clear hat
          go_wp2
          exact ⟨rfl, Or.inr ⟨by rw [HX.out]; rfl, rfl, HK5.out⟩⟩
      · have HC2 := hide (takeIf_no rb s a1 mv n w1 48 48 rfl h1 hc HR1.out)
        have H48 := hide hc
        clear hc
        go_wp2_with fail
        refine HC2.out.mono ?_
        rintro e w2 ⟨rfl, hk, hr⟩
        have HK2 := hide (HK1.out.trans hk)
        have HR2 := hide hr
        have HE2 := hide (HE1.out.kp HR1.out hk)
        clear hk hr
        go_wp2_with fail
        go_loopw [] (fun wr => ∃ k, k ≤ s.size ∧ Digs s a1 k ∧ Kp rb w wr ∧ Rd wr rb s k mv n) (fun wr => s.size - place wr rb)
        case atStart => exact ⟨a1, HLE.out.2, ⟨Nat.le_refl _, fun x hx => by simp at hx⟩, HK2.out, HR2.out⟩
        case round =>
          obtain ⟨k, hk, hdk, hkp, hrr⟩ := hrel
          have HD := hide hdk
          have HKK := hide hkp
          have HRR0 := hide hrr
          have HPL := hide hrr.place
          have HEE0 := hide (HE.out.kp HR.out hkp)
          clear hdk hkp hrr
          by_cases hlt : k < s.size
          · have HC3 := hide (peek_some rb s k mv n wr hlt HRR0.out)
            have HI := hide (fun W => isDigit_any s[k] W)
            by_cases hd : Json.isDig s[k] = true
            · rw [hd] at HI
              have HDS := hide (HD.out.step hlt hd)
              clear hd
              go_wp2_with fail
              refine HC3.out.mono ?_
              rintro e w3 ⟨rfl, hk3, hr3⟩
              have HK3 := hide (HKK.out.trans hk3)
              have HR3 := hide hr3
              have e1 := hr3.c1
              have f1 := hr3.nf 1
              clear hk3 hr3
              go_wp2_with fail
              refine (HI.out w3).mono ?_
              rintro e w4 ⟨rfl, rfl⟩
              go_wp2
              go_roundw
              case rel => exact ⟨k + 1, by omega, HDS.out, HK3.out.trans (Kp.set _ _ _ _), HR3.out.set1 _ _ (by omega)⟩
              case measure =>
                have h1 := HPL.out
                have h2 := (HR3.out.set1 ((k : Int) + 1) (k + 1) (by omega)).place
                omega
            · have hd : Json.isDig s[k] = false := by simpa using hd
              rw [hd] at HI
              have hdg := digs_stop HD.out h1 H48.out hlt hd
              have ho := HO.out
              have hkle := HD.out.1
              rw [hdg] at ho
              simp only at ho
              rw [show a1 + (k - a1) = k by omega] at ho
              have HO1 := hide ho
              have HKA := hide hkle
              clear hd hdg ho hkle
              go_wp2_with fail
              refine HC3.out.mono ?_
              rintro e w3 ⟨rfl, hk3, hr3⟩
              have HK3 := hide (HKK.out.trans hk3)
              have HRR := hide hr3
              have HEE := hide (HEE0.out.kp HRR0.out hk3)
              have c0 := hr3.c0
              have c1 := hr3.c1
              clear hk3 hr3
              go_wp2_with fail
              refine (HI.out w3).mono ?_
              rintro e w4 ⟨rfl, rfl⟩
              obtain ⟨A2, rfl⟩ : ∃ A2, A2 = k := ⟨_, rfl⟩
              have HA2 : Hid (a ≤ A2 ∧ A2 ≤ s.size) := ⟨by have h1 := HLE.out.1; have h2 := HKA.out; omega, hk⟩
              have HK9 := HK3
              have kA : (0 : Int) ≤ (a : Int) := by omega
              have kB : (a : Int) ≤ (A2 : Int) := by have := HA2.out; omega
              have kC : (A2 : Int) ≤ (s.size : Int) := by have := HA2.out; omega
              have kD : (0 : Int) ≤ (A2 : Int) := by omega
              have kE : (a : Int).toNat = a := by omega
              have kF : (A2 : Int).toNat = A2 := by omega
              go_wp2_with fail
              go_region_held3 (fun W => W.cell? ⟨rb, 0, none⟩ = some (.string s) ∧ W.cell? ⟨rb, 1, none⟩ = some (.int .i64 A2)) (first | go_keep | exact ⟨(hb5.cell HRR.out.lt).trans c0, (hb5.cell HRR.out.lt).trans c1⟩)
                ((go_at_call 85; refine (atoi_any (s.extract a A2) _ (by rw [ByteArray.size_extract]; unfold reachBytes at hs; omega) (by exact HEE.out.syn) (by exact HEE.out.rng)).mono ?_; rintro x w5 ⟨hb5, X5, ev, rfl, hres⟩))
              have hr5 : Rd w5 rb s A2 mv n := HRR.out.drew.below hb5
              have HK5 := hide (HK9.out.drew.trans (Kp.of hb5))
              have HR5 := hide hr5
              have ce : w5.cell? ⟨1, 0, none⟩ = some (X ea) := (HE.out.kp HR.out HK5.out).txt
              rw [extract_take] at hres
              clear hb5 hr5 c0 c1
              rcases hres with ⟨hat, rfl⟩ | ⟨hat, tt, pp, rfl⟩
              · have HX : Hid (o = some (X5, s.data.toList.drop A2)) := by
                  show _ = _
                  rw [← HO1.out, hat]
                clear hat ce
                go_wp2
                go_ret
                exact Or.inl ⟨_, _, A2, by rw [HX.out]; rfl, HA2.out.2, rfl, rfl, HK5.out, HR5.out⟩
              · have HX : Hid (o = none) := by
                  show _ = _
                  rw [← HO1.out]
                  split
                  · rename_i hv; exact absurd hv (hat _)
                  · rfl
                clear hat
                go_wp2
                exact ⟨rfl, Or.inr ⟨by rw [HX.out]; rfl, rfl, HK5.out⟩⟩
          · obtain rfl : k = s.size := by omega
            have hdg := digs_end HD.out h1 H48.out
            have ho := HO.out
            rw [hdg] at ho
            have HX : Hid (o = none) := ho.symm
            have HC3 := hide (peek_none rb s mv n ea wr HRR0.out HEE0.out)
            clear hdg ho
            go_wp2_with fail
            refine HC3.out.mono ?_
            rintro e w3 ⟨rfl, hk3⟩
            have HK3 := hide (HKK.out.trans hk3)
            clear hk3
            go_wp2
            exact ⟨rfl, Or.inr ⟨by rw [HX.out]; rfl, rfl, HK3.out⟩⟩
    · have hla := HLE.out.2
      obtain rfl : a1 = s.size := by omega
      have ho := HO.out
      rw [drop_end s _ h1, Json.digitsOf] at ho
      have HX : Hid (o = none) := ho.symm
      have HC2 := hide (takeIf_none rb s mv n ea w1 48 HR1.out HE1.out)
      clear ho hla
      go_wp2_with fail
      refine HC2.out.mono ?_
      rintro e w2 ⟨rfl, hk2⟩
      have HK2 := hide (HK1.out.trans hk2)
      clear hk2
      go_wp2
      exact ⟨rfl, Or.inr ⟨by rw [HX.out]; rfl, rfl, HK2.out⟩⟩
  · obtain rfl : a = s.size := by omega
    rw [drop_end s _ h] at ho
    have HX : Hid (o = none) := ho.symm
    have HC := hide (takeIf_none rb s mv n ea w 45 hr he)
    clear hr he ho
    go_enter Tryd.func64, Tryd.ntmps64
    go_wp2_with fail
    refine HC.out.mono ?_
    rintro e w1 ⟨rfl, hk⟩
    have HK := hide hk
    clear hk
    go_wp2
    exact ⟨rfl, Or.inr ⟨by rw [HX.out]; rfl, rfl, HK.out⟩⟩
end Go.Proofs.YtkkgngmhdlmgnaaDoor.jw
