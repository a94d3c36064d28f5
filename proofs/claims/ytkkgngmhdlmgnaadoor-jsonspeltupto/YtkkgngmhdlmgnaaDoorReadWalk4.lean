import Derived.Test.YtkkgngmhdlmgnaaDoorReadWalk3
namespace Go.Proofs.YtkkgngmhdlmgnaaDoor.jw
open Go.ChangeShapes Go.WideShapes Go.ChangeAt Go.RowKit Go.Proofs.YtkkgngmhdlmgnaaDoor.common
attribute [local go_sem ↓] Go.wp_at_zero Go.wp_at_succ

theorem or16 (m d : Nat) (hm : m < 65536) (hd : d < 16) : bits .or .i32 ((m : Int) * 16) (d : Int) = ((16 * m + d : Nat) : Int) := by
  rw [bits_join .i32 31 (by decide) wraps_i32 4 ((m : Int) * 16) (d : Int) (by omega) (by omega) (by omega) (by omega) (by omega) (by omega)]
  omega

set_option maxRecDepth 100000 in
set_option maxHeartbeats 1600000 in
theorem unit_any (rb : Nat) (s : ByteArray) (a : Nat) (mv : Value) (n : Nat) (ea : Addr) (w : World) (ha : a ≤ s.size) (hs : s.size < 9223372036854775800) (hr : Rd w rb s a mv n) (he : Env w rb ea) :
    Calls Tryd.prog 105 #[ptr rb] w fun e w' => Opt rb s mv n ea w ((Json.unit (s.data.toList.drop a)).map fun x => (.int .i32 (x.1 : Int), x.2)) e w' := by
  obtain ⟨o, ho⟩ : ∃ o, Json.unit (s.data.toList.drop a) = o := ⟨_, rfl⟩
  rw [ho]
  have HO := hide ho
  have HR := hide hr
  have HE := hide he
  clear ho hr he
  go_enter Tryd.func105, Tryd.ntmps105
  go_wp2_with fail
  go_loopw [3, 4] (fun u i wr => ∃ k m a' : Nat, k ≤ 4 ∧ u = .int .i32 m ∧ i = .int .i64 k ∧ m < 16 ^ k ∧ a' ≤ s.size ∧ Json.hexs (4 - k) m (s.data.toList.drop a') = o ∧ Kp rb w wr ∧ Rd wr rb s a' mv n) (fun _ i _ => 4 - (intOf i).toNat)
  case atStart => exact ⟨0, 0, a, by omega, rfl, rfl, by decide, ha, HO.out, Kp.refl _ _, HR.out⟩
  case round =>
    obtain ⟨k, m, a', hk4, rfl, rfl, hm, ha', hx, hkp, hrr⟩ := hrel
    have HK := hide hkp
    have HRR := hide hrr
    have HEE := hide (HE.out.kp HR.out hkp)
    have hm2 : m < 65536 := by
      have : 16 ^ k ≤ 16 ^ 4 := Nat.pow_le_pow_right (by decide) hk4
      omega
    by_cases hlt : k < 4
    · have hki : (k : Int) < 4 := by omega
      have HX := hide hx
      have HM := hide hm
      have hm3 : Hid (m < 4096) := by
        have : 16 ^ k ≤ 16 ^ 3 := Nat.pow_le_pow_right (by decide) (by omega)
        show m < 4096
        omega
      have b1 : (m : Int) * 16 < 2147483648 := by omega
      have b0 : (0 : Int) ≤ (m : Int) * 16 := by omega
      clear hx hkp hrr hm
      go_wp2_with fail
      refine (digit_any rb s a' mv n ea wr ha' hs HRR.out HEE.out).mono ?_
      rintro e w1 (⟨v, r, a1, ho1, ha1, hd1, rfl, hk1, hr1⟩ | ⟨ho1, rfl, hk1⟩)
      · obtain ⟨⟨d, r'⟩, hd, he⟩ := Option.map_eq_some_iff.1 ho1
        simp only [Prod.mk.injEq] at he
        obtain ⟨rfl, rfl⟩ := he
        have hstep : Json.hexs (4 - (k + 1)) (16 * m + d) r' = o ∧ d < 16 := by
          cases hl : s.data.toList.drop a' with
          | nil => rw [hl] at hd; cases hd
          | cons c t =>
            rw [hl] at hd
            simp only [digOf] at hd
            obtain ⟨d', hd', hd2⟩ := Option.map_eq_some_iff.1 hd
            simp only [Prod.mk.injEq] at hd2
            obtain ⟨rfl, rfl⟩ := hd2
            have h2 := HX.out
            rw [hl, show 4 - k = (4 - (k + 1)) + 1 by omega, Json.hexs, hd'] at h2
            exact ⟨h2, Json.hexa_lt hd'⟩
        have hor := or16 m d hm2 hstep.2
        have HS := hide hstep
        have HK1 := hide (HK.out.trans hk1)
        have HR1 := hide hr1
        have HD1 := hide hd1
        clear hd ho1 hstep hk1 hr1 hd1
        go_wp2
        go_roundw
        case rel => exact ⟨k + 1, 16 * m + d, a1, by omega, by first | rfl | (show Value.int .i32 _ = Value.int .i32 _; congr 1), by go_num, by have h1 := HM.out; have h2 := HS.out.2; rw [Nat.pow_succ]; omega, ha1, by rw [HD1.out]; exact HS.out.1, HK1.out, HR1.out⟩
        case measure => simp [intOf] <;> omega
      · have HN : Hid (o = none) := by
          show _ = _
          rw [← HX.out]
          cases hl : s.data.toList.drop a' with
          | nil => rw [show 4 - k = (4 - (k + 1)) + 1 by omega, Json.hexs]
          | cons c t =>
            rw [hl] at ho1
            simp only [digOf, Option.map_map, Option.map_eq_none_iff] at ho1
            rw [show 4 - k = (4 - (k + 1)) + 1 by omega, Json.hexs, ho1]
        have HK1 := hide (HK.out.trans hk1)
        clear ho1 hk1
        go_wp2
        exact ⟨rfl, Or.inr ⟨by rw [HN.out]; rfl, rfl, HK1.out⟩⟩
    · obtain rfl : k = 4 := by omega
      have HX : Hid (o = some (m, s.data.toList.drop a')) := by show _ = _; rw [← hx]; rfl
      clear hx hkp hrr hm
      go_wp2
      go_ret
      refine Or.inl ⟨_, _, a', ?_, ha', rfl, rfl, HK.out, HRR.out⟩
      rw [HX.out]; rfl

theorem some_of_map {f : Nat → Value} {x : Option (Nat × List UInt8)} {v : Value} {r : List UInt8} (h : x.map (fun y => (f y.1, y.2)) = some (v, r)) : ∃ k, x = some (k, r) ∧ v = f k := by
  obtain ⟨⟨k, r'⟩, hx, he⟩ := Option.map_eq_some_iff.1 h
  simp only [Prod.mk.injEq] at he
  obtain ⟨rfl, rfl⟩ := he
  exact ⟨k, hx, rfl⟩
theorem none_of_map {α β : Type} {f : α → β} {x : Option α} (h : x.map f = none) : x = none := by simpa using h

set_option maxRecDepth 100000 in
set_option maxHeartbeats 3200000 in
theorem numbered_any (rb : Nat) (s : ByteArray) (a : Nat) (mv : Value) (n : Nat) (ea : Addr) (w : World) (ha : a ≤ s.size) (hs : s.size < 9223372036854775800) (hr : Rd w rb s a mv n) (he : Env w rb ea) :
    Calls Tryd.prog 97 #[ptr rb] w fun e w' => Opt rb s mv n ea w ((Json.numbered (s.data.toList.drop a)).map fun x => (.int .i32 (x.1 : Int), x.2)) e w' := by
  obtain ⟨o, ho⟩ : ∃ o, Json.numbered (s.data.toList.drop a) = o := ⟨_, rfl⟩
  rw [ho]
  have HR := hide hr
  have HE := hide he
  unfold Json.numbered at ho
  clear hr he
  go_enter Tryd.func97, Tryd.ntmps97
  go_wp2_with fail
  refine (unit_any rb s a mv n ea w ha hs HR.out HE.out).mono ?_
  rintro e w1 (⟨v, r, a1, ho1, ha1, hd1, rfl, hk1, hr1⟩ | ⟨ho1, rfl, hk1⟩)
  · obtain ⟨h, hu, rfl⟩ := some_of_map (f := fun k => .int .i32 (k : Int)) ho1
    have hlt := hide (Json.unit_lt hu)
    rw [hu] at ho
    simp only at ho
    have HK1 := hide hk1
    have HR1 := hide hr1
    have HE1 := hide (HE.out.kp HR.out hk1)
    have HD1 := hide hd1
    clear ho1 hu hk1 hr1 hd1
    obtain ⟨H, hH⟩ : ∃ H : Int, (h : Int) = H := ⟨_, rfl⟩
    rw [hH]
    have HH := hide hH
    clear hH
    by_cases h1 : h < 55296
    · have k1 : H < 55296 := by have := HH.out; omega
      rw [if_pos (Or.inl h1)] at ho
      have HO := hide ho
      clear ho h1
      go_wp2
      go_ret
      exact Or.inl ⟨_, _, a1, by rw [← HO.out, ← HH.out]; rfl, ha1, HD1.out, rfl, HK1.out, HR1.out⟩
    · have k1 : ¬ H < 55296 := by have := HH.out; omega
      by_cases h2 : 57344 ≤ h
      · have k2 : (57344 : Int) ≤ H := by have := HH.out; omega
        rw [if_pos (Or.inr h2)] at ho
        have HO := hide ho
        clear ho h1 h2
        go_wp2
        go_ret
        exact Or.inl ⟨_, _, a1, by rw [← HO.out, ← HH.out]; rfl, ha1, HD1.out, rfl, HK1.out, HR1.out⟩
      · have k2 : ¬ (57344 : Int) ≤ H := by have := HH.out; omega
        rw [if_neg (by omega)] at ho
        have HO := hide ho
        have H1 := hide h1
        have H2 := hide h2
        clear ho h1 h2
        go_wp2_with fail
        refine (word_any rb s ⟨#[92, 117]⟩ a1 mv n ea w1 ha1 hs HR1.out HE1.out).mono ?_
        rintro e w2 (⟨v, r2, a2, ho2, ha2, hd2, rfl, hk2, hr2⟩ | ⟨ho2, rfl, hk2⟩)
        · obtain ⟨r2', hw2, he2⟩ := Option.map_eq_some_iff.1 ho2
          simp only [Prod.mk.injEq] at he2
          obtain ⟨rfl, rfl⟩ := he2
          rw [HD1.out] at hw2
          have hw2' : Json.word [92, 117] r = some r2' := hw2
          have ho3 := HO.out
          rw [hw2'] at ho3
          simp only at ho3
          have HO3 := hide ho3
          have HK2 := hide (HK1.out.trans hk2)
          have HR2 := hide hr2
          have HE2 := hide (HE1.out.kp HR1.out hk2)
          have HD2 := hide hd2
          clear ho2 hw2 hw2' ho3 hk2 hr2 hd2 HO
          go_wp2_with fail
          refine (unit_any rb s a2 mv n ea w2 ha2 hs HR2.out HE2.out).mono ?_
          rintro e w3 (⟨v3, r3, a3, ho4, ha3, hd3, rfl, hk3, hr3⟩ | ⟨ho4, rfl, hk3⟩)
          · obtain ⟨k, hu2, rfl⟩ := some_of_map (f := fun k => .int .i32 (k : Int)) ho4
            have hlt2 := hide (Json.unit_lt hu2)
            rw [HD2.out] at hu2
            have ho5 := HO3.out
            rw [hu2] at ho5
            simp only at ho5
            have HK3 := hide (HK2.out.trans hk3)
            have HR3 := hide hr3
            have ce : w3.cell? ⟨1, 0, none⟩ = some (X ea) := (HE2.out.kp HR2.out hk3).txt
            have HD3 := hide hd3
            clear ho4 hu2 hk3 hr3 hd3 HO3
            obtain ⟨K, hK⟩ : ∃ K : Int, (k : Int) = K := ⟨_, rfl⟩
            rw [hK]
            have HKK := hide hK
            clear hK
            by_cases g1 : h < 56320
            · have q1 : ¬ (56320 : Int) ≤ H := by have := HH.out; omega
              by_cases g2 : 56320 ≤ k
              · have q2 : ¬ K < 56320 := by have := HKK.out; omega
                by_cases g3 : k < 57344
                · have q3 : ¬ (57344 : Int) ≤ K := by have := HKK.out; omega
                  rw [if_pos ⟨g1, g2, g3⟩] at ho5
                  have HO5 := hide ho5
                  have G1 := hide g1
                  have G2 := hide g2
                  have G3 := hide g3
                  have z2 : (0 : Int) ≤ H - 55296 := by have := H1.out; have := HH.out; omega
                  have z3 : H - 55296 < 1024 := by have := HH.out; omega
                  have z4 : K - 56320 < 1024 := by have := HKK.out; omega
                  have z5 : (0 : Int) ≤ K - 56320 := by have := HKK.out; omega
                  clear ho5 ce g1 g2 g3
                  go_wp2
                  go_ret
                  refine Or.inl ⟨_, _, a3, ?_, ha3, HD3.out, rfl, HK3.out, HR3.out⟩
                  have g1 := G1.out
                  have g2 := G2.out
                  have g3 := G3.out
                  have h1 := H1.out
                  have hH := HH.out
                  have hK := HKK.out
                  rw [← HO5.out]
                  simp only [Option.map_some, Option.some.injEq, Prod.mk.injEq, and_true]
                  show Value.int .i32 _ = Value.int .i32 _
                  refine int_eq ?_
                  clear HO5
                  omega
                · have q3 : (57344 : Int) ≤ K := by have := HKK.out; omega
                  rw [if_neg (by omega)] at ho5
                  have HO5 : Hid (o = none) := ho5.symm
                  clear ho5 g1 g2 g3
                  go_wp2
                  exact ⟨rfl, Or.inr ⟨by rw [HO5.out]; rfl, rfl, HK3.out⟩⟩
              · have q2 : K < 56320 := by have := HKK.out; omega
                rw [if_neg (by omega)] at ho5
                have HO5 : Hid (o = none) := ho5.symm
                clear ho5 g1 g2
                go_wp2
                exact ⟨rfl, Or.inr ⟨by rw [HO5.out]; rfl, rfl, HK3.out⟩⟩
            · have q1 : (56320 : Int) ≤ H := by have := HH.out; omega
              rw [if_neg (by omega)] at ho5
              have HO5 : Hid (o = none) := ho5.symm
              clear ho5 g1
              go_wp2
              exact ⟨rfl, Or.inr ⟨by rw [HO5.out]; rfl, rfl, HK3.out⟩⟩
          · have hu2 := none_of_map ho4
            rw [HD2.out] at hu2
            have ho5 := HO3.out
            rw [hu2] at ho5
            have HO5 : Hid (o = none) := ho5.symm
            have HK3 := hide (HK2.out.trans hk3)
            clear ho4 hu2 ho5 hk3 HO3
            go_wp2
            exact ⟨rfl, Or.inr ⟨by rw [HO5.out]; rfl, rfl, HK3.out⟩⟩
        · have hw2 := none_of_map ho2
          rw [HD1.out] at hw2
          have hw2' : Json.word [92, 117] r = none := hw2
          have ho3 := HO.out
          rw [hw2'] at ho3
          have HO5 : Hid (o = none) := ho3.symm
          have HK2 := hide (HK1.out.trans hk2)
          clear ho2 hw2 hw2' ho3 hk2 HO
          go_wp2
          exact ⟨rfl, Or.inr ⟨by rw [HO5.out]; rfl, rfl, HK2.out⟩⟩
  · have hu := none_of_map ho1
    rw [hu] at ho
    have HO5 : Hid (o = none) := ho.symm
    have HK1 := hide hk1
    clear ho1 hu ho hk1
    go_wp2
    exact ⟨rfl, Or.inr ⟨by rw [HO5.out]; rfl, rfl, HK1.out⟩⟩

theorem short_some (j : Nat) (hj : j < 8) (c : UInt8) (h : (c.toNat : Int) = (sLet j : Int)) : Json.short c = some (sChr j) := by
  have hc : c = UInt8.ofNat (sLet j) := by
    apply UInt8.toNat_inj.1
    have : sLet j < 256 := by
      match j, hj with
      | 0, _ => decide
      | 1, _ => decide
      | 2, _ => decide
      | 3, _ => decide
      | 4, _ => decide
      | 5, _ => decide
      | 6, _ => decide
      | 7, _ => decide
    simp
    omega
  subst hc
  match j, hj with
  | 0, _ => decide
  | 1, _ => decide
  | 2, _ => decide
  | 3, _ => decide
  | 4, _ => decide
  | 5, _ => decide
  | 6, _ => decide
  | 7, _ => decide
theorem short_none (c : UInt8) (h : ∀ j : Nat, j < 8 → (c.toNat : Int) ≠ (sLet j : Int)) : Json.short c = none := by
  have ne : ∀ j : Nat, (hj : j < 8) → ∀ k : UInt8, sLet j = k.toNat → c ≠ k := by
    intro j hj k hk e
    apply h j hj
    rw [e, hk]
  unfold Json.short
  rw [if_neg (ne 0 (by decide) 34 rfl), if_neg (ne 1 (by decide) 92 rfl), if_neg (ne 2 (by decide) 47 rfl), if_neg (ne 3 (by decide) 98 rfl), if_neg (ne 4 (by decide) 102 rfl), if_neg (ne 5 (by decide) 110 rfl), if_neg (ne 6 (by decide) 114 rfl), if_neg (ne 7 (by decide) 116 rfl)]

set_option maxRecDepth 100000 in
set_option maxHeartbeats 1600000 in
theorem escaped_any (rb : Nat) (s : ByteArray) (a : Nat) (mv : Value) (n : Nat) (ea : Addr) (w : World) (ha : a ≤ s.size) (hs : s.size < 9223372036854775800) (hr : Rd w rb s a mv n) (he : Env w rb ea) :
    Calls Tryd.prog 82 #[ptr rb] w fun e w' => Opt rb s mv n ea w ((Json.escaped (s.data.toList.drop a)).map fun x => (.int .i32 (x.1 : Int), x.2)) e w' := by
  obtain ⟨o, ho⟩ : ∃ o, Json.escaped (s.data.toList.drop a) = o := ⟨_, rfl⟩
  rw [ho]
  have HR := hide hr
  have HE := hide he
  by_cases h : a < s.size
  · rw [drop_cons s a h, Json.escaped] at ho
    have HC := hide (next_some rb s a mv n w h hs hr)
    clear hr he
    have hclt := s[a].toNat_lt
    generalize s[a] = c at *
    by_cases hc : c = 117
    · rw [if_pos hc] at ho
      have HO := hide ho
      have k1 : ((c.toNat : Int) == 117) = true := by rw [hc]; rfl
      clear ho hc
      go_enter Tryd.func82, Tryd.ntmps82
      go_wp2_with fail
      refine HC.out.mono ?_
      rintro e w1 ⟨rfl, hk, hr⟩
      have HK := hide hk
      have HR1 := hide hr
      have HE1 := hide (HE.out.kp HR.out hk)
      clear hk hr
      go_wp2_with fail
      refine (numbered_any rb s (a + 1) mv n ea w1 (by omega) hs HR1.out HE1.out).mono ?_
      rintro e w2 (⟨v, r, a1, ho1, ha1, hd1, rfl, hk1, hr1⟩ | ⟨ho1, rfl, hk1⟩)
      · have HO1 := hide ho1
        have HK1 := hide (HK.out.trans hk1)
        have HR2 := hide hr1
        have HD := hide hd1
        clear ho1 hk1 hr1 hd1
        go_wp2
        go_ret
        exact Or.inl ⟨_, _, a1, by rw [← HO.out]; exact HO1.out, ha1, HD.out, rfl, HK1.out, HR2.out⟩
      · have HO1 := hide ho1
        have HK1 := hide (HK.out.trans hk1)
        clear ho1 hk1
        go_wp2
        exact ⟨rfl, Or.inr ⟨by rw [← HO.out]; exact HO1.out, rfl, HK1.out⟩⟩
    · rw [if_neg hc] at ho
      have HO := hide ho
      have k1 : ((c.toNat : Int) == 117) = false := beq_false_of_ne (fun e => hc (UInt8.toNat_inj.1 (by simp; omega)))
      clear ho hc
      go_enter Tryd.func82, Tryd.ntmps82
      go_wp2_with fail
      refine HC.out.mono ?_
      rintro e w1 ⟨rfl, hk, hr⟩
      have HK := hide hk
      have HR1 := hide hr
      have HE1 := hide (HE.out.kp HR.out hk)
      have ce : w1.cell? ⟨1, 0, none⟩ = some (X ea) := HE1.out.txt
      clear hk hr
      go_wp2_with fail
      refine (shortMeaning_any (c.toNat : Int) w1 HE1.out.short).mono ?_
      rintro e w2 ⟨rfl, ⟨j, hj, hjc, rfl⟩ | ⟨hno, rfl⟩⟩
      · have HO1 : Hid (o = some (sChr j, s.data.toList.drop (a + 1))) := by show _ = _; rw [← HO.out, short_some j hj c hjc]
        clear hjc ce
        go_wp2
        go_ret
        exact Or.inl ⟨_, _, a + 1, by rw [HO1.out]; rfl, by omega, rfl, rfl, HK.out, HR1.out⟩
      · have HO1 : Hid (o = none) := by show _ = _; rw [← HO.out, short_none c hno]
        clear hno
        go_wp2
        exact ⟨rfl, Or.inr ⟨by rw [HO1.out]; rfl, rfl, HK.out⟩⟩
  · obtain rfl : a = s.size := by omega
    rw [drop_end s _ h] at ho
    have HO : Hid (o = none) := ho.symm
    have HC := hide (next_none rb s mv n ea w hr he)
    clear hr he ho
    go_enter Tryd.func82, Tryd.ntmps82
    go_wp2_with fail
    refine HC.out.mono ?_
    rintro e w1 ⟨rfl, hk⟩
    have HK := hide hk
    clear hk
    go_wp2
    exact ⟨rfl, Or.inr ⟨by rw [HO.out]; rfl, rfl, HK.out⟩⟩
end Go.Proofs.YtkkgngmhdlmgnaaDoor.jw
