import Derived.Test.YtkkgngmhdlmgnaaDoorRefRead10
namespace Go.Proofs.YtkkgngmhdlmgnaaDoor.jw
open Go.ChangeShapes Go.WideShapes Go.ChangeAt Go.RowKit Go.Proofs.YtkkgngmhdlmgnaaDoor.common
attribute [local go_sem ↓] Go.wp_at_zero Go.wp_at_succ

theorem split_dig : ∀ (p q : List UInt8), (∀ c ∈ p, Json.isDig c = true) → (q = [] ∨ ∃ c t, q = c :: t ∧ Json.isDig c = false) → (p ++ q).takeWhile Json.isDig = p ∧ (p ++ q).dropWhile Json.isDig = q
  | [], q, _, h => by
    rcases h with rfl | ⟨c, t, rfl, hc⟩
    · exact ⟨rfl, rfl⟩
    · exact ⟨List.takeWhile_cons_of_neg (by rw [hc]; simp), List.dropWhile_cons_of_neg (by rw [hc]; simp)⟩
  | a :: p, q, hp, h => by
    have ha := hp a (by simp)
    obtain ⟨h1, h2⟩ := split_dig p q (fun c hc => hp c (by simp [hc])) h
    exact ⟨by rw [List.cons_append, List.takeWhile_cons_of_pos ha, h1], by rw [List.cons_append, List.dropWhile_cons_of_pos ha, h2]⟩
theorem digs_at (s : ByteArray) (b k : Nat) (hbk : b ≤ k) (hall : ∀ c ∈ (s.extract b k).data.toList, Json.isDig c = true) (hend : ∀ h : k < s.size, Json.isDig s[k] = false) :
    (s.data.toList.drop b).takeWhile Json.isDig = (s.extract b k).data.toList ∧ (s.data.toList.drop b).dropWhile Json.isDig = s.data.toList.drop k := by
  have hs : s.data.toList.drop b = (s.extract b k).data.toList ++ s.data.toList.drop k := by
    rw [ext_list]
    conv => lhs; rw [← List.take_append_drop (k - b) (s.data.toList.drop b)]
    rw [List.drop_drop, show b + (k - b) = k by omega]
  rw [hs]
  refine split_dig _ _ hall ?_
  by_cases h : k < s.size
  · exact Or.inr ⟨_, _, drop_cons s k h, hend h⟩
  · exact Or.inl (drop_end s k h)
theorem ext_snoc (s : ByteArray) (b k : Nat) (hbk : b ≤ k) (hk : k < s.size) : (s.extract b (k + 1)).data.toList = (s.extract b k).data.toList ++ [s[k]] := by
  have h : k = b + (k - b) := by omega
  rw [ext_list, ext_list, show k + 1 - b = (k - b) + 1 by omega, take_at s b (k - b) (by omega)]
  congr 2
  simp only [← h]
theorem ext_len (s : ByteArray) (b k : Nat) (hk : k ≤ s.size) : (s.extract b k).size = k - b := by rw [ByteArray.size_extract]; omega
theorem digs_none {l : List UInt8} {b : Bool} (h : l.takeWhile Json.isDig = [] ∨ (l.head? = some 48 ∧ 1 < (l.takeWhile Json.isDig).length)) : Json.digs l b = none := by unfold Json.digs; exact if_pos h
theorem digs_some {l : List UInt8} {b : Bool} (h : ¬ (l.takeWhile Json.isDig = [] ∨ (l.head? = some 48 ∧ 1 < (l.takeWhile Json.isDig).length))) : Json.digs l b = match Json.below (l.takeWhile Json.isDig) b with | none => none | some v => some (v, l.dropWhile Json.isDig) := by
  unfold Json.digs; exact if_neg h

/-- a whole number and a place, or 0 and -1 -/
def IPl (s : ByteArray) (o : Option (Int × List UInt8)) (x : Value) : Prop :=
  (o = none ∧ x = .tuple #[.int .i64 0, .int .i64 (-1)]) ∨ ∃ (n : Int) (r : List UInt8) (b : Nat), o = some (n, r) ∧ b ≤ s.size ∧ x = .tuple #[.int .i64 n, .int .i64 (b : Int)] ∧ s.data.toList.drop b = r

set_option maxRecDepth 100000 in
set_option maxHeartbeats 6400000 in
theorem refNumber_any (s : ByteArray) (a : Nat) (w : World) (hs : s.size < 9223372036854775000) (hlt : a < s.size) (I : Int) (hI : I = (a : Int)) :
    Calls Tryd.prog 68 #[.string s, .int .i64 I] w fun x w' => (∃ v, x = .returned v ∧ IPl s (Json.numberR (s.data.toList.drop a)) v) ∧ w' = w := by
  subst hI
  obtain ⟨O, hO⟩ : ∃ O, Json.numberR (s.data.toList.drop a) = O := ⟨_, rfl⟩
  have HO := hide hO
  rw [hO]
  clear hO
  have a0 : (0 : Int) ≤ (a : Int) := by omega
  by_cases h45 : s[a] = 45
  · skip
    have g1 : (a : Int) < (s.size : Int) := by omega
    have p1 : (s[a].toNat : Int) = 45 := by rw [h45]; rfl
    have HB0 : Hid (O = Json.digs (s.data.toList.drop (a + 1)) true) := by
      show _ = _
      rw [← HO.out, drop_cons s a hlt, h45]
      rfl
    clear h45
    go_enter Tryd.func68, Tryd.ntmps68
    have HB : Hid (O = Json.digs (s.data.toList.drop (a + 1)) true) := HB0
    go_wp2_with fail
    go_loopw [6] (fun tv wr => ∃ k : Nat, a + 1 ≤ k ∧ k ≤ s.size ∧ tv = .int .i64 k ∧ wr = w ∧ Hid (∀ c ∈ (s.extract (a + 1) k).data.toList, Json.isDig c = true)) (fun tv _ => s.size - (intOf tv).toNat)
    case atStart => exact ⟨a + 1, Nat.le_refl _, by omega, by first | rfl | go_num, rfl, by
      intro c hc
      rw [ext_list, Nat.sub_self, List.take_zero] at hc
      simp at hc⟩
    case round =>
      obtain ⟨k, hbk, hk, rfl, hwr, HA⟩ := hrel
      obtain rfl : w = wr := hwr.symm
      have k0 : (0 : Int) ≤ (k : Int) := by omega
      by_cases hstep : ∃ h : k < s.size, Json.isDig s[k] = true
      · obtain ⟨hkl, hdg⟩ := hstep
        have k1 : (k : Int) < (s.size : Int) := by omega
        have hdb := dig_bounds hdg
        have d1 : (48 : Int) ≤ (s[k].toNat : Int) := by omega
        have d2 : (s[k].toNat : Int) ≤ 57 := by omega
        have HA2 : Hid (∀ c ∈ (s.extract (a + 1) (k + 1)).data.toList, Json.isDig c = true) := by
          intro c hc
          rw [ext_snoc s (a + 1) k hbk hkl] at hc
          rcases List.mem_append.1 hc with h | h
          · exact HA.out c h
          · simp at h; subst h; exact hdg
        clear hdg hdb
        go_wp2
        go_roundw
        case rel => exact ⟨k + 1, by omega, by omega, by go_num, by first | rfl | trivial, HA2⟩
        case measure => simp [intOf]; omega
      · have hend : ∀ h : k < s.size, Json.isDig s[k] = false := fun h => by
          apply Bool.eq_false_iff.2; intro e; exact hstep ⟨h, e⟩
        obtain ⟨t1, t2⟩ := digs_at s (a + 1) k hbk HA.out hend
        have HT1 := hide t1
        have HT2 := hide t2
        have HXs := hide (ext_len s (a + 1) k hk)
        have hex : (¬ k < s.size) ∨ (∃ h : k < s.size, s[k].toNat < 48) ∨ (∃ h : k < s.size, 57 < s[k].toNat) := by
          by_cases h : k < s.size
          · have hd := hend h
            by_cases h2 : s[k].toNat < 48
            · exact Or.inr (Or.inl ⟨h, h2⟩)
            · refine Or.inr (Or.inr ⟨h, ?_⟩)
              by_cases h3 : 57 < s[k].toNat
              · exact h3
              · exfalso
                have : Json.isDig s[k] = true := by simp [Json.isDig]; omega
                rw [this] at hd; cases hd
          · exact Or.inl h
        clear t1 t2 hstep hend
        obtain ⟨T, hT⟩ : ∃ T : ByteArray, s.extract (a + 1) k = T := ⟨_, rfl⟩
        have HTT := hide hT
        rw [hT] at HT1 HXs HA
        clear hT
        rcases hex with hex | ⟨hkl, hex⟩ | ⟨hkl, hex⟩
        · have k1 : ¬ (k : Int) < (s.size : Int) := by omega
          have k1d : decide ((k : Int) < (s.size : Int)) = false := decide_eq_false k1
          have k1e : decide (k < s.size) = false := decide_eq_false hex
          by_cases e1 : k = a + 1
          · have HN : Hid (O = none) := by
              show _ = _
              rw [HB.out]
              refine digs_none (Or.inl ?_)
              rw [HT1.out]
              apply List.eq_nil_of_length_eq_zero
              rw [len_list, HXs.out]; omega
            have e1b : ((k : Int) == ((a : Int) + 1)) = true := by rw [beq_iff_eq]; omega
            clear e1
            go_wp2
            go_ret2
            exact ⟨⟨_, rfl, Or.inl ⟨HN.out, rfl⟩⟩, rfl⟩
          · have e1b : ((k : Int) == ((a : Int) + 1)) = false := beq_false_of_ne (by omega)
            have b1 : a + 1 < s.size := by omega
            have b2 : ((a : Int) + 1) < (s.size : Int) := by omega
            have b3 : (0 : Int) ≤ ((a : Int) + 1) := by omega
            have b4 : (((a : Int) + 1)).toNat = a + 1 := by omega
            have b5 : (k : Int) ≤ (s.size : Int) := by omega
            have b6 : ((a : Int) + 1) ≤ (k : Int) := by omega
            have b7 : (a : Int) < (a : Int) + 1 := by omega
            have HHd : Hid ((s.data.toList.drop (a + 1)).head? = some s[a + 1]) := by show _ = _; rw [drop_cons s (a + 1) b1]; rfl
            have HTn : Hid ((s.data.toList.drop (a + 1)).takeWhile Json.isDig ≠ []) := by
              rw [HT1.out]; intro h
              have := congrArg List.length h
              rw [len_list, HXs.out, List.length_nil] at this
              omega
            have HTl : Hid (((s.data.toList.drop (a + 1)).takeWhile Json.isDig).length = k - (a + 1)) := by show _ = _; rw [HT1.out, len_list, HXs.out]
            clear e1
            by_cases z1 : s[a + 1] = 48 ∧ a + 1 + 1 < k
            · have HN : Hid (O = none) := by
                show _ = _
                rw [HB.out]
                refine digs_none (Or.inr ⟨by rw [HHd.out, z1.1], by rw [HTl.out]; omega⟩)
              have z1b : (s[a + 1].toNat : Int) = 48 := by rw [z1.1]; rfl
              have z2 : ((a : Int) + 1) + 1 < (k : Int) := by omega
              clear z1
              go_wp2
              go_ret2
              exact ⟨⟨_, rfl, Or.inl ⟨HN.out, rfl⟩⟩, rfl⟩
            · have HS := hide (digs_some (b := true) (l := s.data.toList.drop (a + 1)) (by
                rintro (h | ⟨h, h2⟩)
                · exact HTn.out h
                · rw [HHd.out] at h
                  rw [HTl.out] at h2
                  exact z1 ⟨by injection h, by omega⟩))
              have HBV : Hid (O = match Json.below T.data.toList true with | none => none | some v => some (v, s.data.toList.drop k)) := by
                show _ = _; rw [HB.out, HS.out, HT1.out, HT2.out]
              have HC := hide (refBelow_any T true w (by have := HXs.out; omega) HA.out)
              rw [← HTT.out] at HC
              by_cases z2 : s[a + 1] = 48
              · have z2b : (s[a + 1].toNat : Int) = 48 := by rw [z2]; rfl
                have z3 : ¬ ((a : Int) + 1) + 1 < (k : Int) := by intro h; exact z1 ⟨z2, by omega⟩
                clear z1 z2
                go_wp2_with fail
                refine HC.out.mono ?_
                rintro x w1 ⟨rfl, hw1⟩
                obtain rfl := hw1
                rw [HTT.out]
                cases hv : Json.below T.data.toList true with
                | none =>
                  have HN : Hid (O = none) := by show _ = _; rw [HBV.out, hv]
                  clear hv
                  rw [show belowV none = .tuple #[.int .i64 0, .bool false] from rfl]
                  go_wp2
                  go_ret2
                  exact ⟨⟨_, rfl, Or.inl ⟨HN.out, rfl⟩⟩, rfl⟩
                | some v =>
                  have HN : Hid (O = some (v, s.data.toList.drop k)) := by show _ = _; rw [HBV.out, hv]
                  clear hv
                  rw [show belowV (some v) = .tuple #[.int .i64 v, .bool true] from rfl]
                  go_wp2
                  go_ret2
                  exact ⟨⟨_, rfl, Or.inr ⟨v, _, k, HN.out, hk, rfl, rfl⟩⟩, rfl⟩
              · have z2b : ((s[a + 1].toNat : Int) == 48) = false := beq_false_of_ne (fun e => z2 (UInt8.toNat_inj.1 (by show _ = 48; omega)))
                clear z1 z2
                go_wp2_with fail
                refine HC.out.mono ?_
                rintro x w1 ⟨rfl, hw1⟩
                obtain rfl := hw1
                rw [HTT.out]
                cases hv : Json.below T.data.toList true with
                | none =>
                  have HN : Hid (O = none) := by show _ = _; rw [HBV.out, hv]
                  clear hv
                  rw [show belowV none = .tuple #[.int .i64 0, .bool false] from rfl]
                  go_wp2
                  go_ret2
                  exact ⟨⟨_, rfl, Or.inl ⟨HN.out, rfl⟩⟩, rfl⟩
                | some v =>
                  have HN : Hid (O = some (v, s.data.toList.drop k)) := by show _ = _; rw [HBV.out, hv]
                  clear hv
                  rw [show belowV (some v) = .tuple #[.int .i64 v, .bool true] from rfl]
                  go_wp2
                  go_ret2
                  exact ⟨⟨_, rfl, Or.inr ⟨v, _, k, HN.out, hk, rfl, rfl⟩⟩, rfl⟩
        · have k1 : (k : Int) < (s.size : Int) := by omega
          have f1 : ¬ (48 : Int) ≤ (s[k].toNat : Int) := by omega
          have f1d : decide ((48 : Int) ≤ (s[k].toNat : Int)) = false := decide_eq_false f1
          clear hex
          by_cases e1 : k = a + 1
          · have HN : Hid (O = none) := by
              show _ = _
              rw [HB.out]
              refine digs_none (Or.inl ?_)
              rw [HT1.out]
              apply List.eq_nil_of_length_eq_zero
              rw [len_list, HXs.out]; omega
            have e1b : ((k : Int) == ((a : Int) + 1)) = true := by rw [beq_iff_eq]; omega
            clear e1
            go_wp2
            go_ret2
            exact ⟨⟨_, rfl, Or.inl ⟨HN.out, rfl⟩⟩, rfl⟩
          · have e1b : ((k : Int) == ((a : Int) + 1)) = false := beq_false_of_ne (by omega)
            have b1 : a + 1 < s.size := by omega
            have b2 : ((a : Int) + 1) < (s.size : Int) := by omega
            have b3 : (0 : Int) ≤ ((a : Int) + 1) := by omega
            have b4 : (((a : Int) + 1)).toNat = a + 1 := by omega
            have b5 : (k : Int) ≤ (s.size : Int) := by omega
            have b6 : ((a : Int) + 1) ≤ (k : Int) := by omega
            have b7 : (a : Int) < (a : Int) + 1 := by omega
            have HHd : Hid ((s.data.toList.drop (a + 1)).head? = some s[a + 1]) := by show _ = _; rw [drop_cons s (a + 1) b1]; rfl
            have HTn : Hid ((s.data.toList.drop (a + 1)).takeWhile Json.isDig ≠ []) := by
              rw [HT1.out]; intro h
              have := congrArg List.length h
              rw [len_list, HXs.out, List.length_nil] at this
              omega
            have HTl : Hid (((s.data.toList.drop (a + 1)).takeWhile Json.isDig).length = k - (a + 1)) := by show _ = _; rw [HT1.out, len_list, HXs.out]
            clear e1
            by_cases z1 : s[a + 1] = 48 ∧ a + 1 + 1 < k
            · have HN : Hid (O = none) := by
                show _ = _
                rw [HB.out]
                refine digs_none (Or.inr ⟨by rw [HHd.out, z1.1], by rw [HTl.out]; omega⟩)
              have z1b : (s[a + 1].toNat : Int) = 48 := by rw [z1.1]; rfl
              have z2 : ((a : Int) + 1) + 1 < (k : Int) := by omega
              clear z1
              go_wp2
              go_ret2
              exact ⟨⟨_, rfl, Or.inl ⟨HN.out, rfl⟩⟩, rfl⟩
            · have HS := hide (digs_some (b := true) (l := s.data.toList.drop (a + 1)) (by
                rintro (h | ⟨h, h2⟩)
                · exact HTn.out h
                · rw [HHd.out] at h
                  rw [HTl.out] at h2
                  exact z1 ⟨by injection h, by omega⟩))
              have HBV : Hid (O = match Json.below T.data.toList true with | none => none | some v => some (v, s.data.toList.drop k)) := by
                show _ = _; rw [HB.out, HS.out, HT1.out, HT2.out]
              have HC := hide (refBelow_any T true w (by have := HXs.out; omega) HA.out)
              rw [← HTT.out] at HC
              by_cases z2 : s[a + 1] = 48
              · have z2b : (s[a + 1].toNat : Int) = 48 := by rw [z2]; rfl
                have z3 : ¬ ((a : Int) + 1) + 1 < (k : Int) := by intro h; exact z1 ⟨z2, by omega⟩
                clear z1 z2
                go_wp2_with fail
                refine HC.out.mono ?_
                rintro x w1 ⟨rfl, hw1⟩
                obtain rfl := hw1
                rw [HTT.out]
                cases hv : Json.below T.data.toList true with
                | none =>
                  have HN : Hid (O = none) := by show _ = _; rw [HBV.out, hv]
                  clear hv
                  rw [show belowV none = .tuple #[.int .i64 0, .bool false] from rfl]
                  go_wp2
                  go_ret2
                  exact ⟨⟨_, rfl, Or.inl ⟨HN.out, rfl⟩⟩, rfl⟩
                | some v =>
                  have HN : Hid (O = some (v, s.data.toList.drop k)) := by show _ = _; rw [HBV.out, hv]
                  clear hv
                  rw [show belowV (some v) = .tuple #[.int .i64 v, .bool true] from rfl]
                  go_wp2
                  go_ret2
                  exact ⟨⟨_, rfl, Or.inr ⟨v, _, k, HN.out, hk, rfl, rfl⟩⟩, rfl⟩
              · have z2b : ((s[a + 1].toNat : Int) == 48) = false := beq_false_of_ne (fun e => z2 (UInt8.toNat_inj.1 (by show _ = 48; omega)))
                clear z1 z2
                go_wp2_with fail
                refine HC.out.mono ?_
                rintro x w1 ⟨rfl, hw1⟩
                obtain rfl := hw1
                rw [HTT.out]
                cases hv : Json.below T.data.toList true with
                | none =>
                  have HN : Hid (O = none) := by show _ = _; rw [HBV.out, hv]
                  clear hv
                  rw [show belowV none = .tuple #[.int .i64 0, .bool false] from rfl]
                  go_wp2
                  go_ret2
                  exact ⟨⟨_, rfl, Or.inl ⟨HN.out, rfl⟩⟩, rfl⟩
                | some v =>
                  have HN : Hid (O = some (v, s.data.toList.drop k)) := by show _ = _; rw [HBV.out, hv]
                  clear hv
                  rw [show belowV (some v) = .tuple #[.int .i64 v, .bool true] from rfl]
                  go_wp2
                  go_ret2
                  exact ⟨⟨_, rfl, Or.inr ⟨v, _, k, HN.out, hk, rfl, rfl⟩⟩, rfl⟩
        · have k1 : (k : Int) < (s.size : Int) := by omega
          have f1 : (48 : Int) ≤ (s[k].toNat : Int) := by omega
          have f2 : ¬ (s[k].toNat : Int) ≤ 57 := by omega
          clear hex
          by_cases e1 : k = a + 1
          · have HN : Hid (O = none) := by
              show _ = _
              rw [HB.out]
              refine digs_none (Or.inl ?_)
              rw [HT1.out]
              apply List.eq_nil_of_length_eq_zero
              rw [len_list, HXs.out]; omega
            have e1b : ((k : Int) == ((a : Int) + 1)) = true := by rw [beq_iff_eq]; omega
            clear e1
            go_wp2
            go_ret2
            exact ⟨⟨_, rfl, Or.inl ⟨HN.out, rfl⟩⟩, rfl⟩
          · have e1b : ((k : Int) == ((a : Int) + 1)) = false := beq_false_of_ne (by omega)
            have b1 : a + 1 < s.size := by omega
            have b2 : ((a : Int) + 1) < (s.size : Int) := by omega
            have b3 : (0 : Int) ≤ ((a : Int) + 1) := by omega
            have b4 : (((a : Int) + 1)).toNat = a + 1 := by omega
            have b5 : (k : Int) ≤ (s.size : Int) := by omega
            have b6 : ((a : Int) + 1) ≤ (k : Int) := by omega
            have b7 : (a : Int) < (a : Int) + 1 := by omega
            have HHd : Hid ((s.data.toList.drop (a + 1)).head? = some s[a + 1]) := by show _ = _; rw [drop_cons s (a + 1) b1]; rfl
            have HTn : Hid ((s.data.toList.drop (a + 1)).takeWhile Json.isDig ≠ []) := by
              rw [HT1.out]; intro h
              have := congrArg List.length h
              rw [len_list, HXs.out, List.length_nil] at this
              omega
            have HTl : Hid (((s.data.toList.drop (a + 1)).takeWhile Json.isDig).length = k - (a + 1)) := by show _ = _; rw [HT1.out, len_list, HXs.out]
            clear e1
            by_cases z1 : s[a + 1] = 48 ∧ a + 1 + 1 < k
            · have HN : Hid (O = none) := by
                show _ = _
                rw [HB.out]
                refine digs_none (Or.inr ⟨by rw [HHd.out, z1.1], by rw [HTl.out]; omega⟩)
              have z1b : (s[a + 1].toNat : Int) = 48 := by rw [z1.1]; rfl
              have z2 : ((a : Int) + 1) + 1 < (k : Int) := by omega
              clear z1
              go_wp2
              go_ret2
              exact ⟨⟨_, rfl, Or.inl ⟨HN.out, rfl⟩⟩, rfl⟩
            · have HS := hide (digs_some (b := true) (l := s.data.toList.drop (a + 1)) (by
                rintro (h | ⟨h, h2⟩)
                · exact HTn.out h
                · rw [HHd.out] at h
                  rw [HTl.out] at h2
                  exact z1 ⟨by injection h, by omega⟩))
              have HBV : Hid (O = match Json.below T.data.toList true with | none => none | some v => some (v, s.data.toList.drop k)) := by
                show _ = _; rw [HB.out, HS.out, HT1.out, HT2.out]
              have HC := hide (refBelow_any T true w (by have := HXs.out; omega) HA.out)
              rw [← HTT.out] at HC
              by_cases z2 : s[a + 1] = 48
              · have z2b : (s[a + 1].toNat : Int) = 48 := by rw [z2]; rfl
                have z3 : ¬ ((a : Int) + 1) + 1 < (k : Int) := by intro h; exact z1 ⟨z2, by omega⟩
                clear z1 z2
                go_wp2_with fail
                refine HC.out.mono ?_
                rintro x w1 ⟨rfl, hw1⟩
                obtain rfl := hw1
                rw [HTT.out]
                cases hv : Json.below T.data.toList true with
                | none =>
                  have HN : Hid (O = none) := by show _ = _; rw [HBV.out, hv]
                  clear hv
                  rw [show belowV none = .tuple #[.int .i64 0, .bool false] from rfl]
                  go_wp2
                  go_ret2
                  exact ⟨⟨_, rfl, Or.inl ⟨HN.out, rfl⟩⟩, rfl⟩
                | some v =>
                  have HN : Hid (O = some (v, s.data.toList.drop k)) := by show _ = _; rw [HBV.out, hv]
                  clear hv
                  rw [show belowV (some v) = .tuple #[.int .i64 v, .bool true] from rfl]
                  go_wp2
                  go_ret2
                  exact ⟨⟨_, rfl, Or.inr ⟨v, _, k, HN.out, hk, rfl, rfl⟩⟩, rfl⟩
              · have z2b : ((s[a + 1].toNat : Int) == 48) = false := beq_false_of_ne (fun e => z2 (UInt8.toNat_inj.1 (by show _ = 48; omega)))
                clear z1 z2
                go_wp2_with fail
                refine HC.out.mono ?_
                rintro x w1 ⟨rfl, hw1⟩
                obtain rfl := hw1
                rw [HTT.out]
                cases hv : Json.below T.data.toList true with
                | none =>
                  have HN : Hid (O = none) := by show _ = _; rw [HBV.out, hv]
                  clear hv
                  rw [show belowV none = .tuple #[.int .i64 0, .bool false] from rfl]
                  go_wp2
                  go_ret2
                  exact ⟨⟨_, rfl, Or.inl ⟨HN.out, rfl⟩⟩, rfl⟩
                | some v =>
                  have HN : Hid (O = some (v, s.data.toList.drop k)) := by show _ = _; rw [HBV.out, hv]
                  clear hv
                  rw [show belowV (some v) = .tuple #[.int .i64 v, .bool true] from rfl]
                  go_wp2
                  go_ret2
                  exact ⟨⟨_, rfl, Or.inr ⟨v, _, k, HN.out, hk, rfl, rfl⟩⟩, rfl⟩
  · have HB0 : Hid (O = Json.digs (s.data.toList.drop a) false) := by
      show _ = _
      rw [← HO.out]
      unfold Json.numberR
      refine if_neg ?_
      intro h
      rw [drop_cons s a hlt] at h
      injection h with h
      exact h45 h
    · have g1 : (a : Int) < (s.size : Int) := by omega
      have p1 : ((s[a].toNat : Int) == 45) = false := beq_false_of_ne (fun e => h45 (UInt8.toNat_inj.1 (by show _ = 45; omega)))
      clear h45
      go_enter Tryd.func68, Tryd.ntmps68
      have HB : Hid (O = Json.digs (s.data.toList.drop (a)) false) := HB0
      go_wp2_with fail
      go_loopw [6] (fun tv wr => ∃ k : Nat, a ≤ k ∧ k ≤ s.size ∧ tv = .int .i64 k ∧ wr = w ∧ Hid (∀ c ∈ (s.extract (a) k).data.toList, Json.isDig c = true)) (fun tv _ => s.size - (intOf tv).toNat)
      case atStart => exact ⟨a, Nat.le_refl _, by omega, by first | rfl | go_num, rfl, by
        intro c hc
        rw [ext_list, Nat.sub_self, List.take_zero] at hc
        simp at hc⟩
      case round =>
        obtain ⟨k, hbk, hk, rfl, hwr, HA⟩ := hrel
        obtain rfl : w = wr := hwr.symm
        have k0 : (0 : Int) ≤ (k : Int) := by omega
        by_cases hstep : ∃ h : k < s.size, Json.isDig s[k] = true
        · obtain ⟨hkl, hdg⟩ := hstep
          have k1 : (k : Int) < (s.size : Int) := by omega
          have hdb := dig_bounds hdg
          have d1 : (48 : Int) ≤ (s[k].toNat : Int) := by omega
          have d2 : (s[k].toNat : Int) ≤ 57 := by omega
          have HA2 : Hid (∀ c ∈ (s.extract (a) (k + 1)).data.toList, Json.isDig c = true) := by
            intro c hc
            rw [ext_snoc s (a) k hbk hkl] at hc
            rcases List.mem_append.1 hc with h | h
            · exact HA.out c h
            · simp at h; subst h; exact hdg
          clear hdg hdb
          go_wp2
          go_roundw
          case rel => exact ⟨k + 1, by omega, by omega, by go_num, by first | rfl | trivial, HA2⟩
          case measure => simp [intOf]; omega
        · have hend : ∀ h : k < s.size, Json.isDig s[k] = false := fun h => by
            apply Bool.eq_false_iff.2; intro e; exact hstep ⟨h, e⟩
          obtain ⟨t1, t2⟩ := digs_at s (a) k hbk HA.out hend
          have HT1 := hide t1
          have HT2 := hide t2
          have HXs := hide (ext_len s (a) k hk)
          have hex : (¬ k < s.size) ∨ (∃ h : k < s.size, s[k].toNat < 48) ∨ (∃ h : k < s.size, 57 < s[k].toNat) := by
            by_cases h : k < s.size
            · have hd := hend h
              by_cases h2 : s[k].toNat < 48
              · exact Or.inr (Or.inl ⟨h, h2⟩)
              · refine Or.inr (Or.inr ⟨h, ?_⟩)
                by_cases h3 : 57 < s[k].toNat
                · exact h3
                · exfalso
                  have : Json.isDig s[k] = true := by simp [Json.isDig]; omega
                  rw [this] at hd; cases hd
            · exact Or.inl h
          clear t1 t2 hstep hend
          obtain ⟨T, hT⟩ : ∃ T : ByteArray, s.extract (a) k = T := ⟨_, rfl⟩
          have HTT := hide hT
          rw [hT] at HT1 HXs HA
          clear hT
          rcases hex with hex | ⟨hkl, hex⟩ | ⟨hkl, hex⟩
          · have k1 : ¬ (k : Int) < (s.size : Int) := by omega
            have k1d : decide ((k : Int) < (s.size : Int)) = false := decide_eq_false k1
            have k1e : decide (k < s.size) = false := decide_eq_false hex
            by_cases e1 : k = a
            · have HN : Hid (O = none) := by
                show _ = _
                rw [HB.out]
                refine digs_none (Or.inl ?_)
                rw [HT1.out]
                apply List.eq_nil_of_length_eq_zero
                rw [len_list, HXs.out]; omega
              have e1b : ((k : Int) == (a : Int)) = true := by rw [beq_iff_eq]; omega
              clear e1
              go_wp2
              go_ret2
              exact ⟨⟨_, rfl, Or.inl ⟨HN.out, rfl⟩⟩, rfl⟩
            · have e1b : ((k : Int) == (a : Int)) = false := beq_false_of_ne (by omega)
              have b1 : a < s.size := by omega
              have b2 : (a : Int) < (s.size : Int) := by omega
              have b3 : (0 : Int) ≤ (a : Int) := by omega
              have b4 : ((a : Int)).toNat = a := by omega
              have b5 : (k : Int) ≤ (s.size : Int) := by omega
              have b6 : (a : Int) ≤ (k : Int) := by omega
              have b7 : ¬ (a : Int) < (a : Int) := by omega
              have HHd : Hid ((s.data.toList.drop (a)).head? = some s[a]) := by show _ = _; rw [drop_cons s (a) b1]; rfl
              have HTn : Hid ((s.data.toList.drop (a)).takeWhile Json.isDig ≠ []) := by
                rw [HT1.out]; intro h
                have := congrArg List.length h
                rw [len_list, HXs.out, List.length_nil] at this
                omega
              have HTl : Hid (((s.data.toList.drop (a)).takeWhile Json.isDig).length = k - (a)) := by show _ = _; rw [HT1.out, len_list, HXs.out]
              clear e1
              by_cases z1 : s[a] = 48 ∧ a + 1 < k
              · have HN : Hid (O = none) := by
                  show _ = _
                  rw [HB.out]
                  refine digs_none (Or.inr ⟨by rw [HHd.out, z1.1], by rw [HTl.out]; omega⟩)
                have z1b : (s[a].toNat : Int) = 48 := by rw [z1.1]; rfl
                have z2 : (a : Int) + 1 < (k : Int) := by omega
                clear z1
                go_wp2
                go_ret2
                exact ⟨⟨_, rfl, Or.inl ⟨HN.out, rfl⟩⟩, rfl⟩
              · have HS := hide (digs_some (b := false) (l := s.data.toList.drop (a)) (by
                  rintro (h | ⟨h, h2⟩)
                  · exact HTn.out h
                  · rw [HHd.out] at h
                    rw [HTl.out] at h2
                    exact z1 ⟨by injection h, by omega⟩))
                have HBV : Hid (O = match Json.below T.data.toList false with | none => none | some v => some (v, s.data.toList.drop k)) := by
                  show _ = _; rw [HB.out, HS.out, HT1.out, HT2.out]
                have HC := hide (refBelow_any T false w (by have := HXs.out; omega) HA.out)
                rw [← HTT.out] at HC
                by_cases z2 : s[a] = 48
                · have z2b : (s[a].toNat : Int) = 48 := by rw [z2]; rfl
                  have z3 : ¬ (a : Int) + 1 < (k : Int) := by intro h; exact z1 ⟨z2, by omega⟩
                  clear z1 z2
                  go_wp2_with fail
                  refine HC.out.mono ?_
                  rintro x w1 ⟨rfl, hw1⟩
                  obtain rfl := hw1
                  rw [HTT.out]
                  cases hv : Json.below T.data.toList false with
                  | none =>
                    have HN : Hid (O = none) := by show _ = _; rw [HBV.out, hv]
                    clear hv
                    rw [show belowV none = .tuple #[.int .i64 0, .bool false] from rfl]
                    go_wp2
                    go_ret2
                    exact ⟨⟨_, rfl, Or.inl ⟨HN.out, rfl⟩⟩, rfl⟩
                  | some v =>
                    have HN : Hid (O = some (v, s.data.toList.drop k)) := by show _ = _; rw [HBV.out, hv]
                    clear hv
                    rw [show belowV (some v) = .tuple #[.int .i64 v, .bool true] from rfl]
                    go_wp2
                    go_ret2
                    exact ⟨⟨_, rfl, Or.inr ⟨v, _, k, HN.out, hk, rfl, rfl⟩⟩, rfl⟩
                · have z2b : ((s[a].toNat : Int) == 48) = false := beq_false_of_ne (fun e => z2 (UInt8.toNat_inj.1 (by show _ = 48; omega)))
                  clear z1 z2
                  go_wp2_with fail
                  refine HC.out.mono ?_
                  rintro x w1 ⟨rfl, hw1⟩
                  obtain rfl := hw1
                  rw [HTT.out]
                  cases hv : Json.below T.data.toList false with
                  | none =>
                    have HN : Hid (O = none) := by show _ = _; rw [HBV.out, hv]
                    clear hv
                    rw [show belowV none = .tuple #[.int .i64 0, .bool false] from rfl]
                    go_wp2
                    go_ret2
                    exact ⟨⟨_, rfl, Or.inl ⟨HN.out, rfl⟩⟩, rfl⟩
                  | some v =>
                    have HN : Hid (O = some (v, s.data.toList.drop k)) := by show _ = _; rw [HBV.out, hv]
                    clear hv
                    rw [show belowV (some v) = .tuple #[.int .i64 v, .bool true] from rfl]
                    go_wp2
                    go_ret2
                    exact ⟨⟨_, rfl, Or.inr ⟨v, _, k, HN.out, hk, rfl, rfl⟩⟩, rfl⟩
          · have k1 : (k : Int) < (s.size : Int) := by omega
            have f1 : ¬ (48 : Int) ≤ (s[k].toNat : Int) := by omega
            have f1d : decide ((48 : Int) ≤ (s[k].toNat : Int)) = false := decide_eq_false f1
            clear hex
            by_cases e1 : k = a
            · have HN : Hid (O = none) := by
                show _ = _
                rw [HB.out]
                refine digs_none (Or.inl ?_)
                rw [HT1.out]
                apply List.eq_nil_of_length_eq_zero
                rw [len_list, HXs.out]; omega
              have e1b : ((k : Int) == (a : Int)) = true := by rw [beq_iff_eq]; omega
              clear e1
              go_wp2
              go_ret2
              exact ⟨⟨_, rfl, Or.inl ⟨HN.out, rfl⟩⟩, rfl⟩
            · have e1b : ((k : Int) == (a : Int)) = false := beq_false_of_ne (by omega)
              have b1 : a < s.size := by omega
              have b2 : (a : Int) < (s.size : Int) := by omega
              have b3 : (0 : Int) ≤ (a : Int) := by omega
              have b4 : ((a : Int)).toNat = a := by omega
              have b5 : (k : Int) ≤ (s.size : Int) := by omega
              have b6 : (a : Int) ≤ (k : Int) := by omega
              have b7 : ¬ (a : Int) < (a : Int) := by omega
              have HHd : Hid ((s.data.toList.drop (a)).head? = some s[a]) := by show _ = _; rw [drop_cons s (a) b1]; rfl
              have HTn : Hid ((s.data.toList.drop (a)).takeWhile Json.isDig ≠ []) := by
                rw [HT1.out]; intro h
                have := congrArg List.length h
                rw [len_list, HXs.out, List.length_nil] at this
                omega
              have HTl : Hid (((s.data.toList.drop (a)).takeWhile Json.isDig).length = k - (a)) := by show _ = _; rw [HT1.out, len_list, HXs.out]
              clear e1
              by_cases z1 : s[a] = 48 ∧ a + 1 < k
              · have HN : Hid (O = none) := by
                  show _ = _
                  rw [HB.out]
                  refine digs_none (Or.inr ⟨by rw [HHd.out, z1.1], by rw [HTl.out]; omega⟩)
                have z1b : (s[a].toNat : Int) = 48 := by rw [z1.1]; rfl
                have z2 : (a : Int) + 1 < (k : Int) := by omega
                clear z1
                go_wp2
                go_ret2
                exact ⟨⟨_, rfl, Or.inl ⟨HN.out, rfl⟩⟩, rfl⟩
              · have HS := hide (digs_some (b := false) (l := s.data.toList.drop (a)) (by
                  rintro (h | ⟨h, h2⟩)
                  · exact HTn.out h
                  · rw [HHd.out] at h
                    rw [HTl.out] at h2
                    exact z1 ⟨by injection h, by omega⟩))
                have HBV : Hid (O = match Json.below T.data.toList false with | none => none | some v => some (v, s.data.toList.drop k)) := by
                  show _ = _; rw [HB.out, HS.out, HT1.out, HT2.out]
                have HC := hide (refBelow_any T false w (by have := HXs.out; omega) HA.out)
                rw [← HTT.out] at HC
                by_cases z2 : s[a] = 48
                · have z2b : (s[a].toNat : Int) = 48 := by rw [z2]; rfl
                  have z3 : ¬ (a : Int) + 1 < (k : Int) := by intro h; exact z1 ⟨z2, by omega⟩
                  clear z1 z2
                  go_wp2_with fail
                  refine HC.out.mono ?_
                  rintro x w1 ⟨rfl, hw1⟩
                  obtain rfl := hw1
                  rw [HTT.out]
                  cases hv : Json.below T.data.toList false with
                  | none =>
                    have HN : Hid (O = none) := by show _ = _; rw [HBV.out, hv]
                    clear hv
                    rw [show belowV none = .tuple #[.int .i64 0, .bool false] from rfl]
                    go_wp2
                    go_ret2
                    exact ⟨⟨_, rfl, Or.inl ⟨HN.out, rfl⟩⟩, rfl⟩
                  | some v =>
                    have HN : Hid (O = some (v, s.data.toList.drop k)) := by show _ = _; rw [HBV.out, hv]
                    clear hv
                    rw [show belowV (some v) = .tuple #[.int .i64 v, .bool true] from rfl]
                    go_wp2
                    go_ret2
                    exact ⟨⟨_, rfl, Or.inr ⟨v, _, k, HN.out, hk, rfl, rfl⟩⟩, rfl⟩
                · have z2b : ((s[a].toNat : Int) == 48) = false := beq_false_of_ne (fun e => z2 (UInt8.toNat_inj.1 (by show _ = 48; omega)))
                  clear z1 z2
                  go_wp2_with fail
                  refine HC.out.mono ?_
                  rintro x w1 ⟨rfl, hw1⟩
                  obtain rfl := hw1
                  rw [HTT.out]
                  cases hv : Json.below T.data.toList false with
                  | none =>
                    have HN : Hid (O = none) := by show _ = _; rw [HBV.out, hv]
                    clear hv
                    rw [show belowV none = .tuple #[.int .i64 0, .bool false] from rfl]
                    go_wp2
                    go_ret2
                    exact ⟨⟨_, rfl, Or.inl ⟨HN.out, rfl⟩⟩, rfl⟩
                  | some v =>
                    have HN : Hid (O = some (v, s.data.toList.drop k)) := by show _ = _; rw [HBV.out, hv]
                    clear hv
                    rw [show belowV (some v) = .tuple #[.int .i64 v, .bool true] from rfl]
                    go_wp2
                    go_ret2
                    exact ⟨⟨_, rfl, Or.inr ⟨v, _, k, HN.out, hk, rfl, rfl⟩⟩, rfl⟩
          · have k1 : (k : Int) < (s.size : Int) := by omega
            have f1 : (48 : Int) ≤ (s[k].toNat : Int) := by omega
            have f2 : ¬ (s[k].toNat : Int) ≤ 57 := by omega
            clear hex
            by_cases e1 : k = a
            · have HN : Hid (O = none) := by
                show _ = _
                rw [HB.out]
                refine digs_none (Or.inl ?_)
                rw [HT1.out]
                apply List.eq_nil_of_length_eq_zero
                rw [len_list, HXs.out]; omega
              have e1b : ((k : Int) == (a : Int)) = true := by rw [beq_iff_eq]; omega
              clear e1
              go_wp2
              go_ret2
              exact ⟨⟨_, rfl, Or.inl ⟨HN.out, rfl⟩⟩, rfl⟩
            · have e1b : ((k : Int) == (a : Int)) = false := beq_false_of_ne (by omega)
              have b1 : a < s.size := by omega
              have b2 : (a : Int) < (s.size : Int) := by omega
              have b3 : (0 : Int) ≤ (a : Int) := by omega
              have b4 : ((a : Int)).toNat = a := by omega
              have b5 : (k : Int) ≤ (s.size : Int) := by omega
              have b6 : (a : Int) ≤ (k : Int) := by omega
              have b7 : ¬ (a : Int) < (a : Int) := by omega
              have HHd : Hid ((s.data.toList.drop (a)).head? = some s[a]) := by show _ = _; rw [drop_cons s (a) b1]; rfl
              have HTn : Hid ((s.data.toList.drop (a)).takeWhile Json.isDig ≠ []) := by
                rw [HT1.out]; intro h
                have := congrArg List.length h
                rw [len_list, HXs.out, List.length_nil] at this
                omega
              have HTl : Hid (((s.data.toList.drop (a)).takeWhile Json.isDig).length = k - (a)) := by show _ = _; rw [HT1.out, len_list, HXs.out]
              clear e1
              by_cases z1 : s[a] = 48 ∧ a + 1 < k
              · have HN : Hid (O = none) := by
                  show _ = _
                  rw [HB.out]
                  refine digs_none (Or.inr ⟨by rw [HHd.out, z1.1], by rw [HTl.out]; omega⟩)
                have z1b : (s[a].toNat : Int) = 48 := by rw [z1.1]; rfl
                have z2 : (a : Int) + 1 < (k : Int) := by omega
                clear z1
                go_wp2
                go_ret2
                exact ⟨⟨_, rfl, Or.inl ⟨HN.out, rfl⟩⟩, rfl⟩
              · have HS := hide (digs_some (b := false) (l := s.data.toList.drop (a)) (by
                  rintro (h | ⟨h, h2⟩)
                  · exact HTn.out h
                  · rw [HHd.out] at h
                    rw [HTl.out] at h2
                    exact z1 ⟨by injection h, by omega⟩))
                have HBV : Hid (O = match Json.below T.data.toList false with | none => none | some v => some (v, s.data.toList.drop k)) := by
                  show _ = _; rw [HB.out, HS.out, HT1.out, HT2.out]
                have HC := hide (refBelow_any T false w (by have := HXs.out; omega) HA.out)
                rw [← HTT.out] at HC
                by_cases z2 : s[a] = 48
                · have z2b : (s[a].toNat : Int) = 48 := by rw [z2]; rfl
                  have z3 : ¬ (a : Int) + 1 < (k : Int) := by intro h; exact z1 ⟨z2, by omega⟩
                  clear z1 z2
                  go_wp2_with fail
                  refine HC.out.mono ?_
                  rintro x w1 ⟨rfl, hw1⟩
                  obtain rfl := hw1
                  rw [HTT.out]
                  cases hv : Json.below T.data.toList false with
                  | none =>
                    have HN : Hid (O = none) := by show _ = _; rw [HBV.out, hv]
                    clear hv
                    rw [show belowV none = .tuple #[.int .i64 0, .bool false] from rfl]
                    go_wp2
                    go_ret2
                    exact ⟨⟨_, rfl, Or.inl ⟨HN.out, rfl⟩⟩, rfl⟩
                  | some v =>
                    have HN : Hid (O = some (v, s.data.toList.drop k)) := by show _ = _; rw [HBV.out, hv]
                    clear hv
                    rw [show belowV (some v) = .tuple #[.int .i64 v, .bool true] from rfl]
                    go_wp2
                    go_ret2
                    exact ⟨⟨_, rfl, Or.inr ⟨v, _, k, HN.out, hk, rfl, rfl⟩⟩, rfl⟩
                · have z2b : ((s[a].toNat : Int) == 48) = false := beq_false_of_ne (fun e => z2 (UInt8.toNat_inj.1 (by show _ = 48; omega)))
                  clear z1 z2
                  go_wp2_with fail
                  refine HC.out.mono ?_
                  rintro x w1 ⟨rfl, hw1⟩
                  obtain rfl := hw1
                  rw [HTT.out]
                  cases hv : Json.below T.data.toList false with
                  | none =>
                    have HN : Hid (O = none) := by show _ = _; rw [HBV.out, hv]
                    clear hv
                    rw [show belowV none = .tuple #[.int .i64 0, .bool false] from rfl]
                    go_wp2
                    go_ret2
                    exact ⟨⟨_, rfl, Or.inl ⟨HN.out, rfl⟩⟩, rfl⟩
                  | some v =>
                    have HN : Hid (O = some (v, s.data.toList.drop k)) := by show _ = _; rw [HBV.out, hv]
                    clear hv
                    rw [show belowV (some v) = .tuple #[.int .i64 v, .bool true] from rfl]
                    go_wp2
                    go_ret2
                    exact ⟨⟨_, rfl, Or.inr ⟨v, _, k, HN.out, hk, rfl, rfl⟩⟩, rfl⟩
end Go.Proofs.YtkkgngmhdlmgnaaDoor.jw
