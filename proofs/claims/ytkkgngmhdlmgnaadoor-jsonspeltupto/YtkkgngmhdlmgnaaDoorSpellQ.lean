import Derived.Test.YtkkgngmhdlmgnaaDoorSpellKit2
namespace Go.Proofs.YtkkgngmhdlmgnaaDoor.jw
open Go.ChangeShapes Go.WideShapes Go.ChangeAt Go.RowKit Go.Proofs.YtkkgngmhdlmgnaaDoor.common
attribute [local go_sem ↓] Go.wp_at_zero Go.wp_at_succ

theorem spelt_snoc {t u : List UInt8} {d : Nat} {e : List UInt8} (h : Json.Spelt t u) (k : Json.SpeltChar d e) : Json.Spelt (t ++ Lib.encodeRune (d : Int)) (u ++ e) := by
  obtain ⟨L, h1, rfl, rfl⟩ := h
  refine ⟨L ++ [(d, e)], ?_, ?_, ?_⟩
  · intro p hp
    rcases List.mem_append.1 hp with h | h
    · exact h1 p h
    · simp at h; subst h; exact k
  · simp [Json.stands]
  · simp [Json.written]
theorem conv_two (w : World) (c0 c1 : UInt8) : (convert 60 9 (.slice (some ⟨w.heap.size, 0, none⟩) 2 2)).run Tryd.prog (w.alloc (.cells #[B c0, B c1] 5)) = .ok (S [c0, c1]) (w.alloc (.cells #[B c0, B c1] 5)) := by
  refine run_convert_bytes_back (P := Tryd.prog) _ 60 9 5 ⟨w.heap.size, 0, none⟩ 2 [c0, c1] Tryd.underlying60 Tryd.underlying5 Tryd.underlying9 ?_
  intro j hj
  rw [Addr.add_mid]
  refine range_new w #[B c0, B c1] 5 j _ ?_
  match j, hj with
  | 0, _ => rfl
  | 1, _ => rfl
theorem conv_two_drew (w : World) (c0 c1 : UInt8) : (convert 60 9 (.slice (some ⟨w.heap.size, 0, none⟩) 2 2)).run Tryd.prog (w.alloc (.cells #[B c0, B c1] 5)).drew = .ok (S [c0, c1]) (w.alloc (.cells #[B c0, B c1] 5)).drew := by
  refine run_convert_bytes_back (P := Tryd.prog) _ 60 9 5 ⟨w.heap.size, 0, none⟩ 2 [c0, c1] Tryd.underlying60 Tryd.underlying5 Tryd.underlying9 ?_
  intro j hj
  rw [Addr.add_mid]
  show (w.alloc (.cells #[B c0, B c1] 5)).cell? _ = _
  refine range_new w #[B c0, B c1] 5 j _ ?_
  match j, hj with
  | 0, _ => rfl
  | 1, _ => rfl
theorem ext_listQ (s : ByteArray) (a b : Nat) : (s.extract a b).data.toList = (s.data.toList.drop a).take (b - a) := by
  rw [ByteArray.data_extract, Array.toList_extract, List.extract_eq_take_drop]
theorem short_small {m : UInt8} {c : Nat} (h : Json.short m = some c) : c < 128 := by
  unfold Json.short at h
  repeat (split at h; · injection h with h; omega)
  cases h
/-- what the character at k is -/
theorem char_at (s : ByteArray) (k : Nat) (hk : k < s.size) (hv : Lib.validD (s.data.toList.drop k) = true) :
    ∃ d r, Json.okRune d ∧ s.data.toList.drop k = Lib.encodeRune (d : Int) ++ r ∧ Lib.validD (s.data.toList.drop (k + (Lib.encodeRune (d : Int)).length)) = true ∧ 1 ≤ (Lib.encodeRune (d : Int)).length ∧ (Lib.encodeRune (d : Int)).length ≤ 4 ∧ k + (Lib.encodeRune (d : Int)).length ≤ s.size ∧
      s.data.toList.take (k + (Lib.encodeRune (d : Int)).length) = s.data.toList.take k ++ Lib.encodeRune (d : Int) ∧ (s.extract k (k + (Lib.encodeRune (d : Int)).length)).data.toList = Lib.encodeRune (d : Int) ∧
      (s[k].toNat < 128 → s[k].toNat = d) ∧ (d < 128 → s[k].toNat = d) := by
  rcases Json.valid_cases _ hv with h | ⟨d, r, hd, he, hr, hdec⟩
  · exfalso
    have := congrArg List.length h
    rw [List.length_drop, len_list, List.length_nil] at this
    omega
  · have hlen : s.size - k = (Lib.encodeRune (d : Int)).length + r.length := by
      have := congrArg List.length he
      rw [List.length_drop, len_list, List.length_append] at this
      exact this
    have heq := enc_bytes s k d r hd he
    have hfac : (1 ≤ (Lib.encodeRune (d : Int)).length ∧ (Lib.encodeRune (d : Int)).length ≤ 4) ∧ ((d < 128 ∧ s[k].toNat = d) ∨ (128 ≤ d ∧ 192 ≤ s[k].toNat)) := by
      rcases heq with ⟨c, h, _, b⟩ | ⟨c, _, h, _, b, _⟩ | ⟨c, _, h, _, b, _⟩ | ⟨c, _, h, _, b, _⟩
      · exact ⟨by rw [h]; decide, Or.inl ⟨c, b⟩⟩
      · exact ⟨by rw [h]; decide, Or.inr ⟨c, by rw [b]; exact Nat.le_add_right _ _⟩⟩
      · exact ⟨by rw [h]; decide, Or.inr ⟨Nat.le_trans (by decide) c, by rw [b]; exact Nat.le_trans (by decide) (Nat.le_add_right _ _)⟩⟩
      · exact ⟨by rw [h]; decide, Or.inr ⟨Nat.le_trans (by decide) c, by rw [b]; exact Nat.le_trans (by decide) (Nat.le_add_right _ _)⟩⟩
    obtain ⟨h1, hfac⟩ := hfac
    clear heq
    refine ⟨d, r, hd, he, ?_, h1.1, h1.2, by omega, ?_, ?_, ?_, ?_⟩
    · rw [← List.drop_drop, he, List.drop_left]; exact hr
    · rw [List.take_add, he, List.take_left]
    · rw [ext_listQ, he, show k + (Lib.encodeRune (d : Int)).length - k = (Lib.encodeRune (d : Int)).length by omega, List.take_left]
    · intro hlt
      rcases hfac with ⟨_, b⟩ | ⟨_, b⟩
      · exact b
      · omega
    · intro hlt
      rcases hfac with ⟨_, b⟩ | ⟨b, _⟩
      · exact b
      · omega

set_option maxRecDepth 100000 in
set_option maxHeartbeats 3200000 in
theorem lquoted_any (s : ByteArray) (tv : Value) (A : Nat) (w : World) (hs : s.size ≤ 14680064) (hv : Lib.validD s.data.toList = true) (ht : Tn w tv) (hA : A ≤ 2305843009213693952) (I : Int) (hI : I = (A : Int)) :
    Calls Tryd.prog 15 #[.string s, tv, .int .i64 I] w fun x w' => (∃ u, x = .returned (S (34 :: (u ++ [34]))) ∧ Json.Spelt s.data.toList u ∧ u.length ≤ 12 * s.size) ∧ Below w.heap.size w w' := by
  have HV := hide hv
  have HT := hide ht
  have HI := hide hI
  clear hv ht
  have i0 : (0 : Int) ≤ I := by omega
  have i1 : I ≤ 2305843009213693952 := by omega
  clear hI
  go_enter Tryd.func15, Tryd.ntmps15
  go_wp2_with fail
  go_loopw [7, 8] (fun ov iv wr => ∃ (k : Nat) (Z : ByteArray) (u : List UInt8), k ≤ s.size ∧ iv = .int .i64 k ∧ ov = .string Z ∧ Z.size ≤ 12 * k + 1 ∧ Hid (Z.data.toList = 34 :: u) ∧ Hid (Json.Spelt (s.data.toList.take k) u) ∧ Hid (Lib.validD (s.data.toList.drop k) = true) ∧ Hid (Below w.heap.size w wr)) (fun _ iv _ => s.size - (intOf iv).toNat)
  case atStart => exact ⟨0, ⟨#[34]⟩, [], by omega, rfl, rfl, by decide, rfl, by show Json.Spelt _ _; rw [List.take_zero]; exact Json.Spelt.nil, by show _ = _; rw [List.drop_zero]; exact HV.out, Below.refl _ _⟩
  case round =>
    obtain ⟨k, Z, u, hk, rfl, rfl, hZs, hZ, hsp, hvd, hb⟩ := hrel
    by_cases hlt : k < s.size
    · obtain ⟨d, r, hd, he, hvn, n1, n4, hkn, htk, hex, hc1, hc2⟩ := char_at s k hlt hvd.out
      have HD := hide hd
      have HE := hide he
      have HVN := hide hvn
      have HTK := hide htk
      have HEX := hide hex
      have HC1 := hide hc1
      have HC2 := hide hc2
      have k0 : (0 : Int) ≤ (k : Int) := by omega
      have k1 : (k : Int) < (s.size : Int) := by omega
      have HLong := hide (fun (W : World) => long_any s k d r W (by omega) HD.out HE.out (k : Int) rfl)
      have HNum := hide (fun (W : World) (J : Int) (hJ : J = ((Lib.encodeRune (d : Int)).length : Int)) => lnumber_any s k d r W (by omega) HD.out HE.out (k : Int) J rfl hJ)
      have HU := hide (fun g hg => units_spelt d g HD.out hg)
      have HSelf := hide (fun a b c => Json.spelt_self d HD.out a b c)
      have hd9 : d ≤ 1114111 := by unfold Json.okRune at hd; omega
      generalize hn : (Lib.encodeRune (d : Int)).length = n at *
      clear hd he hvn htk hex hc1 hc2 hn
      go_wp2_with fail
      refine (HLong.out _).mono ?_
      rintro x w1 ⟨rfl, hw1⟩
      obtain rfl := hw1
      go_wp2_with fail
      refine (turn_any tv (A + k) 4 w1 (HT.out.below hb.out) (by omega) (by decide) (by decide) _ 4 (by have := HI.out; omega) rfl).mono ?_
      rintro x w2 ⟨⟨way, rfl, hway⟩, hb2⟩
      have HB2 := hide (hb.out.trans (hb2.mono hb.out.size))
      clear hb2
      go_wp2_with fail
      refine (inShort_any s[k] w2).mono ?_
      rintro x w3 ⟨⟨m, rfl, hm⟩, hw3⟩
      obtain rfl := hw3
      have HM := hide hm
      clear hm
      have w0 : (0 : Int) ≤ (way : Int) := by omega
      by_cases c1 : m ≠ 0 ∧ way < 2
      · obtain ⟨hm0, hw2⟩ := c1
        have mb : ((m.toNat : Int) != 0) = true := by
          simp only [bne_iff_ne, ne_eq]
          intro e2
          exact hm0 (UInt8.toNat_inj.1 (by show _ = 0; omega))
        have wb : (way : Int) < 2 := by omega
        have HSC : Hid (Json.SpeltChar d [92, m]) := by
          have h1 := HM.out hm0
          have h2 := short_small h1.1
          rw [HC1.out h2] at h1
          exact Json.spelt_short m d h1.1 h1.2
        have hcv := conv_two w3 92 m
        have hcd := conv_two_drew w3 92 m
        have h92 : (((92 : UInt8).toNat : Nat) : Int) = 92 := rfl
        unfold B at hcv hcd
        rw [h92] at hcv hcd
        clear hm0 hw2 h92 HM
        go_wp2_with fail
        go_roundw
        case rel => exact ⟨k + n, Z ++ (⟨#[92, m]⟩ : ByteArray), u ++ [92, m], hkn, by go_num, rfl, by rw [ByteArray.size_append]; have : (⟨#[92, m]⟩ : ByteArray).size = 2 := rfl; omega, by show _ = _; rw [ByteArray.toList_data_append, hZ.out]; rfl, by show Json.Spelt _ _; rw [HTK.out]; exact spelt_snoc hsp.out HSC.out, HVN, HB2.out.alloc HB2.out.size _⟩
        case measure => simp [intOf]; omega
      · have hbranch : (((m.toNat : Int) != 0) = false) ∨ (((m.toNat : Int) != 0) = true ∧ ¬ (way : Int) < 2) := by
          by_cases hm0 : m = 0
          · left; rw [hm0]; rfl
          · right
            refine ⟨?_, by intro h; exact c1 ⟨hm0, by omega⟩⟩
            simp only [bne_iff_ne, ne_eq]
            intro e2
            exact hm0 (UInt8.toNat_inj.1 (by show _ = 0; omega))
        clear c1 HM
        by_cases c2 : way = 3 ∨ s[k].toNat < 32 ∨ s[k] = 34 ∨ s[k] = 92
        · have HC2X : Hid (way = 3 ∨ s[k].toNat < 32 ∨ s[k] = 34 ∨ s[k] = 92) := c2
          have hcond : Hid ((way : Int) = 3) ∨ Hid ((((way : Int) == 3) = false) ∧ (s[k].toNat : Int) < 32) ∨ Hid ((((way : Int) == 3) = false) ∧ ¬ (s[k].toNat : Int) < 32 ∧ (s[k].toNat : Int) = 34) ∨ Hid ((((way : Int) == 3) = false) ∧ ¬ (s[k].toNat : Int) < 32 ∧ (((s[k].toNat : Int) == 34) = false) ∧ (s[k].toNat : Int) = 92) := by
            by_cases e3 : way = 3
            · left; show _ = _; omega
            · have f3 : ((way : Int) == 3) = false := beq_false_of_ne (by omega)
              by_cases e32 : s[k].toNat < 32
              · right; left; exact ⟨f3, by omega⟩
              · by_cases e34 : s[k] = 34
                · right; right; left; exact ⟨f3, by omega, by rw [e34]; rfl⟩
                · right; right; right
                  refine ⟨f3, by omega, beq_false_of_ne (fun e2 => e34 (UInt8.toNat_inj.1 (by show _ = 34; omega))), ?_⟩
                  rcases c2 with h | h | h | h
                  · exact absurd h e3
                  · exact absurd h e32
                  · exact absurd h e34
                  · rw [h]; rfl
          clear c2 HC2X
          have HTr := hide (fun (W : World) (hW : Below w.heap.size w W) => turn_any tv (A + k + 1) 2 W (HT.out.below hW) (by omega) (by decide) (by decide) (I + (k : Int) + 1) 2 (by have := HI.out; omega) rfl)
          rcases hcond with h | h | h | h
          · have x1 : (way : Int) = 3 := h.out
            rcases hbranch with mb | ⟨mb, wb⟩
            · go_wp2_with fail
              refine (HNum.out _ _ rfl).mono ?_
              rintro x w4 ⟨rfl, hb4⟩
              have HB4 := hide (HB2.out.trans (hb4.mono HB2.out.size))
              clear hb4
              go_wp2_with fail
              refine (HTr.out _ HB4.out).mono ?_
              rintro x w5 ⟨⟨gr, rfl, hgr⟩, hb5⟩
              have HB5 := hide (HB4.out.trans (hb5.mono HB4.out.size))
              clear hb5
              go_wp2_with fail
              refine (lspelt_any d gr _ hd9 hgr _ _ rfl rfl).mono ?_
              rintro x w6 ⟨rfl, hb6⟩
              have HB6 := hide (HB5.out.trans (hb6.mono HB5.out.size))
              clear hb6
              have HSC := hide (HU.out gr hgr)
              have HUl := hide (units_len d gr)
              obtain ⟨P, hP⟩ : ∃ P : ByteArray, (⟨(units d gr).toArray⟩ : ByteArray) = P := ⟨_, rfl⟩
              have HPl : Hid (units d gr = P.data.toList) := by show _ = _; rw [← hP]
              have HPs : Hid (P.size ≤ 12) := by show _ ≤ _; rw [← hP, str_size]; exact HUl.out
              unfold S
              rw [hP]
              rw [HPl.out] at HSC
              clear hP
              have hsz : ¬ (9223372036854775807 < Z.size + P.size) := by have := HPs.out; omega
              go_wp2_with fail
              go_roundw
              case rel => exact ⟨k + n, Z ++ P, u ++ P.data.toList, hkn, by go_num, rfl, by rw [ByteArray.size_append]; have := HPs.out; omega, by show _ = _; rw [ByteArray.toList_data_append, hZ.out]; rfl, by show Json.Spelt _ _; rw [HTK.out]; exact spelt_snoc hsp.out HSC.out, HVN, HB6⟩
              case measure => simp [intOf]; omega
            · go_wp2_with fail
              refine (HNum.out _ _ rfl).mono ?_
              rintro x w4 ⟨rfl, hb4⟩
              have HB4 := hide (HB2.out.trans (hb4.mono HB2.out.size))
              clear hb4
              go_wp2_with fail
              refine (HTr.out _ HB4.out).mono ?_
              rintro x w5 ⟨⟨gr, rfl, hgr⟩, hb5⟩
              have HB5 := hide (HB4.out.trans (hb5.mono HB4.out.size))
              clear hb5
              go_wp2_with fail
              refine (lspelt_any d gr _ hd9 hgr _ _ rfl rfl).mono ?_
              rintro x w6 ⟨rfl, hb6⟩
              have HB6 := hide (HB5.out.trans (hb6.mono HB5.out.size))
              clear hb6
              have HSC := hide (HU.out gr hgr)
              have HUl := hide (units_len d gr)
              obtain ⟨P, hP⟩ : ∃ P : ByteArray, (⟨(units d gr).toArray⟩ : ByteArray) = P := ⟨_, rfl⟩
              have HPl : Hid (units d gr = P.data.toList) := by show _ = _; rw [← hP]
              have HPs : Hid (P.size ≤ 12) := by show _ ≤ _; rw [← hP, str_size]; exact HUl.out
              unfold S
              rw [hP]
              rw [HPl.out] at HSC
              clear hP
              have hsz : ¬ (9223372036854775807 < Z.size + P.size) := by have := HPs.out; omega
              go_wp2_with fail
              go_roundw
              case rel => exact ⟨k + n, Z ++ P, u ++ P.data.toList, hkn, by go_num, rfl, by rw [ByteArray.size_append]; have := HPs.out; omega, by show _ = _; rw [ByteArray.toList_data_append, hZ.out]; rfl, by show Json.Spelt _ _; rw [HTK.out]; exact spelt_snoc hsp.out HSC.out, HVN, HB6⟩
              case measure => simp [intOf]; omega
          · obtain ⟨x1, x2⟩ := h.out
            rcases hbranch with mb | ⟨mb, wb⟩
            · go_wp2_with fail
              refine (HNum.out _ _ rfl).mono ?_
              rintro x w4 ⟨rfl, hb4⟩
              have HB4 := hide (HB2.out.trans (hb4.mono HB2.out.size))
              clear hb4
              go_wp2_with fail
              refine (HTr.out _ HB4.out).mono ?_
              rintro x w5 ⟨⟨gr, rfl, hgr⟩, hb5⟩
              have HB5 := hide (HB4.out.trans (hb5.mono HB4.out.size))
              clear hb5
              go_wp2_with fail
              refine (lspelt_any d gr _ hd9 hgr _ _ rfl rfl).mono ?_
              rintro x w6 ⟨rfl, hb6⟩
              have HB6 := hide (HB5.out.trans (hb6.mono HB5.out.size))
              clear hb6
              have HSC := hide (HU.out gr hgr)
              have HUl := hide (units_len d gr)
              obtain ⟨P, hP⟩ : ∃ P : ByteArray, (⟨(units d gr).toArray⟩ : ByteArray) = P := ⟨_, rfl⟩
              have HPl : Hid (units d gr = P.data.toList) := by show _ = _; rw [← hP]
              have HPs : Hid (P.size ≤ 12) := by show _ ≤ _; rw [← hP, str_size]; exact HUl.out
              unfold S
              rw [hP]
              rw [HPl.out] at HSC
              clear hP
              have hsz : ¬ (9223372036854775807 < Z.size + P.size) := by have := HPs.out; omega
              go_wp2_with fail
              go_roundw
              case rel => exact ⟨k + n, Z ++ P, u ++ P.data.toList, hkn, by go_num, rfl, by rw [ByteArray.size_append]; have := HPs.out; omega, by show _ = _; rw [ByteArray.toList_data_append, hZ.out]; rfl, by show Json.Spelt _ _; rw [HTK.out]; exact spelt_snoc hsp.out HSC.out, HVN, HB6⟩
              case measure => simp [intOf]; omega
            · go_wp2_with fail
              refine (HNum.out _ _ rfl).mono ?_
              rintro x w4 ⟨rfl, hb4⟩
              have HB4 := hide (HB2.out.trans (hb4.mono HB2.out.size))
              clear hb4
              go_wp2_with fail
              refine (HTr.out _ HB4.out).mono ?_
              rintro x w5 ⟨⟨gr, rfl, hgr⟩, hb5⟩
              have HB5 := hide (HB4.out.trans (hb5.mono HB4.out.size))
              clear hb5
              go_wp2_with fail
              refine (lspelt_any d gr _ hd9 hgr _ _ rfl rfl).mono ?_
              rintro x w6 ⟨rfl, hb6⟩
              have HB6 := hide (HB5.out.trans (hb6.mono HB5.out.size))
              clear hb6
              have HSC := hide (HU.out gr hgr)
              have HUl := hide (units_len d gr)
              obtain ⟨P, hP⟩ : ∃ P : ByteArray, (⟨(units d gr).toArray⟩ : ByteArray) = P := ⟨_, rfl⟩
              have HPl : Hid (units d gr = P.data.toList) := by show _ = _; rw [← hP]
              have HPs : Hid (P.size ≤ 12) := by show _ ≤ _; rw [← hP, str_size]; exact HUl.out
              unfold S
              rw [hP]
              rw [HPl.out] at HSC
              clear hP
              have hsz : ¬ (9223372036854775807 < Z.size + P.size) := by have := HPs.out; omega
              go_wp2_with fail
              go_roundw
              case rel => exact ⟨k + n, Z ++ P, u ++ P.data.toList, hkn, by go_num, rfl, by rw [ByteArray.size_append]; have := HPs.out; omega, by show _ = _; rw [ByteArray.toList_data_append, hZ.out]; rfl, by show Json.Spelt _ _; rw [HTK.out]; exact spelt_snoc hsp.out HSC.out, HVN, HB6⟩
              case measure => simp [intOf]; omega
          · obtain ⟨x1, x2, x3⟩ := h.out
            rcases hbranch with mb | ⟨mb, wb⟩
            · go_wp2_with fail
              refine (HNum.out _ _ rfl).mono ?_
              rintro x w4 ⟨rfl, hb4⟩
              have HB4 := hide (HB2.out.trans (hb4.mono HB2.out.size))
              clear hb4
              go_wp2_with fail
              refine (HTr.out _ HB4.out).mono ?_
              rintro x w5 ⟨⟨gr, rfl, hgr⟩, hb5⟩
              have HB5 := hide (HB4.out.trans (hb5.mono HB4.out.size))
              clear hb5
              go_wp2_with fail
              refine (lspelt_any d gr _ hd9 hgr _ _ rfl rfl).mono ?_
              rintro x w6 ⟨rfl, hb6⟩
              have HB6 := hide (HB5.out.trans (hb6.mono HB5.out.size))
              clear hb6
              have HSC := hide (HU.out gr hgr)
              have HUl := hide (units_len d gr)
              obtain ⟨P, hP⟩ : ∃ P : ByteArray, (⟨(units d gr).toArray⟩ : ByteArray) = P := ⟨_, rfl⟩
              have HPl : Hid (units d gr = P.data.toList) := by show _ = _; rw [← hP]
              have HPs : Hid (P.size ≤ 12) := by show _ ≤ _; rw [← hP, str_size]; exact HUl.out
              unfold S
              rw [hP]
              rw [HPl.out] at HSC
              clear hP
              have hsz : ¬ (9223372036854775807 < Z.size + P.size) := by have := HPs.out; omega
              go_wp2_with fail
              go_roundw
              case rel => exact ⟨k + n, Z ++ P, u ++ P.data.toList, hkn, by go_num, rfl, by rw [ByteArray.size_append]; have := HPs.out; omega, by show _ = _; rw [ByteArray.toList_data_append, hZ.out]; rfl, by show Json.Spelt _ _; rw [HTK.out]; exact spelt_snoc hsp.out HSC.out, HVN, HB6⟩
              case measure => simp [intOf]; omega
            · go_wp2_with fail
              refine (HNum.out _ _ rfl).mono ?_
              rintro x w4 ⟨rfl, hb4⟩
              have HB4 := hide (HB2.out.trans (hb4.mono HB2.out.size))
              clear hb4
              go_wp2_with fail
              refine (HTr.out _ HB4.out).mono ?_
              rintro x w5 ⟨⟨gr, rfl, hgr⟩, hb5⟩
              have HB5 := hide (HB4.out.trans (hb5.mono HB4.out.size))
              clear hb5
              go_wp2_with fail
              refine (lspelt_any d gr _ hd9 hgr _ _ rfl rfl).mono ?_
              rintro x w6 ⟨rfl, hb6⟩
              have HB6 := hide (HB5.out.trans (hb6.mono HB5.out.size))
              clear hb6
              have HSC := hide (HU.out gr hgr)
              have HUl := hide (units_len d gr)
              obtain ⟨P, hP⟩ : ∃ P : ByteArray, (⟨(units d gr).toArray⟩ : ByteArray) = P := ⟨_, rfl⟩
              have HPl : Hid (units d gr = P.data.toList) := by show _ = _; rw [← hP]
              have HPs : Hid (P.size ≤ 12) := by show _ ≤ _; rw [← hP, str_size]; exact HUl.out
              unfold S
              rw [hP]
              rw [HPl.out] at HSC
              clear hP
              have hsz : ¬ (9223372036854775807 < Z.size + P.size) := by have := HPs.out; omega
              go_wp2_with fail
              go_roundw
              case rel => exact ⟨k + n, Z ++ P, u ++ P.data.toList, hkn, by go_num, rfl, by rw [ByteArray.size_append]; have := HPs.out; omega, by show _ = _; rw [ByteArray.toList_data_append, hZ.out]; rfl, by show Json.Spelt _ _; rw [HTK.out]; exact spelt_snoc hsp.out HSC.out, HVN, HB6⟩
              case measure => simp [intOf]; omega
          · obtain ⟨x1, x2, x3, x4⟩ := h.out
            rcases hbranch with mb | ⟨mb, wb⟩
            · go_wp2_with fail
              refine (HNum.out _ _ rfl).mono ?_
              rintro x w4 ⟨rfl, hb4⟩
              have HB4 := hide (HB2.out.trans (hb4.mono HB2.out.size))
              clear hb4
              go_wp2_with fail
              refine (HTr.out _ HB4.out).mono ?_
              rintro x w5 ⟨⟨gr, rfl, hgr⟩, hb5⟩
              have HB5 := hide (HB4.out.trans (hb5.mono HB4.out.size))
              clear hb5
              go_wp2_with fail
              refine (lspelt_any d gr _ hd9 hgr _ _ rfl rfl).mono ?_
              rintro x w6 ⟨rfl, hb6⟩
              have HB6 := hide (HB5.out.trans (hb6.mono HB5.out.size))
              clear hb6
              have HSC := hide (HU.out gr hgr)
              have HUl := hide (units_len d gr)
              obtain ⟨P, hP⟩ : ∃ P : ByteArray, (⟨(units d gr).toArray⟩ : ByteArray) = P := ⟨_, rfl⟩
              have HPl : Hid (units d gr = P.data.toList) := by show _ = _; rw [← hP]
              have HPs : Hid (P.size ≤ 12) := by show _ ≤ _; rw [← hP, str_size]; exact HUl.out
              unfold S
              rw [hP]
              rw [HPl.out] at HSC
              clear hP
              have hsz : ¬ (9223372036854775807 < Z.size + P.size) := by have := HPs.out; omega
              go_wp2_with fail
              go_roundw
              case rel => exact ⟨k + n, Z ++ P, u ++ P.data.toList, hkn, by go_num, rfl, by rw [ByteArray.size_append]; have := HPs.out; omega, by show _ = _; rw [ByteArray.toList_data_append, hZ.out]; rfl, by show Json.Spelt _ _; rw [HTK.out]; exact spelt_snoc hsp.out HSC.out, HVN, HB6⟩
              case measure => simp [intOf]; omega
            · go_wp2_with fail
              refine (HNum.out _ _ rfl).mono ?_
              rintro x w4 ⟨rfl, hb4⟩
              have HB4 := hide (HB2.out.trans (hb4.mono HB2.out.size))
              clear hb4
              go_wp2_with fail
              refine (HTr.out _ HB4.out).mono ?_
              rintro x w5 ⟨⟨gr, rfl, hgr⟩, hb5⟩
              have HB5 := hide (HB4.out.trans (hb5.mono HB4.out.size))
              clear hb5
              go_wp2_with fail
              refine (lspelt_any d gr _ hd9 hgr _ _ rfl rfl).mono ?_
              rintro x w6 ⟨rfl, hb6⟩
              have HB6 := hide (HB5.out.trans (hb6.mono HB5.out.size))
              clear hb6
              have HSC := hide (HU.out gr hgr)
              have HUl := hide (units_len d gr)
              obtain ⟨P, hP⟩ : ∃ P : ByteArray, (⟨(units d gr).toArray⟩ : ByteArray) = P := ⟨_, rfl⟩
              have HPl : Hid (units d gr = P.data.toList) := by show _ = _; rw [← hP]
              have HPs : Hid (P.size ≤ 12) := by show _ ≤ _; rw [← hP, str_size]; exact HUl.out
              unfold S
              rw [hP]
              rw [HPl.out] at HSC
              clear hP
              have hsz : ¬ (9223372036854775807 < Z.size + P.size) := by have := HPs.out; omega
              go_wp2_with fail
              go_roundw
              case rel => exact ⟨k + n, Z ++ P, u ++ P.data.toList, hkn, by go_num, rfl, by rw [ByteArray.size_append]; have := HPs.out; omega, by show _ = _; rw [ByteArray.toList_data_append, hZ.out]; rfl, by show Json.Spelt _ _; rw [HTK.out]; exact spelt_snoc hsp.out HSC.out, HVN, HB6⟩
              case measure => simp [intOf]; omega
        · have x1 : ((way : Int) == 3) = false := beq_false_of_ne (by intro h; exact c2 (Or.inl (by omega)))
          have x2 : ¬ (s[k].toNat : Int) < 32 := by intro h; exact c2 (Or.inr (Or.inl (by omega)))
          have x3 : ((s[k].toNat : Int) == 34) = false := beq_false_of_ne (fun e2 => c2 (Or.inr (Or.inr (Or.inl (UInt8.toNat_inj.1 (by show _ = 34; omega))))))
          have x4 : ((s[k].toNat : Int) == 92) = false := beq_false_of_ne (fun e2 => c2 (Or.inr (Or.inr (Or.inr (UInt8.toNat_inj.1 (by show _ = 92; omega))))))
          have HSC : Hid (Json.SpeltChar d (s.extract k (k + n)).data.toList) := by
            rw [HEX.out]
            refine HSelf.out ?_ ?_ ?_
            · by_cases h : d < 128
              · have := HC2.out h; omega
              · omega
            · intro h
              have := HC2.out (by omega)
              exact c2 (Or.inr (Or.inr (Or.inl (UInt8.toNat_inj.1 (by show _ = 34; omega)))))
            · intro h
              have := HC2.out (by omega)
              exact c2 (Or.inr (Or.inr (Or.inr (UInt8.toNat_inj.1 (by show _ = 92; omega)))))
          have y1 : (k : Int) + (n : Int) ≤ (s.size : Int) := by omega
          have y2 : (k : Int) ≤ (k : Int) + (n : Int) := by omega
          have y3 : ((k : Int) + (n : Int)).toNat = k + n := by omega
          have HES : Hid ((s.extract k (k + n)).size ≤ 4) := by show _ ≤ _; rw [ByteArray.size_extract]; omega
          have hsz : ¬ (9223372036854775807 < Z.size + (s.extract k (k + n)).size) := by have := HES.out; omega
          clear c2
          rcases hbranch with mb | ⟨mb, wb⟩
          · go_wp2_with fail
            go_roundw
            case rel => exact ⟨k + n, Z ++ s.extract k (k + n), u ++ (s.extract k (k + n)).data.toList, hkn, by go_num, rfl, by rw [ByteArray.size_append]; have := HES.out; omega, by show _ = _; rw [ByteArray.toList_data_append, hZ.out]; rfl, by show Json.Spelt _ _; rw [HTK.out]; exact spelt_snoc hsp.out HSC.out, HVN, HB2⟩
            case measure => simp [intOf]; omega
          · go_wp2_with fail
            go_roundw
            case rel => exact ⟨k + n, Z ++ s.extract k (k + n), u ++ (s.extract k (k + n)).data.toList, hkn, by go_num, rfl, by rw [ByteArray.size_append]; have := HES.out; omega, by show _ = _; rw [ByteArray.toList_data_append, hZ.out]; rfl, by show Json.Spelt _ _; rw [HTK.out]; exact spelt_snoc hsp.out HSC.out, HVN, HB2⟩
            case measure => simp [intOf]; omega
    · have k1 : ¬ (k : Int) < (s.size : Int) := by omega
      have HF : Hid (Json.Spelt s.data.toList u) := by
        show Json.Spelt _ _
        have := hsp.out
        rw [List.take_of_length_le (by rw [len_list]; omega)] at this
        exact this
      have HL : Hid (u.length ≤ 12 * s.size) := by
        show _ ≤ _
        have := congrArg List.length hZ.out
        rw [len_list, List.length_cons] at this
        omega
      have hsz : ¬ (9223372036854775807 < Z.size + (⟨#[34]⟩ : ByteArray).size) := by have : (⟨#[34]⟩ : ByteArray).size = 1 := rfl; omega
      have hs1 : ¬ (9223372036854775807 < Z.size + 1) := by omega
      have HR : Hid (Z ++ ⟨#[34]⟩ = ⟨(34 :: (u ++ [34])).toArray⟩) := by
        apply ba_ext
        rw [ByteArray.toList_data_append, hZ.out]
        rfl
      go_wp2_with fail
      go_ret
      exact ⟨⟨u, by show Ending.returned (.string (Z ++ ⟨#[34]⟩)) = _; rw [HR.out], HF.out, HL.out⟩, hb.out⟩
end Go.Proofs.YtkkgngmhdlmgnaaDoor.jw
