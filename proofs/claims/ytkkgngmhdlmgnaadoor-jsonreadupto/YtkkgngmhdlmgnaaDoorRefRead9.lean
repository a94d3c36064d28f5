import Derived.Test.YtkkgngmhdlmgnaaDoorRefRead8
import Derived.Test.YtkkgngmhdlmgnaaDoorRefSize
import Derived.Test.YtkkgngmhdlmgnaaDoorRefMath4
namespace Go.Proofs.YtkkgngmhdlmgnaaDoor.jw
open Go.ChangeShapes Go.WideShapes Go.ChangeAt Go.RowKit Go.Proofs.YtkkgngmhdlmgnaaDoor.common
attribute [local go_sem ↓] Go.wp_at_zero Go.wp_at_succ

/-- a text and a place, or nothing and -1 -/
def QPl (s : ByteArray) (o : Option (List UInt8 × List UInt8)) (x : Value) : Prop :=
  (o = none ∧ x = .tuple #[.string ⟨#[]⟩, .int .i64 (-1)]) ∨ ∃ (t r : List UInt8) (b : Nat), o = some (t, r) ∧ b ≤ s.size ∧ x = .tuple #[S t, .int .i64 (b : Int)] ∧ s.data.toList.drop b = r

theorem refQText_none (s : ByteArray) (w : World) :
    Calls Tryd.prog 51 #[.string s, .int .i64 (-1)] w fun x w' => x = .returned (.tuple #[.string ⟨#[]⟩, .int .i64 (-1)]) ∧ w' = w := by
  go_enter Tryd.func51, Tryd.ntmps51
  go_wp2
  go_ret2
  exact ⟨rfl, rfl⟩

theorem cell_one_new9 (w : World) (v : Value) (t : TypeId) : ∀ j u, [v][j]? = some u → (w.alloc (.cells #[v] t)).cell? ((⟨w.heap.size, 0, none⟩ : Addr).add j) = some u := by
  intro j u h
  match j, h with
  | 0, h => simp at h; subst h; simp [Addr.add]

theorem take_at (s : ByteArray) (k m : Nat) (h : k + m < s.size) : (s.data.toList.drop k).take (m + 1) = (s.data.toList.drop k).take m ++ [s[k + m]] := by
  rw [List.take_succ_eq_append_getElem (by rw [List.length_drop, len_list]; omega), List.getElem_drop]
  rfl
theorem size_no (s : ByteArray) (k : Nat) (h : k < s.size) (h92 : s[k] ≠ 92) (h34 : s[k] ≠ 34) (hz : sizeOf s k = 0) (R : List UInt8) : Json.chs R (s.data.toList.drop k) = none := by
  have ha := sizeOf_agrees s k h
  rw [drop_cons s k h] at ha ⊢
  rcases ha with ⟨_, hb⟩ | ⟨_, h2⟩
  · exact Json.chs_no h34 (Json.char_bad h92 hb)
  · have := Lib.decodeL_width (s[k] :: s.data.toList.drop (k + 1))
    omega
theorem size_yes (s : ByteArray) (k : Nat) (h : k < s.size) (h92 : s[k] ≠ 92) (h34 : s[k] ≠ 34) (h32 : 32 ≤ s[k].toNat) (hz : sizeOf s k ≠ 0) :
    k + sizeOf s k ≤ s.size ∧ 1 ≤ sizeOf s k ∧ ∀ R, Json.chs R (s.data.toList.drop k) = Json.chs (R ++ (s.data.toList.drop k).take (sizeOf s k)) (s.data.toList.drop (k + sizeOf s k)) := by
  have ha := sizeOf_agrees s k h
  have hlen : (s.data.toList.drop k).length = s.size - k := by rw [List.length_drop, len_list]
  rw [drop_cons s k h] at ha hlen ⊢
  rcases ha with ⟨h0, _⟩ | ⟨hb, h2⟩
  · exact absurd h0 hz
  · obtain ⟨c1, c2, c3, c4⟩ := Json.char_self h92 h32 hb
    rw [← h2] at c1 c2 c3 c4
    refine ⟨by omega, c4, fun R => ?_⟩
    rw [Json.chs_step h34 c1, c2, ← drop_cons s k h, List.drop_drop]

set_option maxRecDepth 100000 in
set_option maxHeartbeats 6400000 in
theorem refQText_any (s : ByteArray) (a : Nat) (w : World) (hs : s.size ≤ 140737488351232) (ha : a ≤ s.size) (I : Int) (hI : I = (a : Int)) :
    Calls Tryd.prog 51 #[.string s, .int .i64 I] w fun x w' => (∃ v, x = .returned v ∧ QPl s (Json.quoted (s.data.toList.drop a)) v) ∧ Below w.heap.size w w' := by
  subst hI
  obtain ⟨i0, hi, hz0, hz1, hz2⟩ := info_parts info8
  have g0 : ¬ (a : Int) < 0 := by omega
  by_cases hlt : a < s.size
  · have g1 : ¬ (s.size : Int) ≤ (a : Int) := by omega
    have g2 : (a : Int) < (s.size : Int) := by omega
    have g3 : (0 : Int) ≤ (a : Int) := by omega
    have g4 : ¬ s.size ≤ a := by omega
    by_cases h34 : s[a] = 34
    · have HQ : Hid (Json.quoted (s.data.toList.drop a) = Json.chs [] (s.data.toList.drop (a + 1))) := by
        show _ = _; rw [drop_cons s a hlt, h34, Json.quoted_chs]
      have p1 : (s[a].toNat : Int) = 34 := by rw [h34]; rfl
      obtain ⟨O, hO⟩ : ∃ O, Json.quoted (s.data.toList.drop a) = O := ⟨_, rfl⟩
      have HO : Hid (Json.chs [] (s.data.toList.drop (a + 1)) = O) := by show _ = _; rw [← HQ.out, hO]
      rw [hO]
      clear h34 hO HQ
      have HS := hide hs
      go_enter Tryd.func51, Tryd.ntmps51
      go_wp2_with fail
      clear p1 g0 g1 g2 g3 g4
      go_loopw [1, 4, 5, 6] (fun iv r4 r5 v wr => ∃ (k : Nat) (R : List UInt8), k ≤ s.size ∧ R.length ≤ k ∧ iv = .int .i64 k ∧ r4 = .string ⟨#[]⟩ ∧ r5 = .int .i64 0 ∧ Hid (Json.chs R (s.data.toList.drop k) = O) ∧ Hid (wr.ownsRow w.heap.size 5 1 v R.length (R.map B)) ∧ Hid (Below w.heap.size w wr)) (fun iv _ _ _ _ => s.size - (intOf iv).toNat)
      case atStart => exact ⟨a + 1, [], by omega, by simp, by go_num, by first | rfl | trivial, by first | rfl | trivial, HO, World.ownsRow_nil _ _ _ _, Below.refl _ _⟩
      case round =>
        obtain ⟨k, R, hk, hRk, rfl, rfl, rfl, HX, hown, hb⟩ := hrel
        have hS := HS.out
        by_cases hkl : k < s.size
        · have k1 : (k : Int) < (s.size : Int) := by omega
          have k0 : (0 : Int) ≤ (k : Int) := by omega
          have HDC := hide (drop_cons s k hkl)
          by_cases c34 : s[k] = 34
          · have p1 : (s[k].toNat : Int) = 34 := by rw [c34]; rfl
            have HR : Hid (O = some (R, s.data.toList.drop (k + 1))) := by show _ = _; rw [← HX.out, HDC.out, c34, Json.chs_end]
            have hc := conv_own hown.out rfl
            clear c34
            go_wp2
            go_ret2
            exact ⟨⟨_, rfl, Or.inr ⟨R, _, k + 1, HR.out, by omega, by go_num, rfl⟩⟩, hb.out⟩
          · have p1 : ((s[k].toNat : Int) == 34) = false := beq_false_of_ne (fun e => c34 (UInt8.toNat_inj.1 (by show _ = 34; omega)))
            by_cases c32 : s[k].toNat < 32
            · have p2 : (s[k].toNat : Int) < 32 := by omega
              have HR : Hid (O = none) := by show _ = _; rw [← HX.out, HDC.out, Json.chs_no c34 (Json.char_low c32)]
              clear c34 c32
              go_wp2
              go_ret2
              exact ⟨⟨_, rfl, Or.inl ⟨HR.out, rfl⟩⟩, hb.out⟩
            · have p2 : ¬ (s[k].toNat : Int) < 32 := by omega
              by_cases c92 : s[k] = 92
              · have p3 : (s[k].toNat : Int) = 92 := by rw [c92]; rfl
                have HC92 := hide c92
                have HCH : Hid (Json.char (s[k] :: s.data.toList.drop (k + 1)) = Json.escaped (s.data.toList.drop (k + 1))) := by show _ = _; rw [c92, Json.char_esc]
                have HC34 := hide c34
                clear c34 c32 c92
                go_wp2_with fail
                refine (refEscape_any s k _ (by omega) hkl HC92.out _ rfl).mono ?_
                rintro x w1 ⟨⟨v1, rfl, hv1⟩, hw1⟩
                obtain rfl := hw1
                rcases hv1 with ⟨hn, rfl⟩ | ⟨n, r, b, hn, hbs, rfl, hdr⟩
                · have HR : Hid (O = none) := by show _ = _; rw [← HX.out, HDC.out, Json.chs_no HC34.out (by rw [HCH.out, hn])]
                  clear hn
                  go_wp2
                  go_ret2
                  exact ⟨⟨_, rfl, Or.inl ⟨HR.out, rfl⟩⟩, hb.out⟩
                · have HN := hide hn
                  have hch : Json.char (s[k] :: s.data.toList.drop (k + 1)) = some (n, r) := by rw [HCH.out, hn]
                  have HR : Hid (Json.chs (R ++ Lib.encodeRune (n : Int)) (s.data.toList.drop b) = O) := by
                    show _ = _; rw [← HX.out, HDC.out, Json.chs_step HC34.out hch, hdr]
                  have hok := Json.char_ok hch
                  have hel := Json.escaped_len hn
                  rw [← hdr, List.length_drop, List.length_drop, len_list] at hel
                  have hll := Json.escaped_lt hn
                  rw [← hdr, List.length_drop, List.length_drop, len_list] at hll
                  clear hn hch hdr
                  have b0 : ¬ (b : Int) < 0 := by omega
                  have hokn : (0 : Int) ≤ (n : Int) ∧ (n : Int) ≤ 1114111 ∧ ((n : Int) < 55296 ∨ (57343 : Int) < (n : Int)) := by
                    unfold Json.okRune at hok; omega
                  have HOK := hide hokn
                  clear hok hokn
                  have hb2 := hb.out.size
                  go_wp2_with fail
                  refine (refSpelt_any w.heap.size _ R (n : Int) _ HOK.out.1 HOK.out.2.1 HOK.out.2.2 hown.out (by omega) hb2).mono ?_
                  rintro x w2 ⟨v2, rfl, hown2, hbl2⟩
                  have R1 := hide hown2
                  have R2 := hide (hb.out.trans hbl2)
                  clear hown2 hbl2
                  go_wp2
                  go_roundw
                  case rel => exact ⟨b, _, hbs, by rw [List.length_append]; omega, by go_num, by first | rfl | trivial, by first | rfl | trivial, HR, R1, R2⟩
                  case measure => simp [intOf]; omega
              · have p3 : ((s[k].toNat : Int) == 92) = false := beq_false_of_ne (fun e => c92 (UInt8.toNat_inj.1 (by show _ = 92; omega)))
                have HNo := hide (fun h => size_no s k hkl c92 c34 h R)
                have HYes := hide (size_yes s k hkl c92 c34 (by omega))
                clear c34 c32 c92
                go_wp2_with fail
                refine (refSize_any s k _ (by omega) hkl).mono ?_
                rintro x w1 ⟨rfl, hw1⟩
                obtain rfl := hw1
                generalize sizeOf s k = z at *
                by_cases hz : z = 0
                · have HR : Hid (O = none) := by show _ = _; rw [← HX.out, HNo.out hz]
                  subst hz
                  go_wp2
                  go_ret2
                  exact ⟨⟨_, rfl, Or.inl ⟨HR.out, rfl⟩⟩, hb.out⟩
                · obtain ⟨z1, z2, z3⟩ := HYes.out hz
                  have HR : Hid (Json.chs (R ++ (s.data.toList.drop k).take z) (s.data.toList.drop (k + z)) = O) := by show _ = _; rw [← z3, HX.out]
                  have hzb : ((z : Int) == 0) = false := beq_false_of_ne (by omega)
                  clear z3 HYes HNo hz
                  go_wp2_with fail
                  have HXw : Hid (∃ q, q = Json.chs R (s.data.toList.drop k)) := ⟨_, rfl⟩
                  clear HX HDC p1 p2 p3 hzb
                  go_loopw [6, 11] (fun v kv wr => ∃ m : Nat, m ≤ z ∧ kv = .int .i64 m ∧ Hid (wr.ownsRow w.heap.size 5 1 v (R ++ (s.data.toList.drop k).take m).length ((R ++ (s.data.toList.drop k).take m).map B)) ∧ Hid (Below w.heap.size w wr)) (fun _ kv _ => z - (intOf kv).toNat)
                  case atStart => exact ⟨0, by omega, rfl, by show World.ownsRow _ _ _ _ _ _ _; rw [List.take_zero, List.append_nil]; exact hown.out, hb⟩
                  case round =>
                    obtain ⟨m, hm, rfl, hown3, hb3⟩ := hrel
                    by_cases hmz : m < z
                    · have m1 : (m : Int) < (z : Int) := by omega
                      have m2 : (k : Int) + (m : Int) < (s.size : Int) := by omega
                      have m3 : ((k : Int) + (m : Int)).toNat = k + m := by omega
                      have m4 : (0 : Int) ≤ (k : Int) + (m : Int) := by omega
                      have m5 : k + m < s.size := by omega
                      have HT := hide (take_at s k m m5)
                      have HL : Hid ((R ++ (s.data.toList.drop k).take m).length ≤ k + m) := by
                        show _ ≤ _
                        rw [List.length_append, List.length_take]; omega
                      have hsz := hb3.out.size
                      have HT2 : Hid (R ++ (s.data.toList.drop k).take (m + 1) = (R ++ (s.data.toList.drop k).take m) ++ [s[k + m]]) := by show _ = _; rw [HT.out, List.append_assoc]
                      generalize R ++ (s.data.toList.drop k).take m = P at *
                      clear HT
                      go_wp2_with (at_builtin; refine wpList_append_own _ rfl _ _ 60 rfl w.heap.size 5 i0 (.int .u8 0) 1 1 Tryd.underlying60 hi hz0 hz1 hz2 rfl (by decide) _ _ _ rfl (hown3.out.alloc _) ⟨_, 0, none⟩ 1 1 [_] rfl rfl (cell_one_new9 _ _ _) ?c2 ?c3 ?c4 ?c5 ?_)
                      case c2 => first | rfl | (intro u hu; simp at hu; subst hu; rfl)
                      case c3 => have := HL.out; unfold maxLen; omega
                      case c4 => have := HL.out; omega
                      case c5 => first | omega | (simp; omega)
                      intro v' w2 hown' hgrow _
                      have R1 : Hid (w2.ownsRow w.heap.size 5 1 v' (R ++ (s.data.toList.drop k).take (m + 1)).length ((R ++ (s.data.toList.drop k).take (m + 1)).map B)) := by
                        show World.ownsRow _ _ _ _ _ _ _
                        rw [HT2.out, List.map_append, List.length_append]; exact hown'
                      have R2 := hide ((hb3.out.alloc hsz _).grown hgrow (by simp; omega) (own_ge hown3.out))
                      clear hown' hgrow
                      go_wp2
                      go_roundw
                      case rel => exact ⟨m + 1, by omega, by go_num, R1, R2⟩
                      case measure => simp [intOf]; omega
                    · obtain rfl : m = z := by omega
                      have m1 : ¬ (m : Int) < (m : Int) := by omega
                      have HL : Hid ((R ++ (s.data.toList.drop k).take m).length ≤ k + m) := by
                        show _ ≤ _
                        rw [List.length_append, List.length_take]; omega
                      go_wp2
                      go_roundw
                      case rel => exact ⟨k + m, _, by omega, HL.out, by go_num, by first | rfl | trivial, by first | rfl | trivial, HR, hown3, hb3⟩
                      case measure => simp [intOf]; omega
        · have k1 : ¬ (k : Int) < (s.size : Int) := by omega
          have HR : Hid (O = none) := by show _ = _; rw [← HX.out, drop_end s k hkl, Json.chs_nil]
          go_wp2
          go_ret2
          exact ⟨⟨_, rfl, Or.inl ⟨HR.out, rfl⟩⟩, hb.out⟩
    · have HQ : Hid (Json.quoted (s.data.toList.drop a) = none) := by
        show _ = _; rw [drop_cons s a hlt, Json.quoted_no h34]
      have p1 : ((s[a].toNat : Int) == 34) = false := beq_false_of_ne (fun e => h34 (UInt8.toNat_inj.1 (by show _ = 34; omega)))
      clear h34
      go_enter Tryd.func51, Tryd.ntmps51
      go_wp2
      go_ret2
      exact ⟨⟨_, rfl, Or.inl ⟨HQ.out, rfl⟩⟩, Below.refl _ _⟩
  · have g1 : (s.size : Int) ≤ (a : Int) := by omega
    have g4 : s.size ≤ a := by omega
    have HQ : Hid (Json.quoted (s.data.toList.drop a) = none) := by show _ = _; rw [drop_end s a hlt, Json.quoted_nil]
    go_enter Tryd.func51, Tryd.ntmps51
    go_wp2
    go_ret2
    exact ⟨⟨_, rfl, Or.inl ⟨HQ.out, rfl⟩⟩, Below.refl _ _⟩
end Go.Proofs.YtkkgngmhdlmgnaaDoor.jw
