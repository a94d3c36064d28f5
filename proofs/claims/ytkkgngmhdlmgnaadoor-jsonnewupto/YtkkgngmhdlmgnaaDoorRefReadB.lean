import Derived.Test.YtkkgngmhdlmgnaaDoorRefReadA
import Derived.Test.YtkkgngmhdlmgnaaDoorRefSize
import Derived.Test.YtkkgngmhdlmgnaaDoorRefReadM
namespace Go.Proofs.YtkkgngmhdlmgnaaDoor.jw
open Go.ChangeShapes Go.WideShapes Go.ChangeAt Go.RowKit Go.Proofs.YtkkgngmhdlmgnaaDoor.common
attribute [local go_sem ↓] Go.wp_at_zero Go.wp_at_succ

/-- a text and a place, or nothing and -1 -/
def QPl (s : ByteArray) (o : Option (List UInt8 × List UInt8)) (x : Value) : Prop :=
  (o = none ∧ x = .tuple #[.string ⟨#[]⟩, .int .i64 (-1)]) ∨ ∃ (t r : List UInt8) (b : Nat), o = some (t, r) ∧ b ≤ s.size ∧ x = .tuple #[S t, .int .i64 (b : Int)] ∧ s.data.toList.drop b = r

theorem refQText_none (s : ByteArray) (w : World) :
    Calls Tryd.prog 51 #[.string s, .int .i64 (-1)] w fun x w' => x = .returned (.tuple #[.string ⟨#[]⟩, .int .i64 (-1)]) ∧ w' = w := by
  go_enter Tryd.func51, Tryd.ntmps51
  go_wp2
  go_ret2
  exact ⟨rfl, rfl⟩

theorem cell_one_new9 (w : World) (v : Value) (t : TypeId) : ∀ j u, [v][j]? = some u → (w.alloc (.cells #[v] t)).cell? ((⟨w.heap.size, 0, none⟩ : Addr).add j) = some u := by
  intro j u h
  match j, h with
  | 0, h => simp at h; subst h; simp [Addr.add]

theorem take_at (s : ByteArray) (k m : Nat) (h : k + m < s.size) : (s.data.toList.drop k).take (m + 1) = (s.data.toList.drop k).take m ++ [s[k + m]] := by
  rw [List.take_succ_eq_append_getElem (by rw [List.length_drop, len_list]; omega), List.getElem_drop]
  rfl
theorem size_no (s : ByteArray) (k : Nat) (h : k < s.size) (h92 : s[k] ≠ 92) (h34 : s[k] ≠ 34) (hz : sizeOf s k = 0) (R : List UInt8) : Json.chs R (s.data.toList.drop k) = none := by
  have ha := sizeOf_agrees s k h
  rw [drop_cons s k h] at ha ⊢
  rcases ha with ⟨_, hb⟩ | ⟨_, h2⟩
  · exact Json.chs_no h34 (Json.char_bad h92 hb)
  · have := Lib.decodeL_width (s[k] :: s.data.toList.drop (k + 1))
    omega
theorem size_yes (s : ByteArray) (k : Nat) (h : k < s.size) (h92 : s[k] ≠ 92) (h34 : s[k] ≠ 34) (h32 : 32 ≤ s[k].toNat) (hz : sizeOf s k ≠ 0) :
    k + sizeOf s k ≤ s.size ∧ 1 ≤ sizeOf s k ∧ ∀ R, Json.chs R (s.data.toList.drop k) = Json.chs (R ++ (s.data.toList.drop k).take (sizeOf s k)) (s.data.toList.drop (k + sizeOf s k)) := by
  have ha := sizeOf_agrees s k h
  have hlen : (s.data.toList.drop k).length = s.size - k := by rw [List.length_drop, len_list]
  rw [drop_cons s k h] at ha hlen ⊢
  rcases ha with ⟨h0, _⟩ | ⟨hb, h2⟩
  · exact absurd h0 hz
  · obtain ⟨c1, c2, c3, c4⟩ := Json.char_self h92 h32 hb
    rw [← h2] at c1 c2 c3 c4
    refine ⟨by omega, c4, fun R => ?_⟩
    rw [Json.chs_step h34 c1, c2, ← drop_cons s k h, List.drop_drop]

set_option maxRecDepth 100000 in
set_option maxHeartbeats 6400000 in
theorem refQText_any (s : ByteArray) (a : Nat) (w : World) (hs : s.size ≤ 140737488351232) (ha : a ≤ s.size) (I : Int) (hI : I = (a : Int)) :
    Calls Tryd.prog 51 #[.string s, .int .i64 I] w fun x w' => (∃ v, x = .returned v ∧ QPl s (Json.quoted (s.data.toList.drop a)) v) ∧ Below w.heap.size w w' := by
  subst hI
  obtain ⟨i0, hi, hz0, hz1, hz2⟩ := info_parts info8
  have g0 : ¬ (a : Int) < 0 := by omega
  by_cases hlt : a < s.size
  · have g1 : ¬ (s.size : Int) ≤ (a : Int) := by omega
    have g2 : (a : Int) < (s.size : Int) := by omega
    have g3 : (0 : Int) ≤ (a : Int) := by omega
    have g4 : ¬ s.size ≤ a := by omega
    by_cases h34 : s[a] = 34
    · have HQ : Hid (Json.quoted (s.data.toList.drop a) = Json.chs [] (s.data.toList.drop (a + 1))) := by
        show _ = _; rw [drop_cons s a hlt, h34, Json.quoted_chs]
      have p1 : (s[a].toNat : Int) = 34 := by rw [h34]; rfl
      obtain ⟨O, hO⟩ : ∃ O, Json.quoted (s.data.toList.drop a) = O := ⟨_, rfl⟩
      have HO : Hid (Json.chs [] (s.data.toList.drop (a + 1)) = O) := by show _ = _; rw [← HQ.out, hO]
      rw [hO]
      clear h34 hO HQ
      have HS := hide hs
      go_enter Tryd.func51, Tryd.ntmps51
      go_wp2_with fail
      clear p1 g0 g1 g2 g3 g4
      go_loopw [1, 4, 5, 6] (fun iv r4 r5 v wr => ∃ (k : Nat) (R : List UInt8), k ≤ s.size ∧ R.length ≤ k ∧ iv = .int .i64 k ∧ r4 = .string ⟨#[]⟩ ∧ r5 = .int .i64 0 ∧ Hid (Json.chs R (s.data.toList.drop k) = O) ∧ Hid (wr.ownsRow w.heap.size 5 1 v R.length (R.map B)) ∧ Hid (Below w.heap.size w wr)) (fun iv _ _ _ _ => s.size - (intOf iv).toNat)
      case atStart => exact ⟨a + 1, [], by omega, by simp, by go_num, by first | rfl | trivial, by first | rfl | trivial, HO, World.ownsRow_nil _ _ _ _, Below.refl _ _⟩
      case round =>
        obtain ⟨k, R, hk, hRk, rfl, rfl, rfl, HX, hown, hb⟩ := hrel
        have hS := HS.out
        by_cases hkl : k < s.size
        · have k1 : (k : Int) < (s.size : Int) := by omega
          have k0 : (0 : Int) ≤ (k : Int) := by omega
          have HDC := hide (drop_cons s k hkl)
          by_cases c34 : s[k] = 34
          · have p1 : (s[k].toNat : Int) = 34 := by rw [c34]; rfl
            have HR : Hid (O = some (R, s.data.toList.drop (k + 1))) := by show _ = _; rw [← HX.out, HDC.out, c34, Json.chs_end]
            have hc := conv_own hown.out rfl
            clear c34
            go_wp2
            go_ret2
            exact ⟨⟨_, rfl, Or.inr ⟨R, _, k + 1, HR.out, by omega, by go_num, rfl⟩⟩, hb.out⟩
          · have p1 : ((s[k].toNat : Int) == 34) = false := beq_false_of_ne (fun e => c34 (UInt8.toNat_inj.1 (by show _ = 34; omega)))
            by_cases c32 : s[k].toNat < 32
            · have p2 : (s[k].toNat : Int) < 32 := by omega
              have HR : Hid (O = none) := by show _ = _; rw [← HX.out, HDC.out, Json.chs_no c34 (Json.char_low c32)]
              clear c34 c32
              go_wp2
              go_ret2
              exact ⟨⟨_, rfl, Or.inl ⟨HR.out, rfl⟩⟩, hb.out⟩
            · have p2 : ¬ (s[k].toNat : Int) < 32 := by omega
              by_cases c92 : s[k] = 92
              · have p3 : (s[k].toNat : Int) = 92 := by rw [c92]; rfl
                have HC92 := hide c92
                have HCH : Hid (Json.char (s[k] :: s.data.toList.drop (k + 1)) = Json.escaped (s.data.toList.drop (k + 1))) := by show _ = _; rw [c92, Json.char_esc]
                have HC34 := hide c34
                clear c34 c32 c92
                go_wp2_with fail
                refine (refEscape_any s k _ (by omega) hkl HC92.out _ rfl).mono ?_
                rintro x w1 ⟨⟨v1, rfl, hv1⟩, hw1⟩
                obtain rfl := hw1
                rcases hv1 with ⟨hn, rfl⟩ | ⟨n, r, b, hn, hbs, rfl, hdr⟩
                · have HR : Hid (O = none) := by show _ = _; rw [← HX.out, HDC.out, Json.chs_no HC34.out (by rw [HCH.out, hn])]
                  clear hn
                  go_wp2
                  go_ret2
                  exact ⟨⟨_, rfl, Or.inl ⟨HR.out, rfl⟩⟩, hb.out⟩
                · have HN := hide hn
                  have hch : Json.char (s[k] :: s.data.toList.drop (k + 1)) = some (n, r) := by rw [HCH.out, hn]
                  have HR : Hid (Json.chs (R ++ Lib.encodeRune (n : Int)) (s.data.toList.drop b) = O) := by
                    show _ = _; rw [← HX.out, HDC.out, Json.chs_step HC34.out hch, hdr]
                  have hok := Json.char_ok hch
                  have hel := Json.escaped_len hn
                  rw [← hdr, List.length_drop, List.length_drop, len_list] at hel
                  have hll := Json.escaped_lt hn
                  rw [← hdr, List.length_drop, List.length_drop, len_list] at hll
                  clear hn hch hdr
                  have b0 : ¬ (b : Int) < 0 := by omega
                  have hokn : (0 : Int) ≤ (n : Int) ∧ (n : Int) ≤ 1114111 ∧ ((n : Int) < 55296 ∨ (57343 : Int) < (n : Int)) := by
                    unfold Json.okRune at hok; omega
                  have HOK := hide hokn
                  clear hok hokn
                  have hb2 := hb.out.size
                  go_wp2_with fail
                  refine (refSpelt_any w.heap.size _ R (n : Int) _ HOK.out.1 HOK.out.2.1 HOK.out.2.2 hown.out (by omega) hb2).mono ?_
                  rintro x w2 ⟨v2, rfl, hown2, hbl2⟩
                  have R1 := hide hown2
                  have R2 := hide (hb.out.trans hbl2)
                  clear hown2 hbl2
                  go_wp2
                  go_roundw
                  case rel => exact ⟨b, _, hbs, by rw [List.length_append]; omega, by go_num, by first | rfl | trivial, by first | rfl | trivial, HR, R1, R2⟩
                  case measure => simp [intOf]; omega
              · have p3 : ((s[k].toNat : Int) == 92) = false := beq_false_of_ne (fun e => c92 (UInt8.toNat_inj.1 (by show _ = 92; omega)))
                have HNo := hide (fun h => size_no s k hkl c92 c34 h R)
                have HYes := hide (size_yes s k hkl c92 c34 (by omega))
                clear c34 c32 c92
                go_wp2_with fail
                refine (refSize_any s k _ (by omega) hkl).mono ?_
                rintro x w1 ⟨rfl, hw1⟩
                obtain rfl := hw1
                generalize sizeOf s k = z at *
                by_cases hz : z = 0
                · have HR : Hid (O = none) := by show _ = _; rw [← HX.out, HNo.out hz]
                  subst hz
                  go_wp2
                  go_ret2
                  exact ⟨⟨_, rfl, Or.inl ⟨HR.out, rfl⟩⟩, hb.out⟩
                · obtain ⟨z1, z2, z3⟩ := HYes.out hz
                  have HR : Hid (Json.chs (R ++ (s.data.toList.drop k).take z) (s.data.toList.drop (k + z)) = O) := by show _ = _; rw [← z3, HX.out]
                  have hzb : ((z : Int) == 0) = false := beq_false_of_ne (by omega)
                  clear z3 HYes HNo hz
                  go_wp2_with fail
                  have HXw : Hid (∃ q, q = Json.chs R (s.data.toList.drop k)) := ⟨_, rfl⟩
                  clear HX HDC p1 p2 p3 hzb
                  go_loopw [6, 11] (fun v kv wr => ∃ m : Nat, m ≤ z ∧ kv = .int .i64 m ∧ Hid (wr.ownsRow w.heap.size 5 1 v (R ++ (s.data.toList.drop k).take m).length ((R ++ (s.data.toList.drop k).take m).map B)) ∧ Hid (Below w.heap.size w wr)) (fun _ kv _ => z - (intOf kv).toNat)
                  case atStart => exact ⟨0, by omega, rfl, by show World.ownsRow _ _ _ _ _ _ _; rw [List.take_zero, List.append_nil]; exact hown.out, hb⟩
                  case round =>
                    obtain ⟨m, hm, rfl, hown3, hb3⟩ := hrel
                    by_cases hmz : m < z
                    · have m1 : (m : Int) < (z : Int) := by omega
                      have m2 : (k : Int) + (m : Int) < (s.size : Int) := by omega
                      have m3 : ((k : Int) + (m : Int)).toNat = k + m := by omega
                      have m4 : (0 : Int) ≤ (k : Int) + (m : Int) := by omega
                      have m5 : k + m < s.size := by omega
                      have HT := hide (take_at s k m m5)
                      have HL : Hid ((R ++ (s.data.toList.drop k).take m).length ≤ k + m) := by
                        show _ ≤ _
                        rw [List.length_append, List.length_take]; omega
                      have hsz := hb3.out.size
                      have HT2 : Hid (R ++ (s.data.toList.drop k).take (m + 1) = (R ++ (s.data.toList.drop k).take m) ++ [s[k + m]]) := by show _ = _; rw [HT.out, List.append_assoc]
                      generalize R ++ (s.data.toList.drop k).take m = P at *
                      clear HT
                      go_wp2_with (at_builtin; refine wpList_append_own _ rfl _ _ 60 rfl w.heap.size 5 i0 (.int .u8 0) 1 1 Tryd.underlying60 hi hz0 hz1 hz2 rfl (by decide) _ _ _ rfl (hown3.out.alloc _) ⟨_, 0, none⟩ 1 1 [_] rfl rfl (cell_one_new9 _ _ _) ?c2 ?c3 ?c4 ?c5 ?_)
                      case c2 => first | rfl | (intro u hu; simp at hu; subst hu; rfl)
                      case c3 => have := HL.out; unfold maxLen; omega
                      case c4 => have := HL.out; omega
                      case c5 => first | omega | (simp; omega)
                      intro v' w2 hown' hgrow _
                      have R1 : Hid (w2.ownsRow w.heap.size 5 1 v' (R ++ (s.data.toList.drop k).take (m + 1)).length ((R ++ (s.data.toList.drop k).take (m + 1)).map B)) := by
                        show World.ownsRow _ _ _ _ _ _ _
                        rw [HT2.out, List.map_append, List.length_append]; exact hown'
                      have R2 := hide ((hb3.out.alloc hsz _).grown hgrow (by simp; omega) (own_ge hown3.out))
                      clear hown' hgrow
                      go_wp2
                      go_roundw
                      case rel => exact ⟨m + 1, by omega, by go_num, R1, R2⟩
                      case measure => simp [intOf]; omega
                    · obtain rfl : m = z := by omega
                      have m1 : ¬ (m : Int) < (m : Int) := by omega
                      have HL : Hid ((R ++ (s.data.toList.drop k).take m).length ≤ k + m) := by
                        show _ ≤ _
                        rw [List.length_append, List.length_take]; omega
                      go_wp2
                      go_roundw
                      case rel => exact ⟨k + m, _, by omega, HL.out, by go_num, by first | rfl | trivial, by first | rfl | trivial, HR, hown3, hb3⟩
                      case measure => simp [intOf]; omega
        · have k1 : ¬ (k : Int) < (s.size : Int) := by omega
          have HR : Hid (O = none) := by show _ = _; rw [← HX.out, drop_end s k hkl, Json.chs_nil]
          go_wp2
          go_ret2
          exact ⟨⟨_, rfl, Or.inl ⟨HR.out, rfl⟩⟩, hb.out⟩
    · have HQ : Hid (Json.quoted (s.data.toList.drop a) = none) := by
        show _ = _; rw [drop_cons s a hlt, Json.quoted_no h34]
      have p1 : ((s[a].toNat : Int) == 34) = false := beq_false_of_ne (fun e => h34 (UInt8.toNat_inj.1 (by show _ = 34; omega)))
      clear h34
      go_enter Tryd.func51, Tryd.ntmps51
      go_wp2
      go_ret2
      exact ⟨⟨_, rfl, Or.inl ⟨HQ.out, rfl⟩⟩, Below.refl _ _⟩
  · have g1 : (s.size : Int) ≤ (a : Int) := by omega
    have g4 : s.size ≤ a := by omega
    have HQ : Hid (Json.quoted (s.data.toList.drop a) = none) := by show _ = _; rw [drop_end s a hlt, Json.quoted_nil]
    go_enter Tryd.func51, Tryd.ntmps51
    go_wp2
    go_ret2
    exact ⟨⟨_, rfl, Or.inl ⟨HQ.out, rfl⟩⟩, Below.refl _ _⟩
end Go.Proofs.YtkkgngmhdlmgnaaDoor.jw

namespace Go.Proofs.YtkkgngmhdlmgnaaDoor.jw
open Go.ChangeShapes Go.WideShapes Go.ChangeAt Go.RowKit Go.Proofs.YtkkgngmhdlmgnaaDoor.common
attribute [local go_sem ↓] Go.wp_at_zero Go.wp_at_succ

theorem dig_bounds {c : UInt8} (h : Json.isDig c = true) : 48 ≤ c.toNat ∧ c.toNat ≤ 57 := by simpa [Json.isDig] using h
theorem down_no {n : Int} {c : UInt8} {r : List UInt8} (h : n < -922337203685477580 ∨ (n = -922337203685477580 ∧ 8 < (c.toNat : Int) - 48)) : Json.down n (c :: r) = none := by
  simp only [Json.down, if_pos h]
theorem down_step {n : Int} {c : UInt8} {r : List UInt8} (h : ¬ (n < -922337203685477580 ∨ (n = -922337203685477580 ∧ 8 < (c.toNat : Int) - 48))) : Json.down n (c :: r) = Json.down (10 * n - ((c.toNat : Int) - 48)) r := by
  simp only [Json.down, if_neg h]
/-- a number and whether it fits -/
def belowV (o : Option Int) : Value := match o with
  | none => .tuple #[.int .i64 0, .bool false]
  | some v => .tuple #[.int .i64 v, .bool true]
theorem below_minus {ds : List UInt8} {n : Int} (h : Json.down 0 ds = some n) : Json.below ds true = some n := by unfold Json.below; rw [h]; rfl
theorem below_none {ds : List UInt8} {b : Bool} (h : Json.down 0 ds = none) : Json.below ds b = none := by unfold Json.below; rw [h]
theorem below_plus {ds : List UInt8} {n : Int} (h : Json.down 0 ds = some n) (hn : n ≠ -9223372036854775808) : Json.below ds false = some (-n) := by
  unfold Json.below; rw [h]; simp only [Bool.false_eq_true, if_false]; rw [if_neg hn]
theorem below_last {ds : List UInt8} {n : Int} (h : Json.down 0 ds = some n) (hn : n = -9223372036854775808) : Json.below ds false = none := by
  unfold Json.below; rw [h]; simp only [Bool.false_eq_true, if_false]; rw [if_pos hn]

set_option maxRecDepth 100000 in
set_option maxHeartbeats 3200000 in
theorem refBelow_any (s : ByteArray) (minus : Bool) (w : World) (hs : s.size < 9223372036854775000) (hd : ∀ c ∈ s.data.toList, Json.isDig c = true) :
    Calls Tryd.prog 88 #[.string s, .bool minus] w fun x w' => x = .returned (belowV (Json.below s.data.toList minus)) ∧ w' = w := by
  have HD := hide hd
  obtain ⟨D, hD⟩ : ∃ D, Json.down 0 s.data.toList = D := ⟨_, rfl⟩
  have H0 := hide hD
  clear hd hD
  go_enter Tryd.func88, Tryd.ntmps88
  go_wp2_with fail
  go_loopw [4, 5, 6, 7] (fun r4 r5 nv iv wr => ∃ (k : Nat) (n : Int), k ≤ s.size ∧ iv = .int .i64 k ∧ nv = .int .i64 n ∧ r4 = .int .i64 0 ∧ r5 = .bool false ∧ -9223372036854775808 ≤ n ∧ n ≤ 0 ∧ wr = w ∧ Hid (Json.down n (s.data.toList.drop k) = D)) (fun _ _ _ iv _ => s.size - (intOf iv).toNat)
  case atStart => exact ⟨0, 0, by omega, rfl, rfl, by first | rfl | trivial, by first | rfl | trivial, by omega, by omega, rfl, H0⟩
  case round =>
    obtain ⟨k, n, hk, rfl, rfl, rfl, rfl, hn1, hn2, hwr, HX⟩ := hrel
    obtain rfl : w = wr := hwr.symm
    by_cases hlt : k < s.size
    · have k1 : (k : Int) < (s.size : Int) := by omega
      have k0 : (0 : Int) ≤ (k : Int) := by omega
      have HDC := hide (drop_cons s k hlt)
      have hdig := dig_bounds (HD.out s[k] (by
        have : s[k] = s.data.toList[k]'(by simpa using hlt) := rfl
        rw [this]; exact List.getElem_mem _))
      have d1 : (48 : Int) ≤ (s[k].toNat : Int) := by omega
      have d2 : (s[k].toNat : Int) ≤ 57 := by omega
      clear hdig
      by_cases c1 : n < -922337203685477580
      · have HN : Hid (D = none) := by show _ = _; rw [← HX.out, HDC.out, down_no (Or.inl c1)]
        go_wp2
        go_ret2
        exact ⟨by rw [below_none (H0.out.trans HN.out)]; rfl, rfl⟩
      · by_cases c2 : n = -922337203685477580
        · have HC2 := hide c2
          have c2b : (n == -922337203685477580) = true := by simpa using c2
          by_cases c3 : 8 < (s[k].toNat : Int) - 48
          · have HN : Hid (D = none) := by show _ = _; rw [← HX.out, HDC.out, down_no (Or.inr ⟨c2, c3⟩)]
            clear c2
            go_wp2
            go_ret2
            exact ⟨by rw [below_none (H0.out.trans HN.out)]; rfl, rfl⟩
          · have HN : Hid (Json.down (10 * n - ((s[k].toNat : Int) - 48)) (s.data.toList.drop (k + 1)) = D) := by
              show _ = _; rw [← HX.out, HDC.out, down_step (by rintro (h | ⟨_, h⟩); exact c1 h; exact c3 h)]
            clear c2
            have q1 : -9223372036854775808 ≤ 10 * n - ((s[k].toNat : Int) - 48) := by have := HC2.out; omega
            have q2 : 10 * n - ((s[k].toNat : Int) - 48) ≤ 0 := by omega
            have q3 : -9223372036854775808 ≤ 10 * n := by have := HC2.out; omega
            go_wp2
            go_roundw
            case rel => exact ⟨k + 1, _, by omega, by go_num, rfl, by first | rfl | trivial, by first | rfl | trivial, q1, q2, by first | rfl | trivial, HN⟩
            case measure => simp [intOf]; omega
        · have c2b : (n == -922337203685477580) = false := beq_false_of_ne c2
          have HN : Hid (Json.down (10 * n - ((s[k].toNat : Int) - 48)) (s.data.toList.drop (k + 1)) = D) := by
            show _ = _; rw [← HX.out, HDC.out, down_step (by rintro (h | ⟨h, _⟩); exact c1 h; exact c2 h)]
          have q1 : -9223372036854775808 ≤ 10 * n - ((s[k].toNat : Int) - 48) := by omega
          have q2 : 10 * n - ((s[k].toNat : Int) - 48) ≤ 0 := by omega
          have q3 : -9223372036854775808 ≤ 10 * n := by omega
          clear c2
          go_wp2
          go_roundw
          case rel => exact ⟨k + 1, _, by omega, by go_num, rfl, by first | rfl | trivial, by first | rfl | trivial, q1, q2, by first | rfl | trivial, HN⟩
          case measure => simp [intOf]; omega
    · have k1 : ¬ (k : Int) < (s.size : Int) := by omega
      have HN : Hid (Json.down 0 s.data.toList = some n) := by show _ = _; rw [H0.out, ← HX.out, drop_end s k hlt]; rfl
      cases minus with
      | true =>
        go_wp2
        go_ret2
        exact ⟨by rw [below_minus HN.out]; rfl, rfl⟩
      | false =>
        by_cases c1 : n = -9223372036854775808
        · have HB := hide (below_last HN.out c1)
          have c1b : (n == -9223372036854775808) = true := by simpa using c1
          clear c1
          go_wp2
          go_ret2
          exact ⟨by rw [HB.out]; rfl, rfl⟩
        · have HB := hide (below_plus HN.out c1)
          have c1b : (n == -9223372036854775808) = false := beq_false_of_ne c1
          have q4 : -9223372036854775807 ≤ n := by omega
          clear c1
          go_wp2
          go_ret2
          exact ⟨by rw [HB.out]; rfl, rfl⟩
end Go.Proofs.YtkkgngmhdlmgnaaDoor.jw

namespace Go.Proofs.YtkkgngmhdlmgnaaDoor.jw
open Go.ChangeShapes Go.WideShapes Go.ChangeAt Go.RowKit Go.Proofs.YtkkgngmhdlmgnaaDoor.common
attribute [local go_sem ↓] Go.wp_at_zero Go.wp_at_succ

theorem split_dig : ∀ (p q : List UInt8), (∀ c ∈ p, Json.isDig c = true) → (q = [] ∨ ∃ c t, q = c :: t ∧ Json.isDig c = false) → (p ++ q).takeWhile Json.isDig = p ∧ (p ++ q).dropWhile Json.isDig = q
  | [], q, _, h => by
    rcases h with rfl | ⟨c, t, rfl, hc⟩
    · exact ⟨rfl, rfl⟩
    · exact ⟨List.takeWhile_cons_of_neg (by rw [hc]; simp), List.dropWhile_cons_of_neg (by rw [hc]; simp)⟩
  | a :: p, q, hp, h => by
    have ha := hp a (by simp)
    obtain ⟨h1, h2⟩ := split_dig p q (fun c hc => hp c (by simp [hc])) h
    exact ⟨by rw [List.cons_append, List.takeWhile_cons_of_pos ha, h1], by rw [List.cons_append, List.dropWhile_cons_of_pos ha, h2]⟩
theorem digs_at (s : ByteArray) (b k : Nat) (hbk : b ≤ k) (hall : ∀ c ∈ (s.extract b k).data.toList, Json.isDig c = true) (hend : ∀ h : k < s.size, Json.isDig s[k] = false) :
    (s.data.toList.drop b).takeWhile Json.isDig = (s.extract b k).data.toList ∧ (s.data.toList.drop b).dropWhile Json.isDig = s.data.toList.drop k := by
  have hs : s.data.toList.drop b = (s.extract b k).data.toList ++ s.data.toList.drop k := by
    rw [ext_list]
    conv => lhs; rw [← List.take_append_drop (k - b) (s.data.toList.drop b)]
    rw [List.drop_drop, show b + (k - b) = k by omega]
  rw [hs]
  refine split_dig _ _ hall ?_
  by_cases h : k < s.size
  · exact Or.inr ⟨_, _, drop_cons s k h, hend h⟩
  · exact Or.inl (drop_end s k h)
theorem ext_snoc (s : ByteArray) (b k : Nat) (hbk : b ≤ k) (hk : k < s.size) : (s.extract b (k + 1)).data.toList = (s.extract b k).data.toList ++ [s[k]] := by
  have h : k = b + (k - b) := by omega
  rw [ext_list, ext_list, show k + 1 - b = (k - b) + 1 by omega, take_at s b (k - b) (by omega)]
  congr 2
  simp only [← h]
theorem ext_len (s : ByteArray) (b k : Nat) (hk : k ≤ s.size) : (s.extract b k).size = k - b := by rw [ByteArray.size_extract]; omega
theorem digs_none {l : List UInt8} {b : Bool} (h : l.takeWhile Json.isDig = [] ∨ (l.head? = some 48 ∧ 1 < (l.takeWhile Json.isDig).length)) : Json.digs l b = none := by unfold Json.digs; exact if_pos h
theorem digs_some {l : List UInt8} {b : Bool} (h : ¬ (l.takeWhile Json.isDig = [] ∨ (l.head? = some 48 ∧ 1 < (l.takeWhile Json.isDig).length))) : Json.digs l b = match Json.below (l.takeWhile Json.isDig) b with | none => none | some v => some (v, l.dropWhile Json.isDig) := by
  unfold Json.digs; exact if_neg h

/-- a whole number and a place, or 0 and -1 -/
def IPl (s : ByteArray) (o : Option (Int × List UInt8)) (x : Value) : Prop :=
  (o = none ∧ x = .tuple #[.int .i64 0, .int .i64 (-1)]) ∨ ∃ (n : Int) (r : List UInt8) (b : Nat), o = some (n, r) ∧ b ≤ s.size ∧ x = .tuple #[.int .i64 n, .int .i64 (b : Int)] ∧ s.data.toList.drop b = r

set_option maxRecDepth 100000 in
set_option maxHeartbeats 6400000 in
theorem refNumber_any (s : ByteArray) (a : Nat) (w : World) (hs : s.size < 9223372036854775000) (hlt : a < s.size) (I : Int) (hI : I = (a : Int)) :
    Calls Tryd.prog 68 #[.string s, .int .i64 I] w fun x w' => (∃ v, x = .returned v ∧ IPl s (Json.numberR (s.data.toList.drop a)) v) ∧ w' = w := by
  subst hI
  obtain ⟨O, hO⟩ : ∃ O, Json.numberR (s.data.toList.drop a) = O := ⟨_, rfl⟩
  have HO := hide hO
  rw [hO]
  clear hO
  have a0 : (0 : Int) ≤ (a : Int) := by omega
  by_cases h45 : s[a] = 45
  · skip
    have g1 : (a : Int) < (s.size : Int) := by omega
    have p1 : (s[a].toNat : Int) = 45 := by rw [h45]; rfl
    have HB0 : Hid (O = Json.digs (s.data.toList.drop (a + 1)) true) := by
      show _ = _
      rw [← HO.out, drop_cons s a hlt, h45]
      rfl
    clear h45
    go_enter Tryd.func68, Tryd.ntmps68
    have HB : Hid (O = Json.digs (s.data.toList.drop (a + 1)) true) := HB0
    go_wp2_with fail
    go_loopw [6] (fun tv wr => ∃ k : Nat, a + 1 ≤ k ∧ k ≤ s.size ∧ tv = .int .i64 k ∧ wr = w ∧ Hid (∀ c ∈ (s.extract (a + 1) k).data.toList, Json.isDig c = true)) (fun tv _ => s.size - (intOf tv).toNat)
    case atStart => exact ⟨a + 1, Nat.le_refl _, by omega, by first | rfl | go_num, rfl, by
      intro c hc
      rw [ext_list, Nat.sub_self, List.take_zero] at hc
      simp at hc⟩
    case round =>
      obtain ⟨k, hbk, hk, rfl, hwr, HA⟩ := hrel
      obtain rfl : w = wr := hwr.symm
      have k0 : (0 : Int) ≤ (k : Int) := by omega
      by_cases hstep : ∃ h : k < s.size, Json.isDig s[k] = true
      · obtain ⟨hkl, hdg⟩ := hstep
        have k1 : (k : Int) < (s.size : Int) := by omega
        have hdb := dig_bounds hdg
        have d1 : (48 : Int) ≤ (s[k].toNat : Int) := by omega
        have d2 : (s[k].toNat : Int) ≤ 57 := by omega
        have HA2 : Hid (∀ c ∈ (s.extract (a + 1) (k + 1)).data.toList, Json.isDig c = true) := by
          intro c hc
          rw [ext_snoc s (a + 1) k hbk hkl] at hc
          rcases List.mem_append.1 hc with h | h
          · exact HA.out c h
          · simp at h; subst h; exact hdg
        clear hdg hdb
        go_wp2
        go_roundw
        case rel => exact ⟨k + 1, by omega, by omega, by go_num, by first | rfl | trivial, HA2⟩
        case measure => simp [intOf]; omega
      · have hend : ∀ h : k < s.size, Json.isDig s[k] = false := fun h => by
          apply Bool.eq_false_iff.2; intro e; exact hstep ⟨h, e⟩
        obtain ⟨t1, t2⟩ := digs_at s (a + 1) k hbk HA.out hend
        have HT1 := hide t1
        have HT2 := hide t2
        have HXs := hide (ext_len s (a + 1) k hk)
        have hex : (¬ k < s.size) ∨ (∃ h : k < s.size, s[k].toNat < 48) ∨ (∃ h : k < s.size, 57 < s[k].toNat) := by
          by_cases h : k < s.size
          · have hd := hend h
            by_cases h2 : s[k].toNat < 48
            · exact Or.inr (Or.inl ⟨h, h2⟩)
            · refine Or.inr (Or.inr ⟨h, ?_⟩)
              by_cases h3 : 57 < s[k].toNat
              · exact h3
              · exfalso
                have : Json.isDig s[k] = true := by simp [Json.isDig]; omega
                rw [this] at hd; cases hd
          · exact Or.inl h
        clear t1 t2 hstep hend
        obtain ⟨T, hT⟩ : ∃ T : ByteArray, s.extract (a + 1) k = T := ⟨_, rfl⟩
        have HTT := hide hT
        rw [hT] at HT1 HXs HA
        clear hT
        rcases hex with hex | ⟨hkl, hex⟩ | ⟨hkl, hex⟩
        · have k1 : ¬ (k : Int) < (s.size : Int) := by omega
          have k1d : decide ((k : Int) < (s.size : Int)) = false := decide_eq_false k1
          have k1e : decide (k < s.size) = false := decide_eq_false hex
          by_cases e1 : k = a + 1
          · have HN : Hid (O = none) := by
              show _ = _
              rw [HB.out]
              refine digs_none (Or.inl ?_)
              rw [HT1.out]
              apply List.eq_nil_of_length_eq_zero
              rw [len_list, HXs.out]; omega
            have e1b : ((k : Int) == ((a : Int) + 1)) = true := by rw [beq_iff_eq]; omega
            clear e1
            go_wp2
            go_ret2
            exact ⟨⟨_, rfl, Or.inl ⟨HN.out, rfl⟩⟩, rfl⟩
          · have e1b : ((k : Int) == ((a : Int) + 1)) = false := beq_false_of_ne (by omega)
            have b1 : a + 1 < s.size := by omega
            have b2 : ((a : Int) + 1) < (s.size : Int) := by omega
            have b3 : (0 : Int) ≤ ((a : Int) + 1) := by omega
            have b4 : (((a : Int) + 1)).toNat = a + 1 := by omega
            have b5 : (k : Int) ≤ (s.size : Int) := by omega
            have b6 : ((a : Int) + 1) ≤ (k : Int) := by omega
            have b7 : (a : Int) < (a : Int) + 1 := by omega
            have HHd : Hid ((s.data.toList.drop (a + 1)).head? = some s[a + 1]) := by show _ = _; rw [drop_cons s (a + 1) b1]; rfl
            have HTn : Hid ((s.data.toList.drop (a + 1)).takeWhile Json.isDig ≠ []) := by
              rw [HT1.out]; intro h
              have := congrArg List.length h
              rw [len_list, HXs.out, List.length_nil] at this
              omega
            have HTl : Hid (((s.data.toList.drop (a + 1)).takeWhile Json.isDig).length = k - (a + 1)) := by show _ = _; rw [HT1.out, len_list, HXs.out]
            clear e1
            by_cases z1 : s[a + 1] = 48 ∧ a + 1 + 1 < k
            · have HN : Hid (O = none) := by
                show _ = _
                rw [HB.out]
                refine digs_none (Or.inr ⟨by rw [HHd.out, z1.1], by rw [HTl.out]; omega⟩)
              have z1b : (s[a + 1].toNat : Int) = 48 := by rw [z1.1]; rfl
              have z2 : ((a : Int) + 1) + 1 < (k : Int) := by omega
              clear z1
              go_wp2
              go_ret2
              exact ⟨⟨_, rfl, Or.inl ⟨HN.out, rfl⟩⟩, rfl⟩
            · have HS := hide (digs_some (b := true) (l := s.data.toList.drop (a + 1)) (by
                rintro (h | ⟨h, h2⟩)
                · exact HTn.out h
                · rw [HHd.out] at h
                  rw [HTl.out] at h2
                  exact z1 ⟨by injection h, by omega⟩))
              have HBV : Hid (O = match Json.below T.data.toList true with | none => none | some v => some (v, s.data.toList.drop k)) := by
                show _ = _; rw [HB.out, HS.out, HT1.out, HT2.out]
              have HC := hide (refBelow_any T true w (by have := HXs.out; omega) HA.out)
              rw [← HTT.out] at HC
              by_cases z2 : s[a + 1] = 48
              · have z2b : (s[a + 1].toNat : Int) = 48 := by rw [z2]; rfl
                have z3 : ¬ ((a : Int) + 1) + 1 < (k : Int) := by intro h; exact z1 ⟨z2, by omega⟩
                clear z1 z2
                go_wp2_with fail
                refine HC.out.mono ?_
                rintro x w1 ⟨rfl, hw1⟩
                obtain rfl := hw1
                rw [HTT.out]
                cases hv : Json.below T.data.toList true with
                | none =>
                  have HN : Hid (O = none) := by show _ = _; rw [HBV.out, hv]
                  clear hv
                  rw [show belowV none = .tuple #[.int .i64 0, .bool false] from rfl]
                  go_wp2
                  go_ret2
                  exact ⟨⟨_, rfl, Or.inl ⟨HN.out, rfl⟩⟩, rfl⟩
                | some v =>
                  have HN : Hid (O = some (v, s.data.toList.drop k)) := by show _ = _; rw [HBV.out, hv]
                  clear hv
                  rw [show belowV (some v) = .tuple #[.int .i64 v, .bool true] from rfl]
                  go_wp2
                  go_ret2
                  exact ⟨⟨_, rfl, Or.inr ⟨v, _, k, HN.out, hk, rfl, rfl⟩⟩, rfl⟩
              · have z2b : ((s[a + 1].toNat : Int) == 48) = false := beq_false_of_ne (fun e => z2 (UInt8.toNat_inj.1 (by show _ = 48; omega)))
                clear z1 z2
                go_wp2_with fail
                refine HC.out.mono ?_
                rintro x w1 ⟨rfl, hw1⟩
                obtain rfl := hw1
                rw [HTT.out]
                cases hv : Json.below T.data.toList true with
                | none =>
                  have HN : Hid (O = none) := by show _ = _; rw [HBV.out, hv]
                  clear hv
                  rw [show belowV none = .tuple #[.int .i64 0, .bool false] from rfl]
                  go_wp2
                  go_ret2
                  exact ⟨⟨_, rfl, Or.inl ⟨HN.out, rfl⟩⟩, rfl⟩
                | some v =>
                  have HN : Hid (O = some (v, s.data.toList.drop k)) := by show _ = _; rw [HBV.out, hv]
                  clear hv
                  rw [show belowV (some v) = .tuple #[.int .i64 v, .bool true] from rfl]
                  go_wp2
                  go_ret2
                  exact ⟨⟨_, rfl, Or.inr ⟨v, _, k, HN.out, hk, rfl, rfl⟩⟩, rfl⟩
        · have k1 : (k : Int) < (s.size : Int) := by omega
          have f1 : ¬ (48 : Int) ≤ (s[k].toNat : Int) := by omega
          have f1d : decide ((48 : Int) ≤ (s[k].toNat : Int)) = false := decide_eq_false f1
          clear hex
          by_cases e1 : k = a + 1
          · have HN : Hid (O = none) := by
              show _ = _
              rw [HB.out]
              refine digs_none (Or.inl ?_)
              rw [HT1.out]
              apply List.eq_nil_of_length_eq_zero
              rw [len_list, HXs.out]; omega
            have e1b : ((k : Int) == ((a : Int) + 1)) = true := by rw [beq_iff_eq]; omega
            clear e1
            go_wp2
            go_ret2
            exact ⟨⟨_, rfl, Or.inl ⟨HN.out, rfl⟩⟩, rfl⟩
          · have e1b : ((k : Int) == ((a : Int) + 1)) = false := beq_false_of_ne (by omega)
            have b1 : a + 1 < s.size := by omega
            have b2 : ((a : Int) + 1) < (s.size : Int) := by omega
            have b3 : (0 : Int) ≤ ((a : Int) + 1) := by omega
            have b4 : (((a : Int) + 1)).toNat = a + 1 := by omega
            have b5 : (k : Int) ≤ (s.size : Int) := by omega
            have b6 : ((a : Int) + 1) ≤ (k : Int) := by omega
            have b7 : (a : Int) < (a : Int) + 1 := by omega
            have HHd : Hid ((s.data.toList.drop (a + 1)).head? = some s[a + 1]) := by show _ = _; rw [drop_cons s (a + 1) b1]; rfl
            have HTn : Hid ((s.data.toList.drop (a + 1)).takeWhile Json.isDig ≠ []) := by
              rw [HT1.out]; intro h
              have := congrArg List.length h
              rw [len_list, HXs.out, List.length_nil] at this
              omega
            have HTl : Hid (((s.data.toList.drop (a + 1)).takeWhile Json.isDig).length = k - (a + 1)) := by show _ = _; rw [HT1.out, len_list, HXs.out]
            clear e1
            by_cases z1 : s[a + 1] = 48 ∧ a + 1 + 1 < k
            · have HN : Hid (O = none) := by
                show _ = _
                rw [HB.out]
                refine digs_none (Or.inr ⟨by rw [HHd.out, z1.1], by rw [HTl.out]; omega⟩)
              have z1b : (s[a + 1].toNat : Int) = 48 := by rw [z1.1]; rfl
              have z2 : ((a : Int) + 1) + 1 < (k : Int) := by omega
              clear z1
              go_wp2
              go_ret2
              exact ⟨⟨_, rfl, Or.inl ⟨HN.out, rfl⟩⟩, rfl⟩
            · have HS := hide (digs_some (b := true) (l := s.data.toList.drop (a + 1)) (by
                rintro (h | ⟨h, h2⟩)
                · exact HTn.out h
                · rw [HHd.out] at h
                  rw [HTl.out] at h2
                  exact z1 ⟨by injection h, by omega⟩))
              have HBV : Hid (O = match Json.below T.data.toList true with | none => none | some v => some (v, s.data.toList.drop k)) := by
                show _ = _; rw [HB.out, HS.out, HT1.out, HT2.out]
              have HC := hide (refBelow_any T true w (by have := HXs.out; omega) HA.out)
              rw [← HTT.out] at HC
              by_cases z2 : s[a + 1] = 48
              · have z2b : (s[a + 1].toNat : Int) = 48 := by rw [z2]; rfl
                have z3 : ¬ ((a : Int) + 1) + 1 < (k : Int) := by intro h; exact z1 ⟨z2, by omega⟩
                clear z1 z2
                go_wp2_with fail
                refine HC.out.mono ?_
                rintro x w1 ⟨rfl, hw1⟩
                obtain rfl := hw1
                rw [HTT.out]
                cases hv : Json.below T.data.toList true with
                | none =>
                  have HN : Hid (O = none) := by show _ = _; rw [HBV.out, hv]
                  clear hv
                  rw [show belowV none = .tuple #[.int .i64 0, .bool false] from rfl]
                  go_wp2
                  go_ret2
                  exact ⟨⟨_, rfl, Or.inl ⟨HN.out, rfl⟩⟩, rfl⟩
                | some v =>
                  have HN : Hid (O = some (v, s.data.toList.drop k)) := by show _ = _; rw [HBV.out, hv]
                  clear hv
                  rw [show belowV (some v) = .tuple #[.int .i64 v, .bool true] from rfl]
                  go_wp2
                  go_ret2
                  exact ⟨⟨_, rfl, Or.inr ⟨v, _, k, HN.out, hk, rfl, rfl⟩⟩, rfl⟩
              · have z2b : ((s[a + 1].toNat : Int) == 48) = false := beq_false_of_ne (fun e => z2 (UInt8.toNat_inj.1 (by show _ = 48; omega)))
                clear z1 z2
                go_wp2_with fail
                refine HC.out.mono ?_
                rintro x w1 ⟨rfl, hw1⟩
                obtain rfl := hw1
                rw [HTT.out]
                cases hv : Json.below T.data.toList true with
                | none =>
                  have HN : Hid (O = none) := by show _ = _; rw [HBV.out, hv]
                  clear hv
                  rw [show belowV none = .tuple #[.int .i64 0, .bool false] from rfl]
                  go_wp2
                  go_ret2
                  exact ⟨⟨_, rfl, Or.inl ⟨HN.out, rfl⟩⟩, rfl⟩
                | some v =>
                  have HN : Hid (O = some (v, s.data.toList.drop k)) := by show _ = _; rw [HBV.out, hv]
                  clear hv
                  rw [show belowV (some v) = .tuple #[.int .i64 v, .bool true] from rfl]
                  go_wp2
                  go_ret2
                  exact ⟨⟨_, rfl, Or.inr ⟨v, _, k, HN.out, hk, rfl, rfl⟩⟩, rfl⟩
        · have k1 : (k : Int) < (s.size : Int) := by omega
          have f1 : (48 : Int) ≤ (s[k].toNat : Int) := by omega
          have f2 : ¬ (s[k].toNat : Int) ≤ 57 := by omega
          clear hex
          by_cases e1 : k = a + 1
          · have HN : Hid (O = none) := by
              show _ = _
              rw [HB.out]
              refine digs_none (Or.inl ?_)
              rw [HT1.out]
              apply List.eq_nil_of_length_eq_zero
              rw [len_list, HXs.out]; omega
            have e1b : ((k : Int) == ((a : Int) + 1)) = true := by rw [beq_iff_eq]; omega
            clear e1
            go_wp2
            go_ret2
            exact ⟨⟨_, rfl, Or.inl ⟨HN.out, rfl⟩⟩, rfl⟩
          · have e1b : ((k : Int) == ((a : Int) + 1)) = false := beq_false_of_ne (by omega)
            have b1 : a + 1 < s.size := by omega
            have b2 : ((a : Int) + 1) < (s.size : Int) := by omega
            have b3 : (0 : Int) ≤ ((a : Int) + 1) := by omega
            have b4 : (((a : Int) + 1)).toNat = a + 1 := by omega
            have b5 : (k : Int) ≤ (s.size : Int) := by omega
            have b6 : ((a : Int) + 1) ≤ (k : Int) := by omega
            have b7 : (a : Int) < (a : Int) + 1 := by omega
            have HHd : Hid ((s.data.toList.drop (a + 1)).head? = some s[a + 1]) := by show _ = _; rw [drop_cons s (a + 1) b1]; rfl
            have HTn : Hid ((s.data.toList.drop (a + 1)).takeWhile Json.isDig ≠ []) := by
              rw [HT1.out]; intro h
              have := congrArg List.length h
              rw [len_list, HXs.out, List.length_nil] at this
              omega
            have HTl : Hid (((s.data.toList.drop (a + 1)).takeWhile Json.isDig).length = k - (a + 1)) := by show _ = _; rw [HT1.out, len_list, HXs.out]
            clear e1
            by_cases z1 : s[a + 1] = 48 ∧ a + 1 + 1 < k
            · have HN : Hid (O = none) := by
                show _ = _
                rw [HB.out]
                refine digs_none (Or.inr ⟨by rw [HHd.out, z1.1], by rw [HTl.out]; omega⟩)
              have z1b : (s[a + 1].toNat : Int) = 48 := by rw [z1.1]; rfl
              have z2 : ((a : Int) + 1) + 1 < (k : Int) := by omega
              clear z1
              go_wp2
              go_ret2
              exact ⟨⟨_, rfl, Or.inl ⟨HN.out, rfl⟩⟩, rfl⟩
            · have HS := hide (digs_some (b := true) (l := s.data.toList.drop (a + 1)) (by
                rintro (h | ⟨h, h2⟩)
                · exact HTn.out h
                · rw [HHd.out] at h
                  rw [HTl.out] at h2
                  exact z1 ⟨by injection h, by omega⟩))
              have HBV : Hid (O = match Json.below T.data.toList true with | none => none | some v => some (v, s.data.toList.drop k)) := by
                show _ = _; rw [HB.out, HS.out, HT1.out, HT2.out]
              have HC := hide (refBelow_any T true w (by have := HXs.out; omega) HA.out)
              rw [← HTT.out] at HC
              by_cases z2 : s[a + 1] = 48
              · have z2b : (s[a + 1].toNat : Int) = 48 := by rw [z2]; rfl
                have z3 : ¬ ((a : Int) + 1) + 1 < (k : Int) := by intro h; exact z1 ⟨z2, by omega⟩
                clear z1 z2
                go_wp2_with fail
                refine HC.out.mono ?_
                rintro x w1 ⟨rfl, hw1⟩
                obtain rfl := hw1
                rw [HTT.out]
                cases hv : Json.below T.data.toList true with
                | none =>
                  have HN : Hid (O = none) := by show _ = _; rw [HBV.out, hv]
                  clear hv
                  rw [show belowV none = .tuple #[.int .i64 0, .bool false] from rfl]
                  go_wp2
                  go_ret2
                  exact ⟨⟨_, rfl, Or.inl ⟨HN.out, rfl⟩⟩, rfl⟩
                | some v =>
                  have HN : Hid (O = some (v, s.data.toList.drop k)) := by show _ = _; rw [HBV.out, hv]
                  clear hv
                  rw [show belowV (some v) = .tuple #[.int .i64 v, .bool true] from rfl]
                  go_wp2
                  go_ret2
                  exact ⟨⟨_, rfl, Or.inr ⟨v, _, k, HN.out, hk, rfl, rfl⟩⟩, rfl⟩
              · have z2b : ((s[a + 1].toNat : Int) == 48) = false := beq_false_of_ne (fun e => z2 (UInt8.toNat_inj.1 (by show _ = 48; omega)))
                clear z1 z2
                go_wp2_with fail
                refine HC.out.mono ?_
                rintro x w1 ⟨rfl, hw1⟩
                obtain rfl := hw1
                rw [HTT.out]
                cases hv : Json.below T.data.toList true with
                | none =>
                  have HN : Hid (O = none) := by show _ = _; rw [HBV.out, hv]
                  clear hv
                  rw [show belowV none = .tuple #[.int .i64 0, .bool false] from rfl]
                  go_wp2
                  go_ret2
                  exact ⟨⟨_, rfl, Or.inl ⟨HN.out, rfl⟩⟩, rfl⟩
                | some v =>
                  have HN : Hid (O = some (v, s.data.toList.drop k)) := by show _ = _; rw [HBV.out, hv]
                  clear hv
                  rw [show belowV (some v) = .tuple #[.int .i64 v, .bool true] from rfl]
                  go_wp2
                  go_ret2
                  exact ⟨⟨_, rfl, Or.inr ⟨v, _, k, HN.out, hk, rfl, rfl⟩⟩, rfl⟩
  · have HB0 : Hid (O = Json.digs (s.data.toList.drop a) false) := by
      show _ = _
      rw [← HO.out]
      unfold Json.numberR
      refine if_neg ?_
      intro h
      rw [drop_cons s a hlt] at h
      injection h with h
      exact h45 h
    · have g1 : (a : Int) < (s.size : Int) := by omega
      have p1 : ((s[a].toNat : Int) == 45) = false := beq_false_of_ne (fun e => h45 (UInt8.toNat_inj.1 (by show _ = 45; omega)))
      clear h45
      go_enter Tryd.func68, Tryd.ntmps68
      have HB : Hid (O = Json.digs (s.data.toList.drop (a)) false) := HB0
      go_wp2_with fail
      go_loopw [6] (fun tv wr => ∃ k : Nat, a ≤ k ∧ k ≤ s.size ∧ tv = .int .i64 k ∧ wr = w ∧ Hid (∀ c ∈ (s.extract (a) k).data.toList, Json.isDig c = true)) (fun tv _ => s.size - (intOf tv).toNat)
      case atStart => exact ⟨a, Nat.le_refl _, by omega, by first | rfl | go_num, rfl, by
        intro c hc
        rw [ext_list, Nat.sub_self, List.take_zero] at hc
        simp at hc⟩
      case round =>
        obtain ⟨k, hbk, hk, rfl, hwr, HA⟩ := hrel
        obtain rfl : w = wr := hwr.symm
        have k0 : (0 : Int) ≤ (k : Int) := by omega
        by_cases hstep : ∃ h : k < s.size, Json.isDig s[k] = true
        · obtain ⟨hkl, hdg⟩ := hstep
          have k1 : (k : Int) < (s.size : Int) := by omega
          have hdb := dig_bounds hdg
          have d1 : (48 : Int) ≤ (s[k].toNat : Int) := by omega
          have d2 : (s[k].toNat : Int) ≤ 57 := by omega
          have HA2 : Hid (∀ c ∈ (s.extract (a) (k + 1)).data.toList, Json.isDig c = true) := by
            intro c hc
            rw [ext_snoc s (a) k hbk hkl] at hc
            rcases List.mem_append.1 hc with h | h
            · exact HA.out c h
            · simp at h; subst h; exact hdg
          clear hdg hdb
          go_wp2
          go_roundw
          case rel => exact ⟨k + 1, by omega, by omega, by go_num, by first | rfl | trivial, HA2⟩
          case measure => simp [intOf]; omega
        · have hend : ∀ h : k < s.size, Json.isDig s[k] = false := fun h => by
            apply Bool.eq_false_iff.2; intro e; exact hstep ⟨h, e⟩
          obtain ⟨t1, t2⟩ := digs_at s (a) k hbk HA.out hend
          have HT1 := hide t1
          have HT2 := hide t2
          have HXs := hide (ext_len s (a) k hk)
          have hex : (¬ k < s.size) ∨ (∃ h : k < s.size, s[k].toNat < 48) ∨ (∃ h : k < s.size, 57 < s[k].toNat) := by
            by_cases h : k < s.size
            · have hd := hend h
              by_cases h2 : s[k].toNat < 48
              · exact Or.inr (Or.inl ⟨h, h2⟩)
              · refine Or.inr (Or.inr ⟨h, ?_⟩)
                by_cases h3 : 57 < s[k].toNat
                · exact h3
                · exfalso
                  have : Json.isDig s[k] = true := by simp [Json.isDig]; omega
                  rw [this] at hd; cases hd
            · exact Or.inl h
          clear t1 t2 hstep hend
          obtain ⟨T, hT⟩ : ∃ T : ByteArray, s.extract (a) k = T := ⟨_, rfl⟩
          have HTT := hide hT
          rw [hT] at HT1 HXs HA
          clear hT
          rcases hex with hex | ⟨hkl, hex⟩ | ⟨hkl, hex⟩
          · have k1 : ¬ (k : Int) < (s.size : Int) := by omega
            have k1d : decide ((k : Int) < (s.size : Int)) = false := decide_eq_false k1
            have k1e : decide (k < s.size) = false := decide_eq_false hex
            by_cases e1 : k = a
            · have HN : Hid (O = none) := by
                show _ = _
                rw [HB.out]
                refine digs_none (Or.inl ?_)
                rw [HT1.out]
                apply List.eq_nil_of_length_eq_zero
                rw [len_list, HXs.out]; omega
              have e1b : ((k : Int) == (a : Int)) = true := by rw [beq_iff_eq]; omega
              clear e1
              go_wp2
              go_ret2
              exact ⟨⟨_, rfl, Or.inl ⟨HN.out, rfl⟩⟩, rfl⟩
            · have e1b : ((k : Int) == (a : Int)) = false := beq_false_of_ne (by omega)
              have b1 : a < s.size := by omega
              have b2 : (a : Int) < (s.size : Int) := by omega
              have b3 : (0 : Int) ≤ (a : Int) := by omega
              have b4 : ((a : Int)).toNat = a := by omega
              have b5 : (k : Int) ≤ (s.size : Int) := by omega
              have b6 : (a : Int) ≤ (k : Int) := by omega
              have b7 : ¬ (a : Int) < (a : Int) := by omega
              have HHd : Hid ((s.data.toList.drop (a)).head? = some s[a]) := by show _ = _; rw [drop_cons s (a) b1]; rfl
              have HTn : Hid ((s.data.toList.drop (a)).takeWhile Json.isDig ≠ []) := by
                rw [HT1.out]; intro h
                have := congrArg List.length h
                rw [len_list, HXs.out, List.length_nil] at this
                omega
              have HTl : Hid (((s.data.toList.drop (a)).takeWhile Json.isDig).length = k - (a)) := by show _ = _; rw [HT1.out, len_list, HXs.out]
              clear e1
              by_cases z1 : s[a] = 48 ∧ a + 1 < k
              · have HN : Hid (O = none) := by
                  show _ = _
                  rw [HB.out]
                  refine digs_none (Or.inr ⟨by rw [HHd.out, z1.1], by rw [HTl.out]; omega⟩)
                have z1b : (s[a].toNat : Int) = 48 := by rw [z1.1]; rfl
                have z2 : (a : Int) + 1 < (k : Int) := by omega
                clear z1
                go_wp2
                go_ret2
                exact ⟨⟨_, rfl, Or.inl ⟨HN.out, rfl⟩⟩, rfl⟩
              · have HS := hide (digs_some (b := false) (l := s.data.toList.drop (a)) (by
                  rintro (h | ⟨h, h2⟩)
                  · exact HTn.out h
                  · rw [HHd.out] at h
                    rw [HTl.out] at h2
                    exact z1 ⟨by injection h, by omega⟩))
                have HBV : Hid (O = match Json.below T.data.toList false with | none => none | some v => some (v, s.data.toList.drop k)) := by
                  show _ = _; rw [HB.out, HS.out, HT1.out, HT2.out]
                have HC := hide (refBelow_any T false w (by have := HXs.out; omega) HA.out)
                rw [← HTT.out] at HC
                by_cases z2 : s[a] = 48
                · have z2b : (s[a].toNat : Int) = 48 := by rw [z2]; rfl
                  have z3 : ¬ (a : Int) + 1 < (k : Int) := by intro h; exact z1 ⟨z2, by omega⟩
                  clear z1 z2
                  go_wp2_with fail
                  refine HC.out.mono ?_
                  rintro x w1 ⟨rfl, hw1⟩
                  obtain rfl := hw1
                  rw [HTT.out]
                  cases hv : Json.below T.data.toList false with
                  | none =>
                    have HN : Hid (O = none) := by show _ = _; rw [HBV.out, hv]
                    clear hv
                    rw [show belowV none = .tuple #[.int .i64 0, .bool false] from rfl]
                    go_wp2
                    go_ret2
                    exact ⟨⟨_, rfl, Or.inl ⟨HN.out, rfl⟩⟩, rfl⟩
                  | some v =>
                    have HN : Hid (O = some (v, s.data.toList.drop k)) := by show _ = _; rw [HBV.out, hv]
                    clear hv
                    rw [show belowV (some v) = .tuple #[.int .i64 v, .bool true] from rfl]
                    go_wp2
                    go_ret2
                    exact ⟨⟨_, rfl, Or.inr ⟨v, _, k, HN.out, hk, rfl, rfl⟩⟩, rfl⟩
                · have z2b : ((s[a].toNat : Int) == 48) = false := beq_false_of_ne (fun e => z2 (UInt8.toNat_inj.1 (by show _ = 48; omega)))
                  clear z1 z2
                  go_wp2_with fail
                  refine HC.out.mono ?_
                  rintro x w1 ⟨rfl, hw1⟩
                  obtain rfl := hw1
                  rw [HTT.out]
                  cases hv : Json.below T.data.toList false with
                  | none =>
                    have HN : Hid (O = none) := by show _ = _; rw [HBV.out, hv]
                    clear hv
                    rw [show belowV none = .tuple #[.int .i64 0, .bool false] from rfl]
                    go_wp2
                    go_ret2
                    exact ⟨⟨_, rfl, Or.inl ⟨HN.out, rfl⟩⟩, rfl⟩
                  | some v =>
                    have HN : Hid (O = some (v, s.data.toList.drop k)) := by show _ = _; rw [HBV.out, hv]
                    clear hv
                    rw [show belowV (some v) = .tuple #[.int .i64 v, .bool true] from rfl]
                    go_wp2
                    go_ret2
                    exact ⟨⟨_, rfl, Or.inr ⟨v, _, k, HN.out, hk, rfl, rfl⟩⟩, rfl⟩
          · have k1 : (k : Int) < (s.size : Int) := by omega
            have f1 : ¬ (48 : Int) ≤ (s[k].toNat : Int) := by omega
            have f1d : decide ((48 : Int) ≤ (s[k].toNat : Int)) = false := decide_eq_false f1
            clear hex
            by_cases e1 : k = a
            · have HN : Hid (O = none) := by
                show _ = _
                rw [HB.out]
                refine digs_none (Or.inl ?_)
                rw [HT1.out]
                apply List.eq_nil_of_length_eq_zero
                rw [len_list, HXs.out]; omega
              have e1b : ((k : Int) == (a : Int)) = true := by rw [beq_iff_eq]; omega
              clear e1
              go_wp2
              go_ret2
              exact ⟨⟨_, rfl, Or.inl ⟨HN.out, rfl⟩⟩, rfl⟩
            · have e1b : ((k : Int) == (a : Int)) = false := beq_false_of_ne (by omega)
              have b1 : a < s.size := by omega
              have b2 : (a : Int) < (s.size : Int) := by omega
              have b3 : (0 : Int) ≤ (a : Int) := by omega
              have b4 : ((a : Int)).toNat = a := by omega
              have b5 : (k : Int) ≤ (s.size : Int) := by omega
              have b6 : (a : Int) ≤ (k : Int) := by omega
              have b7 : ¬ (a : Int) < (a : Int) := by omega
              have HHd : Hid ((s.data.toList.drop (a)).head? = some s[a]) := by show _ = _; rw [drop_cons s (a) b1]; rfl
              have HTn : Hid ((s.data.toList.drop (a)).takeWhile Json.isDig ≠ []) := by
                rw [HT1.out]; intro h
                have := congrArg List.length h
                rw [len_list, HXs.out, List.length_nil] at this
                omega
              have HTl : Hid (((s.data.toList.drop (a)).takeWhile Json.isDig).length = k - (a)) := by show _ = _; rw [HT1.out, len_list, HXs.out]
              clear e1
              by_cases z1 : s[a] = 48 ∧ a + 1 < k
              · have HN : Hid (O = none) := by
                  show _ = _
                  rw [HB.out]
                  refine digs_none (Or.inr ⟨by rw [HHd.out, z1.1], by rw [HTl.out]; omega⟩)
                have z1b : (s[a].toNat : Int) = 48 := by rw [z1.1]; rfl
                have z2 : (a : Int) + 1 < (k : Int) := by omega
                clear z1
                go_wp2
                go_ret2
                exact ⟨⟨_, rfl, Or.inl ⟨HN.out, rfl⟩⟩, rfl⟩
              · have HS := hide (digs_some (b := false) (l := s.data.toList.drop (a)) (by
                  rintro (h | ⟨h, h2⟩)
                  · exact HTn.out h
                  · rw [HHd.out] at h
                    rw [HTl.out] at h2
                    exact z1 ⟨by injection h, by omega⟩))
                have HBV : Hid (O = match Json.below T.data.toList false with | none => none | some v => some (v, s.data.toList.drop k)) := by
                  show _ = _; rw [HB.out, HS.out, HT1.out, HT2.out]
                have HC := hide (refBelow_any T false w (by have := HXs.out; omega) HA.out)
                rw [← HTT.out] at HC
                by_cases z2 : s[a] = 48
                · have z2b : (s[a].toNat : Int) = 48 := by rw [z2]; rfl
                  have z3 : ¬ (a : Int) + 1 < (k : Int) := by intro h; exact z1 ⟨z2, by omega⟩
                  clear z1 z2
                  go_wp2_with fail
                  refine HC.out.mono ?_
                  rintro x w1 ⟨rfl, hw1⟩
                  obtain rfl := hw1
                  rw [HTT.out]
                  cases hv : Json.below T.data.toList false with
                  | none =>
                    have HN : Hid (O = none) := by show _ = _; rw [HBV.out, hv]
                    clear hv
                    rw [show belowV none = .tuple #[.int .i64 0, .bool false] from rfl]
                    go_wp2
                    go_ret2
                    exact ⟨⟨_, rfl, Or.inl ⟨HN.out, rfl⟩⟩, rfl⟩
                  | some v =>
                    have HN : Hid (O = some (v, s.data.toList.drop k)) := by show _ = _; rw [HBV.out, hv]
                    clear hv
                    rw [show belowV (some v) = .tuple #[.int .i64 v, .bool true] from rfl]
                    go_wp2
                    go_ret2
                    exact ⟨⟨_, rfl, Or.inr ⟨v, _, k, HN.out, hk, rfl, rfl⟩⟩, rfl⟩
                · have z2b : ((s[a].toNat : Int) == 48) = false := beq_false_of_ne (fun e => z2 (UInt8.toNat_inj.1 (by show _ = 48; omega)))
                  clear z1 z2
                  go_wp2_with fail
                  refine HC.out.mono ?_
                  rintro x w1 ⟨rfl, hw1⟩
                  obtain rfl := hw1
                  rw [HTT.out]
                  cases hv : Json.below T.data.toList false with
                  | none =>
                    have HN : Hid (O = none) := by show _ = _; rw [HBV.out, hv]
                    clear hv
                    rw [show belowV none = .tuple #[.int .i64 0, .bool false] from rfl]
                    go_wp2
                    go_ret2
                    exact ⟨⟨_, rfl, Or.inl ⟨HN.out, rfl⟩⟩, rfl⟩
                  | some v =>
                    have HN : Hid (O = some (v, s.data.toList.drop k)) := by show _ = _; rw [HBV.out, hv]
                    clear hv
                    rw [show belowV (some v) = .tuple #[.int .i64 v, .bool true] from rfl]
                    go_wp2
                    go_ret2
                    exact ⟨⟨_, rfl, Or.inr ⟨v, _, k, HN.out, hk, rfl, rfl⟩⟩, rfl⟩
          · have k1 : (k : Int) < (s.size : Int) := by omega
            have f1 : (48 : Int) ≤ (s[k].toNat : Int) := by omega
            have f2 : ¬ (s[k].toNat : Int) ≤ 57 := by omega
            clear hex
            by_cases e1 : k = a
            · have HN : Hid (O = none) := by
                show _ = _
                rw [HB.out]
                refine digs_none (Or.inl ?_)
                rw [HT1.out]
                apply List.eq_nil_of_length_eq_zero
                rw [len_list, HXs.out]; omega
              have e1b : ((k : Int) == (a : Int)) = true := by rw [beq_iff_eq]; omega
              clear e1
              go_wp2
              go_ret2
              exact ⟨⟨_, rfl, Or.inl ⟨HN.out, rfl⟩⟩, rfl⟩
            · have e1b : ((k : Int) == (a : Int)) = false := beq_false_of_ne (by omega)
              have b1 : a < s.size := by omega
              have b2 : (a : Int) < (s.size : Int) := by omega
              have b3 : (0 : Int) ≤ (a : Int) := by omega
              have b4 : ((a : Int)).toNat = a := by omega
              have b5 : (k : Int) ≤ (s.size : Int) := by omega
              have b6 : (a : Int) ≤ (k : Int) := by omega
              have b7 : ¬ (a : Int) < (a : Int) := by omega
              have HHd : Hid ((s.data.toList.drop (a)).head? = some s[a]) := by show _ = _; rw [drop_cons s (a) b1]; rfl
              have HTn : Hid ((s.data.toList.drop (a)).takeWhile Json.isDig ≠ []) := by
                rw [HT1.out]; intro h
                have := congrArg List.length h
                rw [len_list, HXs.out, List.length_nil] at this
                omega
              have HTl : Hid (((s.data.toList.drop (a)).takeWhile Json.isDig).length = k - (a)) := by show _ = _; rw [HT1.out, len_list, HXs.out]
              clear e1
              by_cases z1 : s[a] = 48 ∧ a + 1 < k
              · have HN : Hid (O = none) := by
                  show _ = _
                  rw [HB.out]
                  refine digs_none (Or.inr ⟨by rw [HHd.out, z1.1], by rw [HTl.out]; omega⟩)
                have z1b : (s[a].toNat : Int) = 48 := by rw [z1.1]; rfl
                have z2 : (a : Int) + 1 < (k : Int) := by omega
                clear z1
                go_wp2
                go_ret2
                exact ⟨⟨_, rfl, Or.inl ⟨HN.out, rfl⟩⟩, rfl⟩
              · have HS := hide (digs_some (b := false) (l := s.data.toList.drop (a)) (by
                  rintro (h | ⟨h, h2⟩)
                  · exact HTn.out h
                  · rw [HHd.out] at h
                    rw [HTl.out] at h2
                    exact z1 ⟨by injection h, by omega⟩))
                have HBV : Hid (O = match Json.below T.data.toList false with | none => none | some v => some (v, s.data.toList.drop k)) := by
                  show _ = _; rw [HB.out, HS.out, HT1.out, HT2.out]
                have HC := hide (refBelow_any T false w (by have := HXs.out; omega) HA.out)
                rw [← HTT.out] at HC
                by_cases z2 : s[a] = 48
                · have z2b : (s[a].toNat : Int) = 48 := by rw [z2]; rfl
                  have z3 : ¬ (a : Int) + 1 < (k : Int) := by intro h; exact z1 ⟨z2, by omega⟩
                  clear z1 z2
                  go_wp2_with fail
                  refine HC.out.mono ?_
                  rintro x w1 ⟨rfl, hw1⟩
                  obtain rfl := hw1
                  rw [HTT.out]
                  cases hv : Json.below T.data.toList false with
                  | none =>
                    have HN : Hid (O = none) := by show _ = _; rw [HBV.out, hv]
                    clear hv
                    rw [show belowV none = .tuple #[.int .i64 0, .bool false] from rfl]
                    go_wp2
                    go_ret2
                    exact ⟨⟨_, rfl, Or.inl ⟨HN.out, rfl⟩⟩, rfl⟩
                  | some v =>
                    have HN : Hid (O = some (v, s.data.toList.drop k)) := by show _ = _; rw [HBV.out, hv]
                    clear hv
                    rw [show belowV (some v) = .tuple #[.int .i64 v, .bool true] from rfl]
                    go_wp2
                    go_ret2
                    exact ⟨⟨_, rfl, Or.inr ⟨v, _, k, HN.out, hk, rfl, rfl⟩⟩, rfl⟩
                · have z2b : ((s[a].toNat : Int) == 48) = false := beq_false_of_ne (fun e => z2 (UInt8.toNat_inj.1 (by show _ = 48; omega)))
                  clear z1 z2
                  go_wp2_with fail
                  refine HC.out.mono ?_
                  rintro x w1 ⟨rfl, hw1⟩
                  obtain rfl := hw1
                  rw [HTT.out]
                  cases hv : Json.below T.data.toList false with
                  | none =>
                    have HN : Hid (O = none) := by show _ = _; rw [HBV.out, hv]
                    clear hv
                    rw [show belowV none = .tuple #[.int .i64 0, .bool false] from rfl]
                    go_wp2
                    go_ret2
                    exact ⟨⟨_, rfl, Or.inl ⟨HN.out, rfl⟩⟩, rfl⟩
                  | some v =>
                    have HN : Hid (O = some (v, s.data.toList.drop k)) := by show _ = _; rw [HBV.out, hv]
                    clear hv
                    rw [show belowV (some v) = .tuple #[.int .i64 v, .bool true] from rfl]
                    go_wp2
                    go_ret2
                    exact ⟨⟨_, rfl, Or.inr ⟨v, _, k, HN.out, hk, rfl, rfl⟩⟩, rfl⟩
end Go.Proofs.YtkkgngmhdlmgnaaDoor.jw
