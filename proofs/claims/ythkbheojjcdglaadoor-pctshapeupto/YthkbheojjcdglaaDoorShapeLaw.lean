import Derived.Test.YthkbheojjcdglaaDoorEscapeW
import Derived.Test.YthkbheojjcdglaaDoorPctTab
import Derived.Test.YthkbheojjcdglaaDoorTextKit
import Derived.Test.YthkbheojjcdglaaDoorLawBytes
namespace Go.Proofs.YthkbheojjcdglaaDoor.pctw
open Go.ChangeShapes Go.WideShapes Go.ChangeAt Go.RowKit Go.Proofs.YthkbheojjcdglaaDoor.common
attribute [local go_sem ↓] Go.wp_at_zero Go.wp_at_succ

theorem split_at (Y s : ByteArray) (plus : Bool) (k : Nat) (hk : k < s.size) (hY : Y.data.toList = Pct.esc plus s.data.toList) :
    ∃ C, Y.data.toList = Pct.esc plus (s.data.toList.take k) ++ (Pct.esc1 plus s[k] ++ C) := by
  refine ⟨Pct.esc plus (s.data.toList.drop (k + 1)), ?_⟩
  have e : s.data.toList = s.data.toList.take k ++ (s[k] :: s.data.toList.drop (k + 1)) := by
    conv => lhs; rw [← List.take_append_drop (k + 1) s.data.toList, take_snoc s k hk]
    simp
  rw [hY]
  conv => lhs; rw [e]
  rw [Pct.esc_app]
  rfl

theorem wrap_small (x : Int) (h0 : 0 ≤ x) (h1 : x ≤ 4194304) : IntKind.i64.wrap x = x := by
  have hm : x % 18446744073709551616 = x := by omega
  unfold IntKind.wrap
  simp only [IntKind.bits, IntKind.signed, Int.reducePow, Nat.reduceSub, hm]
  rw [if_neg (by simp; omega)]

theorem at_split (Y : ByteArray) (A M C : List UInt8) (a : Nat) (ha : A.length = a) (h : Y.data.toList = A ++ (M ++ C)) (j : Nat) (hj : j < M.length) : ∃ hlt : a + j < Y.size, Y[a + j] = M.getD j 0 := by
  have hsz : Y.size = (A ++ (M ++ C)).length := by rw [← h, len_list]
  have hlt : a + j < Y.size := by rw [hsz]; simp; omega
  refine ⟨hlt, ?_⟩
  rw [← getD_list Y (a + j) hlt, h]
  subst ha
  rw [List.getD_eq_getElem?_getD, List.getElem?_append_right (by omega), Nat.add_sub_cancel_left, List.getElem?_append_left hj, ← List.getD_eq_getElem?_getD]

set_option maxRecDepth 100000 in
set_option maxHeartbeats 12800000 in
theorem lawShape (s : ByteArray) (plus : Bool) (w : World) (hs : s.size ≤ 1048576) (ht : Tab w) :
    Calls Tryd.prog 6 #[.agg #[.string s, .bool plus]] w fun e w' => e = .returned (.bool true) ∧ Below w.heap.size w w' := by
  have HT := hide ht
  have H0 := hide (two_new w (.string s) (.bool plus) 23)
  clear ht
  go_enter Tryd.func6, Tryd.ntmps6
  go_wp2_with fail
  generalize w.alloc (.cells #[.string s, .bool plus] 23) = W at *
  refine (escape_any s plus W (HT.out.below H0.out.bl (Nat.le_refl _)) (by omega)).mono ?_
  rintro x w1 ⟨rfl, hb1⟩
  have H1 := hide (H0.out.next hb1)
  have c0 := H1.out.c0
  have c1 := H1.out.c1
  clear hb1
  obtain ⟨Y, hY0⟩ : ∃ Y : ByteArray, (⟨(Pct.esc plus s.data.toList).toArray⟩ : ByteArray) = Y := ⟨_, rfl⟩
  rw [show S (Pct.esc plus s.data.toList) = .string Y from congrArg Value.string hY0]
  have hYs : Y.size ≤ 3 * s.size := by
    rw [← hY0, str_size]; have := (Pct.esc_len plus s.data.toList).2; rw [len_list] at this; exact this
  have HY : Hid (Y.data.toList = Pct.esc plus s.data.toList) := by show _ = _; rw [← hY0]
  clear hY0
  have HL0 : Hid ((Pct.esc plus s.data.toList).length = Y.size) := by show _ = _; rw [← HY.out, len_list]
  go_wp2_with fail
  go_loopw [4, 5] (fun p i wr => ∃ k : Nat, k ≤ s.size ∧ i = .int .i64 k ∧ p = .int .i64 ((Pct.esc plus (s.data.toList.take k)).length : Int) ∧ Two w wr w.heap.size (.string s) (.bool plus)) (fun _ i _ => s.size - (intOf i).toNat)
  case atStart => exact ⟨0, Nat.zero_le _, rfl, rfl, H1.out⟩
  case round =>
    clear c0 c1
    obtain ⟨k, hk, rfl, rfl, h2⟩ := hrel
    have H2 := hide h2
    have c0 := h2.c0
    have c1 := h2.c1
    clear h2
    by_cases hlt : k < s.size
    · have hki : (k : Int) < (s.size : Int) := by omega
      obtain ⟨C, hC⟩ := split_at Y s plus k hlt HY.out
      have HSN : Hid (Pct.esc plus (s.data.toList.take (k + 1)) = Pct.esc plus (s.data.toList.take k) ++ Pct.esc1 plus s[k]) := by
        show _ = _
        rw [take_snoc s k hlt, Pct.esc_snoc]
      have HAT := hide (at_split Y _ (Pct.esc1 plus s[k]) C _ rfl hC)
      have hAl : (Pct.esc plus (s.data.toList.take k)).length ≤ 3 * s.size := by
        have := congrArg List.length hC
        rw [List.length_append, len_list] at this; omega
      clear hC
      have HLN : Hid ((Pct.esc plus (s.data.toList.take (k + 1))).length = (Pct.esc plus (s.data.toList.take k)).length + (Pct.esc1 plus s[k]).length) := by show _ = _; rw [HSN.out, List.length_append]
      generalize (Pct.esc plus (s.data.toList.take k)).length = a at *
      have hcl := s[k].toNat_lt
      go_wp2_with fail
      refine (free_any s[k] wr).mono ?_
      rintro x w' ⟨rfl, rfl⟩
      obtain ⟨wr, rfl⟩ : ∃ wr : World, wr = w' := ⟨_, rfl⟩
      by_cases hu : Pct.unres s[k] = true
      · have HE1 : Hid (Pct.esc1 plus s[k] = [s[k]]) := by show _ = _; unfold Pct.esc1; rw [if_pos hu]
        rw [HE1.out] at HAT HLN
        obtain ⟨hal, hye⟩ := HAT.out 0 (by simp)
        have hai : (a : Int) < (Y.size : Int) := by omega
        have hya : Y[a]'hal = s[k] := hye
        have hn32 : ¬ ((s[k].toNat : Nat) : Int) = 32 := by
          intro h
          have : s[k] = 32 := UInt8.toNat_inj.1 (by show s[k].toNat = 32; omega)
          rw [this] at hu; revert hu; decide
        rw [hu]
        clear HAT hye
        go_wp2_with fail
        go_roundw
        case rel => exact ⟨k + 1, by omega, by go_num, by rw [HLN.out]; go_num, H2.out⟩
        case measure => simp [intOf]; omega
      · have hu : Pct.unres s[k] = false := by simpa using hu
        rw [hu]
        by_cases hpl : plus = true ∧ s[k].toNat = 32
        · obtain ⟨rfl, hpl⟩ := hpl
          have hpi : ((s[k].toNat : Nat) : Int) = 32 := by omega
          have h32 : s[k] = 32 := UInt8.toNat_inj.1 hpl
          have HE1 : Hid (Pct.esc1 true s[k] = [43]) := by show _ = _; unfold Pct.esc1; rw [hu, if_neg (by decide), if_pos ⟨rfl, h32⟩]
          rw [HE1.out] at HAT HLN
          obtain ⟨hal, hye⟩ := HAT.out 0 (by simp)
          have hai : (a : Int) < (Y.size : Int) := by omega
          have hya : Y[a]'hal = 43 := hye
          clear HAT hye h32
          go_wp2_with fail
          go_roundw
          case rel => exact ⟨k + 1, by omega, by go_num, by rw [HLN.out]; go_num, H2.out⟩
          case measure => simp [intOf]; omega
        · have HE1 : Hid (Pct.esc1 plus s[k] = [37, Pct.dig (s[k].toNat / 16), Pct.dig (s[k].toNat % 16)]) := by show _ = _; unfold Pct.esc1; rw [hu, if_neg (by decide), if_neg (fun h => hpl ⟨h.1, by rw [h.2]; rfl⟩)]
          rw [HE1.out] at HAT HLN
          obtain ⟨hal, hye⟩ := HAT.out 0 (by simp)
          obtain ⟨hal1, hye1⟩ := HAT.out 1 (by simp)
          obtain ⟨hal2, hye2⟩ := HAT.out 2 (by simp)
          have hai : (a : Int) < (Y.size : Int) := by omega
          have hya : Y[a]'hal = 37 := hye
          have HS1 : hexU (Y[a + 1]'hal1) = s[k].toNat / 16 := by rw [hye1]; exact hexU_dig _ (by omega)
          have HS2 : hexU (Y[a + 2]'hal2) = s[k].toNat % 16 := by rw [hye2]; exact hexU_dig _ (by omega)
          have hq1 : s[k].toNat / 16 < 16 := by omega
          have hq2 : s[k].toNat % 16 < 16 := by omega
          have hq3 : 16 * ((s[k].toNat / 16 : Nat) : Int) + ((s[k].toNat % 16 : Nat) : Int) = ((s[k].toNat : Nat) : Int) := by omega
          clear HAT hye hye1 hye2 HE1
          revert hal1
          generalize hm1 : a + 1 = m1
          intro hal1 HS1
          revert hal2
          generalize hm2 : a + 2 = m2
          intro hal2 HS2
          have e1 : (a : Int) + 1 = (m1 : Int) := by omega
          have e2 : (a : Int) + 2 = (m2 : Int) := by omega
          have hai1 : (m1 : Int) < (Y.size : Int) := by omega
          have hai2 : (m2 : Int) < (Y.size : Int) := by omega
          have hm1b : m1 ≤ 4194304 := by omega
          have hm2b : m2 ≤ 4194304 := by omega
          have ww1 : IntKind.i64.wrap (m1 : Int) = (m1 : Int) := wrap_small _ (by omega) (by omega)
          have ww2 : IntKind.i64.wrap (m2 : Int) = (m2 : Int) := wrap_small _ (by omega) (by omega)
          have z1 : (0 : Int) ≤ (m1 : Int) := by omega
          have z2 : (0 : Int) ≤ (m2 : Int) := by omega
          clear hm1 hm2
          generalize s[k].toNat / 16 = q1 at *
          generalize s[k].toNat % 16 = q2 at *
          have hq4 : ¬ (15 < (q2 : Int)) := by omega
          have ww3 : IntKind.i64.wrap (16 * (q1 : Int)) = 16 * (q1 : Int) := wrap_small _ (by omega) (by omega)
          have ww4 : IntKind.i64.wrap ((s[k].toNat : Nat) : Int) = ((s[k].toNat : Nat) : Int) := wrap_small _ (by omega) (by omega)
          cases plus with
          | true =>
            have hpi : ¬ ((s[k].toNat : Nat) : Int) = 32 := fun h => hpl ⟨rfl, by omega⟩
            go_wp2_with fail
            go_region_held3 (fun _ => True) (first | trivial | go_keep)
              ((go_at_call 10; refine (small_false _ _).mono ?_; rintro e w' ⟨rfl, rfl⟩))
            all_goals
              go_wp2_with fail
              go_roundw
              case rel => exact ⟨k + 1, by omega, by go_num, by rw [HLN.out]; go_num, H2.out.drew⟩
              case measure => simp [intOf]; omega
          | false =>
            go_wp2_with fail
            go_region_held3 (fun _ => True) (first | trivial | go_keep)
              ((go_at_call 10; refine (small_false _ _).mono ?_; rintro e w' ⟨rfl, rfl⟩))
            all_goals
              go_wp2_with fail
              go_roundw
              case rel => exact ⟨k + 1, by omega, by go_num, by rw [HLN.out]; go_num, H2.out.drew⟩
              case measure => simp [intOf]; omega
    · obtain rfl : k = s.size := by omega
      have e : s.data.toList.take s.size = s.data.toList := List.take_of_length_le (by rw [len_list]; exact Nat.le_refl _)
      rw [e, HL0.out]
      go_wp2
      go_ret
      exact ⟨by simp, H2.out.bl⟩

end Go.Proofs.YthkbheojjcdglaaDoor.pctw
