import Derived.Test.YtkmhhodapnlkiaaDoorAppEsc
import Derived.Test.YtkmhhodapnlkiaaDoorByteWalks
namespace Go.Proofs.YtkmhhodapnlkiaaDoor.pctw
open Go.ChangeShapes Go.WideShapes Go.ChangeAt Go.RowKit Go.Proofs.YtkmhhodapnlkiaaDoor.common
attribute [local go_sem ↓] Go.wp_at_zero Go.wp_at_succ

set_option maxRecDepth 100000 in
set_option maxHeartbeats 1600000 in
theorem refEscape_any (s : ByteArray) (plus : Bool) (w : World) (hs : 3 * s.size ≤ 140737488355328) :
    Calls Tryd.prog 18 #[.string s, .bool plus] w fun e w' => e = .returned (S (Pct.esc plus s.data.toList)) ∧ Below w.heap.size w w' := by
  obtain ⟨i0, hi, hz0, hz1, hz2⟩ := info_parts info8
  go_enter Tryd.func18, Tryd.ntmps18
  go_wp2_with fail
  go_loopw [5, 6] (fun v i wr => ∃ k : Nat, k ≤ s.size ∧ i = .int .i64 k ∧ wr.ownsRow w.heap.size 5 1 v (Pct.esc plus (s.data.toList.take k)).length ((Pct.esc plus (s.data.toList.take k)).map B) ∧ Below w.heap.size w wr) (fun _ i _ => s.size - (intOf i).toNat)
  case atStart => exact ⟨0, Nat.zero_le _, rfl, World.ownsRow_nil _ _ _ _, Below.refl _ _⟩
  case round =>
    obtain ⟨k, hk, rfl, hown, hnx⟩ := hrel
    have hsz := hnx.size
    by_cases hlt : k < s.size
    · have hki : (k : Int) < (s.size : Int) := by omega
      have hlen := (Pct.esc_len plus (s.data.toList.take k)).2
      have htk : (s.data.toList.take k).length = k := by rw [List.length_take, len_list]; omega
      rw [htk] at hlen
      have HSN : Hid (Pct.esc plus (s.data.toList.take (k + 1)) = Pct.esc plus (s.data.toList.take k) ++ Pct.esc1 plus s[k]) := by
        show _ = _
        rw [take_snoc s k hlt, Pct.esc_snoc]
      clear htk
      generalize Pct.esc plus (s.data.toList.take k) = L at *
      have hcl := s[k].toNat_lt
      go_wp2_with fail
      refine (refUnreserved_any s[k] wr).mono ?_
      rintro x w' ⟨rfl, rfl⟩
      obtain ⟨wr, rfl⟩ : ∃ wr : World, wr = w' := ⟨_, rfl⟩
      by_cases hu : Pct.unres s[k] = true
      · have HE1 : Hid (Pct.esc1 plus s[k] = [s[k]]) := by show _ = _; unfold Pct.esc1; rw [if_pos hu]
        rw [hu]
        go_wp2_with (at_builtin; refine wpList_append_own _ rfl _ _ 34 rfl w.heap.size 5 i0 (.int .u8 0) 1 1 Tryd.underlying34 hi hz0 hz1 hz2 rfl (by decide) _ _ _ rfl (hown.alloc _) ⟨wr.heap.size, 0, none⟩ 1 1 [_] rfl rfl (cell_one_new _ _ _) ?c2 ?c3 ?c4 ?c5 ?_)
        case c2 => first | rfl | (intro u hu; simp at hu; subst hu; rfl)
        case c3 => unfold maxLen; omega
        case c4 => omega
        case c5 => first | omega | (simp; omega)
        intro v' w1 hown' hgrow _
        have R1 : w1.ownsRow w.heap.size 5 1 v' (Pct.esc plus (s.data.toList.take (k + 1))).length ((Pct.esc plus (s.data.toList.take (k + 1))).map B) := by
          rw [HSN.out, HE1.out, List.length_append, List.map_append]; exact hown'
        have R2 : Below w.heap.size w w1 := (hnx.alloc hsz _).grown hgrow (by simp; omega) (own_ge hown)
        clear hown' hgrow hown hnx
        have H1 := hide R1
        have H2 := hide R2
        clear R1 R2
        go_wp2
        go_roundw
        case rel => exact ⟨k + 1, by omega, by go_num, H1.out, H2.out⟩
        case measure => simp [intOf]; omega
      · have hu : Pct.unres s[k] = false := by simpa using hu
        rw [hu]
        by_cases hpl : plus = true ∧ s[k].toNat = 32
        · obtain ⟨rfl, hpl⟩ := hpl
          have hpi : ((s[k].toNat : Nat) : Int) = 32 := by omega
          have h32 : s[k] = 32 := UInt8.toNat_inj.1 hpl
          have HE1 : Hid (Pct.esc1 true s[k] = [43]) := by show _ = _; unfold Pct.esc1; rw [hu, if_neg (by decide), if_pos ⟨rfl, h32⟩]
          clear h32
          go_wp2_with (at_builtin; refine wpList_append_own _ rfl _ _ 34 rfl w.heap.size 5 i0 (.int .u8 0) 1 1 Tryd.underlying34 hi hz0 hz1 hz2 rfl (by decide) _ _ _ rfl (hown.alloc _) ⟨wr.heap.size, 0, none⟩ 1 1 [_] rfl rfl (cell_one_new _ _ _) ?c2 ?c3 ?c4 ?c5 ?_)
          case c2 => first | rfl | (intro u hu; simp at hu; subst hu; rfl)
          case c3 => unfold maxLen; omega
          case c4 => omega
          case c5 => first | omega | (simp; omega)
          intro v' w1 hown' hgrow _
          have R1 : w1.ownsRow w.heap.size 5 1 v' (Pct.esc true (s.data.toList.take (k + 1))).length ((Pct.esc true (s.data.toList.take (k + 1))).map B) := by
            rw [HSN.out, HE1.out, List.length_append, List.map_append]; exact hown'
          have R2 : Below w.heap.size w w1 := (hnx.alloc hsz _).grown hgrow (by simp; omega) (own_ge hown)
          clear hown' hgrow hown hnx
          have H1 := hide R1
          have H2 := hide R2
          clear R1 R2
          go_wp2
          go_roundw
          case rel => exact ⟨k + 1, by omega, by go_num, H1.out, H2.out⟩
          case measure => simp [intOf]; omega
        · have HE1 : Hid (Pct.esc1 plus s[k] = [37, Pct.dig (s[k].toNat / 16), Pct.dig (s[k].toNat % 16)]) := by show _ = _; unfold Pct.esc1; rw [hu, if_neg (by decide), if_neg (fun h => hpl ⟨h.1, by rw [h.2]; rfl⟩)]
          have q1 : ((s[k].toNat : Nat) : Int) / 16 = ((s[k].toNat / 16 : Nat) : Int) := by omega
          have q2 : ((s[k].toNat : Nat) : Int) % 16 = ((s[k].toNat % 16 : Nat) : Int) := by omega
          have HD1 := hide (fun W => refDigit_any (s[k].toNat / 16) W (by omega))
          have HD2 := hide (fun W => refDigit_any (s[k].toNat % 16) W (by omega))
          rw [← q1] at HD1
          rw [← q2] at HD2
          clear q1 q2
          generalize Pct.dig (s[k].toNat / 16) = d1 at *
          generalize Pct.dig (s[k].toNat % 16) = d2 at *
          have HX := hide hnx
          have HO := hide hown
          clear hnx hown
          cases plus with
          | true =>
            have hpi : ¬ ((s[k].toNat : Nat) : Int) = 32 := fun h => hpl ⟨rfl, by omega⟩
            go_wp2_with fail
            refine (HD1.out _).mono ?_
            rintro x w' ⟨rfl, rfl⟩
            go_wp2_with fail
            refine (HD2.out _).mono ?_
            rintro x w' ⟨rfl, rfl⟩
            obtain ⟨wr, rfl⟩ : ∃ wr : World, wr = w' := ⟨_, rfl⟩
            go_wp2_with (at_builtin; refine wpList_append_own _ rfl _ _ 34 rfl w.heap.size 5 i0 (.int .u8 0) 1 1 Tryd.underlying34 hi hz0 hz1 hz2 rfl (by decide) _ _ _ rfl (HO.out.alloc _) ⟨wr.heap.size, 0, none⟩ 1 1 [_] rfl rfl (cell_one_new _ _ _) ?c2 ?c3 ?c4 ?c5 ?_)
            case c2 => first | rfl | (intro u hu; simp at hu; subst hu; rfl)
            case c3 => unfold maxLen; omega
            case c4 => omega
            case c5 => have := HX.out.size; first | omega | (simp; omega)
            intro v1 w1 hown' hgrow _
            have HX1 := hide ((HX.out.alloc HX.out.size _).grown hgrow (by have := HX.out.size; simp; omega) (own_ge HO.out))
            have HO1 := hide hown'
            clear hown' hgrow
            go_wp2_with (at_builtin; refine wpList_append_own _ rfl _ _ 34 rfl w.heap.size 5 i0 (.int .u8 0) 1 1 Tryd.underlying34 hi hz0 hz1 hz2 rfl (by decide) _ _ _ rfl (HO1.out.alloc _) ⟨w1.heap.size, 0, none⟩ 1 1 [_] rfl rfl (cell_one_new _ _ _) ?c2 ?c3 ?c4 ?c5 ?_)
            case c2 => first | rfl | (intro u hu; simp at hu; subst hu; rfl)
            case c3 => unfold maxLen; omega
            case c4 => omega
            case c5 => have := HX1.out.size; first | omega | (simp; omega)
            intro v2 w2 hown' hgrow _
            have HX2 := hide ((HX1.out.alloc HX1.out.size _).grown hgrow (by have := HX1.out.size; simp; omega) (own_ge HO1.out))
            have HO2 := hide hown'
            clear hown' hgrow
            go_wp2_with (at_builtin; refine wpList_append_own _ rfl _ _ 34 rfl w.heap.size 5 i0 (.int .u8 0) 1 1 Tryd.underlying34 hi hz0 hz1 hz2 rfl (by decide) _ _ _ rfl (HO2.out.alloc _) ⟨w2.heap.size, 0, none⟩ 1 1 [_] rfl rfl (cell_one_new _ _ _) ?c2 ?c3 ?c4 ?c5 ?_)
            case c2 => first | rfl | (intro u hu; simp at hu; subst hu; rfl)
            case c3 => unfold maxLen; omega
            case c4 => omega
            case c5 => have := HX2.out.size; first | omega | (simp; omega)
            intro v3 w3 hown' hgrow _
            have HX3 := hide ((HX2.out.alloc HX2.out.size _).grown hgrow (by have := HX2.out.size; simp; omega) (own_ge HO2.out))
            have HO3 := hide hown'
            clear hown' hgrow
            have R1 : Hid (w3.ownsRow w.heap.size 5 1 v3 (Pct.esc true (s.data.toList.take (k + 1))).length ((Pct.esc true (s.data.toList.take (k + 1))).map B)) := by
              have h := HO3.out
              show w3.ownsRow _ _ _ _ _ _
              rw [HSN.out, HE1.out, List.length_append, List.map_append]
              first | exact h | (simp only [List.append_assoc] at h; exact h)
            go_wp2
            go_roundw
            case rel => exact ⟨k + 1, by omega, by go_num, R1.out, HX3.out⟩
            case measure => simp [intOf]; omega
          | false =>
            go_wp2_with fail
            refine (HD1.out _).mono ?_
            rintro x w' ⟨rfl, rfl⟩
            go_wp2_with fail
            refine (HD2.out _).mono ?_
            rintro x w' ⟨rfl, rfl⟩
            obtain ⟨wr, rfl⟩ : ∃ wr : World, wr = w' := ⟨_, rfl⟩
            go_wp2_with (at_builtin; refine wpList_append_own _ rfl _ _ 34 rfl w.heap.size 5 i0 (.int .u8 0) 1 1 Tryd.underlying34 hi hz0 hz1 hz2 rfl (by decide) _ _ _ rfl (HO.out.alloc _) ⟨wr.heap.size, 0, none⟩ 1 1 [_] rfl rfl (cell_one_new _ _ _) ?c2 ?c3 ?c4 ?c5 ?_)
            case c2 => first | rfl | (intro u hu; simp at hu; subst hu; rfl)
            case c3 => unfold maxLen; omega
            case c4 => omega
            case c5 => have := HX.out.size; first | omega | (simp; omega)
            intro v1 w1 hown' hgrow _
            have HX1 := hide ((HX.out.alloc HX.out.size _).grown hgrow (by have := HX.out.size; simp; omega) (own_ge HO.out))
            have HO1 := hide hown'
            clear hown' hgrow
            go_wp2_with (at_builtin; refine wpList_append_own _ rfl _ _ 34 rfl w.heap.size 5 i0 (.int .u8 0) 1 1 Tryd.underlying34 hi hz0 hz1 hz2 rfl (by decide) _ _ _ rfl (HO1.out.alloc _) ⟨w1.heap.size, 0, none⟩ 1 1 [_] rfl rfl (cell_one_new _ _ _) ?c2 ?c3 ?c4 ?c5 ?_)
            case c2 => first | rfl | (intro u hu; simp at hu; subst hu; rfl)
            case c3 => unfold maxLen; omega
            case c4 => omega
            case c5 => have := HX1.out.size; first | omega | (simp; omega)
            intro v2 w2 hown' hgrow _
            have HX2 := hide ((HX1.out.alloc HX1.out.size _).grown hgrow (by have := HX1.out.size; simp; omega) (own_ge HO1.out))
            have HO2 := hide hown'
            clear hown' hgrow
            go_wp2_with (at_builtin; refine wpList_append_own _ rfl _ _ 34 rfl w.heap.size 5 i0 (.int .u8 0) 1 1 Tryd.underlying34 hi hz0 hz1 hz2 rfl (by decide) _ _ _ rfl (HO2.out.alloc _) ⟨w2.heap.size, 0, none⟩ 1 1 [_] rfl rfl (cell_one_new _ _ _) ?c2 ?c3 ?c4 ?c5 ?_)
            case c2 => first | rfl | (intro u hu; simp at hu; subst hu; rfl)
            case c3 => unfold maxLen; omega
            case c4 => omega
            case c5 => have := HX2.out.size; first | omega | (simp; omega)
            intro v3 w3 hown' hgrow _
            have HX3 := hide ((HX2.out.alloc HX2.out.size _).grown hgrow (by have := HX2.out.size; simp; omega) (own_ge HO2.out))
            have HO3 := hide hown'
            clear hown' hgrow
            have R1 : Hid (w3.ownsRow w.heap.size 5 1 v3 (Pct.esc false (s.data.toList.take (k + 1))).length ((Pct.esc false (s.data.toList.take (k + 1))).map B)) := by
              have h := HO3.out
              show w3.ownsRow _ _ _ _ _ _
              rw [HSN.out, HE1.out, List.length_append, List.map_append]
              first | exact h | (simp only [List.append_assoc] at h; exact h)
            go_wp2
            go_roundw
            case rel => exact ⟨k + 1, by omega, by go_num, R1.out, HX3.out⟩
            case measure => simp [intOf]; omega
    · obtain rfl : k = s.size := by omega
      have e : s.data.toList.take s.size = s.data.toList := List.take_of_length_le (by rw [len_list]; exact Nat.le_refl _)
      rw [e] at hown
      have hconv := conv_own hown rfl
      have H2 := hide hnx
      clear hown hnx e
      go_wp2
      go_ret
      exact ⟨rfl, H2.out⟩

end Go.Proofs.YtkmhhodapnlkiaaDoor.pctw
