import Derived.Test.YthkbheojjcdglaaDoorPctKit
namespace Go.Proofs.YthkbheojjcdglaaDoor.pctw
open Go.ChangeShapes Go.WideShapes Go.ChangeAt Go.RowKit Go.Proofs.YthkbheojjcdglaaDoor.common
attribute [local go_sem ↓] Go.wp_at_zero Go.wp_at_succ

theorem turned_at (l : List UInt8) (k : Nat) (n : Int) (hk : k < l.length) : Pct.turned n (l.drop k) = Pct.swapAt n (l.getD k 0) :: Pct.turned (Pct.nearAt n (l.getD k 0)) (l.drop (k + 1)) := by
  rw [Pct.drop_at hk]; rfl

set_option maxRecDepth 100000 in
set_option maxHeartbeats 6400000 in
theorem turned_any (s : ByteArray) (w : World) (hs : s.size ≤ reachBytes) :
    Calls Tryd.prog 11 #[.string s] w fun e w' => e = .returned (S (Pct.turned 0 s.data.toList)) ∧ Below w.heap.size w w' := by
  unfold reachBytes at hs
  obtain ⟨i0, hi, hz0, hz1, hz2⟩ := info_parts info8
  go_enter Tryd.func11, Tryd.ntmps11
  go_wp2_with fail
  go_loopw [3, 4, 5] (fun v m i wr => ∃ (k : Nat) (n : Int) (R : List UInt8), k ≤ s.size ∧ i = .int .i64 k ∧ m = .int .i64 n ∧ Pct.turned 0 s.data.toList = R ++ Pct.turned n (s.data.toList.drop k) ∧ (-(k : Int) ≤ n ∧ n ≤ 2) ∧ R.length = k ∧ wr.ownsRow w.heap.size 5 1 v R.length (R.map B) ∧ Below w.heap.size w wr) (fun _ _ i _ => s.size - (intOf i).toNat)
  case atStart => exact ⟨0, 0, [], Nat.zero_le _, rfl, rfl, rfl, by omega, rfl, World.ownsRow_nil _ _ _ _, Below.refl _ _⟩
  case round =>
    obtain ⟨k, n, R, hk, rfl, rfl, hT, hn, hR, hown, hnx⟩ := hrel
    have hsz := hnx.size
    have HNB : Hid (-((k + 1 : Nat) : Int) ≤ Pct.nearAt n (s.data.toList.getD k 0) ∧ Pct.nearAt n (s.data.toList.getD k 0) ≤ 2) := by
      show _ ∧ _
      unfold Pct.nearAt; split <;> omega
    by_cases hlt : k < s.size
    · have hki : (k : Int) < (s.size : Int) := by omega
      have hgd := hide (getD_list s k hlt)
      rw [turned_at _ _ _ (by rw [len_list]; exact hlt), hgd.out] at hT
      have HT2 : Hid (Pct.turned 0 s.data.toList = (R ++ [Pct.swapAt n s[k]]) ++ Pct.turned (Pct.nearAt n s[k]) (s.data.toList.drop (k + 1))) := by
        show _ = _
        rw [hT, List.append_assoc]; rfl
      rw [hgd.out] at HNB
      clear hT
      have hcl : s[k].toNat < 256 := s[k].toNat_lt
      by_cases hn0 : 0 < n
      · have hn1 : ¬ n ≤ 0 := by omega
        by_cases h1 : s[k].toNat < 65
        · by_cases h37 : s[k].toNat = 37
          · have f1 : ¬ (97 : Int) ≤ ((s[k].toNat : Nat) : Int) := by omega
            have f2 : ¬ (65 : Int) ≤ ((s[k].toNat : Nat) : Int) := by omega
            have f3 : ((s[k].toNat : Nat) : Int) = 37 := by omega
            have HSW : Hid (B (Pct.swapAt n s[k]) = .int .u8 37) := by
              show _ = _; rw [show Value.int .u8 37 = B s[k] from int_eq (by omega)]; unfold Pct.swapAt; first | rw [if_neg (by omega)] | (rw [if_pos (by omega)]; unfold Pct.swap; rw [if_neg (by omega), if_neg (by omega)])
            have HNE : Hid (Pct.nearAt n s[k] = 2) := by
              show _ = _; unfold Pct.nearAt
              rw [if_pos]
              have := congrArg (fun v : Value => v) HSW.out
              have e : s[k] = 37 := UInt8.toNat_inj.1 (by show _ = 37; omega)
              have h2 : Pct.swapAt n s[k] = s[k] := UInt8.toNat_inj.1 (by have := HSW.out; simp only [B, Value.int.injEq, true_and] at this; omega)
              rw [h2, e]
            rw [HNE.out] at HT2
            go_wp2_with (at_builtin; refine wpList_append_own _ rfl _ _ 36 rfl w.heap.size 5 i0 (.int .u8 0) 1 1 Tryd.underlying36 hi hz0 hz1 hz2 rfl (by decide) _ _ _ rfl (hown.alloc _) ⟨wr.heap.size, 0, none⟩ 1 1 [_] rfl rfl (cell_one_new _ _ _) ?c2 ?c3 ?c4 ?c5 ?_)
            case c2 => first | rfl | (intro u hu; simp at hu; subst hu; rfl)
            case c3 => unfold maxLen; omega
            case c4 => omega
            case c5 => first | omega | (simp; omega)
            intro v' w1 hown' hgrow _
            have R1 : w1.ownsRow w.heap.size 5 1 v' (R ++ [Pct.swapAt n s[k]]).length ((R ++ [Pct.swapAt n s[k]]).map B) := by
              rw [List.length_append, List.map_append, List.map_cons, HSW.out, hR]; exact hown'
            have R2 : Below w.heap.size w w1 := (hnx.alloc hsz _).grown hgrow (by simp; omega) (own_ge hown)
            clear hown' hgrow hown hnx
            have H1 := hide R1
            have H2 := hide R2
            clear R1 R2
            go_wp2
            go_roundw
            case rel => exact ⟨k + 1, _, _, by omega, by go_num, rfl, HT2.out, by have := HNB.out; rw [HNE.out] at this; omega, by rw [List.length_append]; simp; omega, H1.out, H2.out⟩
            case measure => simp [intOf]; omega
          · have f1 : ¬ (97 : Int) ≤ ((s[k].toNat : Nat) : Int) := by omega
            have f2 : ¬ (65 : Int) ≤ ((s[k].toNat : Nat) : Int) := by omega
            have f3 : ¬ ((s[k].toNat : Nat) : Int) = 37 := by omega
            have HSW : Hid (B (Pct.swapAt n s[k]) = B s[k]) := by
              show _ = _; unfold Pct.swapAt; first | rw [if_neg (by omega)] | (rw [if_pos (by omega)]; unfold Pct.swap; rw [if_neg (by omega), if_neg (by omega)])
            have HNE : Hid (Pct.nearAt n s[k] = n - 1) := by
              show _ = _; unfold Pct.nearAt
              rw [if_neg]
              intro e37
              have := HSW.out
              rw [e37] at this
              simp only [B, Value.int.injEq, true_and] at this
              have h37 : (37 : UInt8).toNat = 37 := rfl
              omega
            rw [HNE.out] at HT2
            go_wp2_with (at_builtin; refine wpList_append_own _ rfl _ _ 36 rfl w.heap.size 5 i0 (.int .u8 0) 1 1 Tryd.underlying36 hi hz0 hz1 hz2 rfl (by decide) _ _ _ rfl (hown.alloc _) ⟨wr.heap.size, 0, none⟩ 1 1 [_] rfl rfl (cell_one_new _ _ _) ?c2 ?c3 ?c4 ?c5 ?_)
            case c2 => first | rfl | (intro u hu; simp at hu; subst hu; rfl)
            case c3 => unfold maxLen; omega
            case c4 => omega
            case c5 => first | omega | (simp; omega)
            intro v' w1 hown' hgrow _
            have R1 : w1.ownsRow w.heap.size 5 1 v' (R ++ [Pct.swapAt n s[k]]).length ((R ++ [Pct.swapAt n s[k]]).map B) := by
              rw [List.length_append, List.map_append, List.map_cons, HSW.out, hR]; exact hown'
            have R2 : Below w.heap.size w w1 := (hnx.alloc hsz _).grown hgrow (by simp; omega) (own_ge hown)
            clear hown' hgrow hown hnx
            have H1 := hide R1
            have H2 := hide R2
            clear R1 R2
            go_wp2
            go_roundw
            case rel => exact ⟨k + 1, _, _, by omega, by go_num, rfl, HT2.out, by have := HNB.out; rw [HNE.out] at this; omega, by rw [List.length_append]; simp; omega, H1.out, H2.out⟩
            case measure => simp [intOf]; omega
        · by_cases h2 : s[k].toNat ≤ 70
          · have f1 : ¬ (97 : Int) ≤ ((s[k].toNat : Nat) : Int) := by omega
            have f2 : (65 : Int) ≤ ((s[k].toNat : Nat) : Int) := by omega
            have f3 : ((s[k].toNat : Nat) : Int) ≤ 70 := by omega
            have f4 : ¬ ((s[k].toNat : Nat) : Int) - 65 + 97 = 37 := by omega
            have HSW : Hid (B (Pct.swapAt n s[k]) = .int .u8 (((s[k].toNat : Nat) : Int) - 65 + 97)) := by
              show _ = _; unfold Pct.swapAt; rw [if_pos hn0]; unfold Pct.swap; rw [if_neg (by omega), if_pos (by omega)]; unfold B; rw [toNat_of (by omega)]; exact int_eq (by omega)
            have HNE : Hid (Pct.nearAt n s[k] = n - 1) := by
              show _ = _; unfold Pct.nearAt
              rw [if_neg]
              intro e37
              have := HSW.out
              rw [e37] at this
              simp only [B, Value.int.injEq, true_and] at this
              have h37 : (37 : UInt8).toNat = 37 := rfl
              omega
            rw [HNE.out] at HT2
            go_wp2_with (at_builtin; refine wpList_append_own _ rfl _ _ 36 rfl w.heap.size 5 i0 (.int .u8 0) 1 1 Tryd.underlying36 hi hz0 hz1 hz2 rfl (by decide) _ _ _ rfl (hown.alloc _) ⟨wr.heap.size, 0, none⟩ 1 1 [_] rfl rfl (cell_one_new _ _ _) ?c2 ?c3 ?c4 ?c5 ?_)
            case c2 => first | rfl | (intro u hu; simp at hu; subst hu; rfl)
            case c3 => unfold maxLen; omega
            case c4 => omega
            case c5 => first | omega | (simp; omega)
            intro v' w1 hown' hgrow _
            have R1 : w1.ownsRow w.heap.size 5 1 v' (R ++ [Pct.swapAt n s[k]]).length ((R ++ [Pct.swapAt n s[k]]).map B) := by
              rw [List.length_append, List.map_append, List.map_cons, HSW.out, hR]; exact hown'
            have R2 : Below w.heap.size w w1 := (hnx.alloc hsz _).grown hgrow (by simp; omega) (own_ge hown)
            clear hown' hgrow hown hnx
            have H1 := hide R1
            have H2 := hide R2
            clear R1 R2
            go_wp2
            go_roundw
            case rel => exact ⟨k + 1, _, _, by omega, by go_num, rfl, HT2.out, by have := HNB.out; rw [HNE.out] at this; omega, by rw [List.length_append]; simp; omega, H1.out, H2.out⟩
            case measure => simp [intOf]; omega
          · by_cases h3 : s[k].toNat < 97
            · have f1 : ¬ (97 : Int) ≤ ((s[k].toNat : Nat) : Int) := by omega
              have f2 : (65 : Int) ≤ ((s[k].toNat : Nat) : Int) := by omega
              have f3 : ¬ ((s[k].toNat : Nat) : Int) ≤ 70 := by omega
              have f4 : ¬ ((s[k].toNat : Nat) : Int) = 37 := by omega
              have HSW : Hid (B (Pct.swapAt n s[k]) = B s[k]) := by
                show _ = _; unfold Pct.swapAt; first | rw [if_neg (by omega)] | (rw [if_pos (by omega)]; unfold Pct.swap; rw [if_neg (by omega), if_neg (by omega)])
              have HNE : Hid (Pct.nearAt n s[k] = n - 1) := by
                show _ = _; unfold Pct.nearAt
                rw [if_neg]
                intro e37
                have := HSW.out
                rw [e37] at this
                simp only [B, Value.int.injEq, true_and] at this
                have h37 : (37 : UInt8).toNat = 37 := rfl
                omega
              rw [HNE.out] at HT2
              go_wp2_with (at_builtin; refine wpList_append_own _ rfl _ _ 36 rfl w.heap.size 5 i0 (.int .u8 0) 1 1 Tryd.underlying36 hi hz0 hz1 hz2 rfl (by decide) _ _ _ rfl (hown.alloc _) ⟨wr.heap.size, 0, none⟩ 1 1 [_] rfl rfl (cell_one_new _ _ _) ?c2 ?c3 ?c4 ?c5 ?_)
              case c2 => first | rfl | (intro u hu; simp at hu; subst hu; rfl)
              case c3 => unfold maxLen; omega
              case c4 => omega
              case c5 => first | omega | (simp; omega)
              intro v' w1 hown' hgrow _
              have R1 : w1.ownsRow w.heap.size 5 1 v' (R ++ [Pct.swapAt n s[k]]).length ((R ++ [Pct.swapAt n s[k]]).map B) := by
                rw [List.length_append, List.map_append, List.map_cons, HSW.out, hR]; exact hown'
              have R2 : Below w.heap.size w w1 := (hnx.alloc hsz _).grown hgrow (by simp; omega) (own_ge hown)
              clear hown' hgrow hown hnx
              have H1 := hide R1
              have H2 := hide R2
              clear R1 R2
              go_wp2
              go_roundw
              case rel => exact ⟨k + 1, _, _, by omega, by go_num, rfl, HT2.out, by have := HNB.out; rw [HNE.out] at this; omega, by rw [List.length_append]; simp; omega, H1.out, H2.out⟩
              case measure => simp [intOf]; omega
            · by_cases h4 : s[k].toNat ≤ 102
              · have f1 : (97 : Int) ≤ ((s[k].toNat : Nat) : Int) := by omega
                have f2 : ((s[k].toNat : Nat) : Int) ≤ 102 := by omega
                have f4 : ¬ ((s[k].toNat : Nat) : Int) - 97 + 65 = 37 := by omega
                have HSW : Hid (B (Pct.swapAt n s[k]) = .int .u8 (((s[k].toNat : Nat) : Int) - 97 + 65)) := by
                  show _ = _; unfold Pct.swapAt; rw [if_pos hn0]; unfold Pct.swap; rw [if_pos (by omega)]; unfold B; rw [toNat_of (by omega)]; exact int_eq (by omega)
                have HNE : Hid (Pct.nearAt n s[k] = n - 1) := by
                  show _ = _; unfold Pct.nearAt
                  rw [if_neg]
                  intro e37
                  have := HSW.out
                  rw [e37] at this
                  simp only [B, Value.int.injEq, true_and] at this
                  have h37 : (37 : UInt8).toNat = 37 := rfl
                  omega
                rw [HNE.out] at HT2
                go_wp2_with (at_builtin; refine wpList_append_own _ rfl _ _ 36 rfl w.heap.size 5 i0 (.int .u8 0) 1 1 Tryd.underlying36 hi hz0 hz1 hz2 rfl (by decide) _ _ _ rfl (hown.alloc _) ⟨wr.heap.size, 0, none⟩ 1 1 [_] rfl rfl (cell_one_new _ _ _) ?c2 ?c3 ?c4 ?c5 ?_)
                case c2 => first | rfl | (intro u hu; simp at hu; subst hu; rfl)
                case c3 => unfold maxLen; omega
                case c4 => omega
                case c5 => first | omega | (simp; omega)
                intro v' w1 hown' hgrow _
                have R1 : w1.ownsRow w.heap.size 5 1 v' (R ++ [Pct.swapAt n s[k]]).length ((R ++ [Pct.swapAt n s[k]]).map B) := by
                  rw [List.length_append, List.map_append, List.map_cons, HSW.out, hR]; exact hown'
                have R2 : Below w.heap.size w w1 := (hnx.alloc hsz _).grown hgrow (by simp; omega) (own_ge hown)
                clear hown' hgrow hown hnx
                have H1 := hide R1
                have H2 := hide R2
                clear R1 R2
                go_wp2
                go_roundw
                case rel => exact ⟨k + 1, _, _, by omega, by go_num, rfl, HT2.out, by have := HNB.out; rw [HNE.out] at this; omega, by rw [List.length_append]; simp; omega, H1.out, H2.out⟩
                case measure => simp [intOf]; omega
              · have f1 : (97 : Int) ≤ ((s[k].toNat : Nat) : Int) := by omega
                have f2 : ¬ ((s[k].toNat : Nat) : Int) ≤ 102 := by omega
                have f3 : (65 : Int) ≤ ((s[k].toNat : Nat) : Int) := by omega
                have f5 : ¬ ((s[k].toNat : Nat) : Int) ≤ 70 := by omega
                have f4 : ¬ ((s[k].toNat : Nat) : Int) = 37 := by omega
                have HSW : Hid (B (Pct.swapAt n s[k]) = B s[k]) := by
                  show _ = _; unfold Pct.swapAt; first | rw [if_neg (by omega)] | (rw [if_pos (by omega)]; unfold Pct.swap; rw [if_neg (by omega), if_neg (by omega)])
                have HNE : Hid (Pct.nearAt n s[k] = n - 1) := by
                  show _ = _; unfold Pct.nearAt
                  rw [if_neg]
                  intro e37
                  have := HSW.out
                  rw [e37] at this
                  simp only [B, Value.int.injEq, true_and] at this
                  have h37 : (37 : UInt8).toNat = 37 := rfl
                  omega
                rw [HNE.out] at HT2
                go_wp2_with (at_builtin; refine wpList_append_own _ rfl _ _ 36 rfl w.heap.size 5 i0 (.int .u8 0) 1 1 Tryd.underlying36 hi hz0 hz1 hz2 rfl (by decide) _ _ _ rfl (hown.alloc _) ⟨wr.heap.size, 0, none⟩ 1 1 [_] rfl rfl (cell_one_new _ _ _) ?c2 ?c3 ?c4 ?c5 ?_)
                case c2 => first | rfl | (intro u hu; simp at hu; subst hu; rfl)
                case c3 => unfold maxLen; omega
                case c4 => omega
                case c5 => first | omega | (simp; omega)
                intro v' w1 hown' hgrow _
                have R1 : w1.ownsRow w.heap.size 5 1 v' (R ++ [Pct.swapAt n s[k]]).length ((R ++ [Pct.swapAt n s[k]]).map B) := by
                  rw [List.length_append, List.map_append, List.map_cons, HSW.out, hR]; exact hown'
                have R2 : Below w.heap.size w w1 := (hnx.alloc hsz _).grown hgrow (by simp; omega) (own_ge hown)
                clear hown' hgrow hown hnx
                have H1 := hide R1
                have H2 := hide R2
                clear R1 R2
                go_wp2
                go_roundw
                case rel => exact ⟨k + 1, _, _, by omega, by go_num, rfl, HT2.out, by have := HNB.out; rw [HNE.out] at this; omega, by rw [List.length_append]; simp; omega, H1.out, H2.out⟩
                case measure => simp [intOf]; omega
      · have hn1 : n ≤ 0 := by omega
        by_cases h37 : s[k].toNat = 37
        · have f3 : ((s[k].toNat : Nat) : Int) = 37 := by omega
          have HSW : Hid (B (Pct.swapAt n s[k]) = .int .u8 37) := by
            show _ = _; rw [show Value.int .u8 37 = B s[k] from int_eq (by omega)]; unfold Pct.swapAt; first | rw [if_neg (by omega)] | (rw [if_pos (by omega)]; unfold Pct.swap; rw [if_neg (by omega), if_neg (by omega)])
          have HNE : Hid (Pct.nearAt n s[k] = 2) := by
            show _ = _; unfold Pct.nearAt
            rw [if_pos]
            have := congrArg (fun v : Value => v) HSW.out
            have e : s[k] = 37 := UInt8.toNat_inj.1 (by show _ = 37; omega)
            have h2 : Pct.swapAt n s[k] = s[k] := UInt8.toNat_inj.1 (by have := HSW.out; simp only [B, Value.int.injEq, true_and] at this; omega)
            rw [h2, e]
          rw [HNE.out] at HT2
          go_wp2_with (at_builtin; refine wpList_append_own _ rfl _ _ 36 rfl w.heap.size 5 i0 (.int .u8 0) 1 1 Tryd.underlying36 hi hz0 hz1 hz2 rfl (by decide) _ _ _ rfl (hown.alloc _) ⟨wr.heap.size, 0, none⟩ 1 1 [_] rfl rfl (cell_one_new _ _ _) ?c2 ?c3 ?c4 ?c5 ?_)
          case c2 => first | rfl | (intro u hu; simp at hu; subst hu; rfl)
          case c3 => unfold maxLen; omega
          case c4 => omega
          case c5 => first | omega | (simp; omega)
          intro v' w1 hown' hgrow _
          have R1 : w1.ownsRow w.heap.size 5 1 v' (R ++ [Pct.swapAt n s[k]]).length ((R ++ [Pct.swapAt n s[k]]).map B) := by
            rw [List.length_append, List.map_append, List.map_cons, HSW.out, hR]; exact hown'
          have R2 : Below w.heap.size w w1 := (hnx.alloc hsz _).grown hgrow (by simp; omega) (own_ge hown)
          clear hown' hgrow hown hnx
          have H1 := hide R1
          have H2 := hide R2
          clear R1 R2
          go_wp2
          go_roundw
          case rel => exact ⟨k + 1, _, _, by omega, by go_num, rfl, HT2.out, by have := HNB.out; rw [HNE.out] at this; omega, by rw [List.length_append]; simp; omega, H1.out, H2.out⟩
          case measure => simp [intOf]; omega
        · have f3 : ¬ ((s[k].toNat : Nat) : Int) = 37 := by omega
          have HSW : Hid (B (Pct.swapAt n s[k]) = B s[k]) := by
            show _ = _; unfold Pct.swapAt; first | rw [if_neg (by omega)] | (rw [if_pos (by omega)]; unfold Pct.swap; rw [if_neg (by omega), if_neg (by omega)])
          have HNE : Hid (Pct.nearAt n s[k] = n - 1) := by
            show _ = _; unfold Pct.nearAt
            rw [if_neg]
            intro e37
            have := HSW.out
            rw [e37] at this
            simp only [B, Value.int.injEq, true_and] at this
            have h37 : (37 : UInt8).toNat = 37 := rfl
            omega
          rw [HNE.out] at HT2
          go_wp2_with (at_builtin; refine wpList_append_own _ rfl _ _ 36 rfl w.heap.size 5 i0 (.int .u8 0) 1 1 Tryd.underlying36 hi hz0 hz1 hz2 rfl (by decide) _ _ _ rfl (hown.alloc _) ⟨wr.heap.size, 0, none⟩ 1 1 [_] rfl rfl (cell_one_new _ _ _) ?c2 ?c3 ?c4 ?c5 ?_)
          case c2 => first | rfl | (intro u hu; simp at hu; subst hu; rfl)
          case c3 => unfold maxLen; omega
          case c4 => omega
          case c5 => first | omega | (simp; omega)
          intro v' w1 hown' hgrow _
          have R1 : w1.ownsRow w.heap.size 5 1 v' (R ++ [Pct.swapAt n s[k]]).length ((R ++ [Pct.swapAt n s[k]]).map B) := by
            rw [List.length_append, List.map_append, List.map_cons, HSW.out, hR]; exact hown'
          have R2 : Below w.heap.size w w1 := (hnx.alloc hsz _).grown hgrow (by simp; omega) (own_ge hown)
          clear hown' hgrow hown hnx
          have H1 := hide R1
          have H2 := hide R2
          clear R1 R2
          go_wp2
          go_roundw
          case rel => exact ⟨k + 1, _, _, by omega, by go_num, rfl, HT2.out, by have := HNB.out; rw [HNE.out] at this; omega, by rw [List.length_append]; simp; omega, H1.out, H2.out⟩
          case measure => simp [intOf]; omega
    · obtain rfl : k = s.size := by omega
      have e : s.data.toList.drop s.size = [] := List.drop_of_length_le (by rw [len_list]; exact Nat.le_refl _)
      rw [e, show Pct.turned n [] = [] from rfl, List.append_nil] at hT
      have HTT := hide hT
      clear hT
      have hconv := conv_own hown rfl
      have H2 := hide hnx
      clear hown hnx e HNB
      go_wp2
      go_ret
      exact ⟨by rw [HTT.out]; rfl, H2.out⟩

end Go.Proofs.YthkbheojjcdglaaDoor.pctw
