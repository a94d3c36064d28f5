import Derived.Test.YtkkgngmhdlmgnaaDoorRefSize
import Derived.Test.YtkkgngmhdlmgnaaDoorJsonQuoted
namespace Go.Proofs.YtkkgngmhdlmgnaaDoor.jw
open Go.ChangeShapes Go.WideShapes Go.ChangeAt Go.RowKit Go.Proofs.YtkkgngmhdlmgnaaDoor.common
attribute [local go_sem ↓] Go.wp_at_zero Go.wp_at_succ

set_option maxRecDepth 100000 in
set_option maxHeartbeats 1600000 in
theorem refPlain_any (s : ByteArray) (w : World) (hs : s.size < 9223372036854775800) :
    Calls Tryd.prog 40 #[.string s] w fun e w' => e = .returned (.bool (Lib.validD s.data.toList)) ∧ w' = w := by
  obtain ⟨R, hR⟩ : ∃ R, Lib.validD s.data.toList = R := ⟨_, rfl⟩
  rw [hR]
  have HR := hide hR
  clear hR
  go_enter Tryd.func40, Tryd.ntmps40
  go_wp2_with fail
  go_loopw [3] (fun i wr => ∃ k : Nat, k ≤ s.size ∧ i = .int .i64 k ∧ wr = w ∧ Hid (Lib.validD (s.data.toList.drop k) = R)) (fun i _ => s.size - (intOf i).toNat)
  case atStart => exact ⟨0, by omega, rfl, rfl, by show _ = _; rw [List.drop_zero]; exact HR.out⟩
  case round =>
    obtain ⟨k, hk, rfl, rfl, hv⟩ := hrel
    by_cases hlt : k < s.size
    · have hki : (k : Int) < (s.size : Int) := by omega
      have hne : s.data.toList.drop k ≠ [] := by
        intro e
        have := congrArg List.length e
        simp only [List.length_drop, List.length_nil, len_list] at this
        omega
      have hag := sizeOf_agrees s k hlt
      have hle := Lib.decodeL_le _ hne
      rw [List.length_drop, len_list] at hle
      have hwd := Lib.decodeL_width (s.data.toList.drop k)
      have hst := Lib.validD_step _ hne
      rw [hv.out] at hst
      have hdd : s.data.toList.drop (k + (Lib.decodeL (s.data.toList.drop k)).2) = (s.data.toList.drop k).drop (Lib.decodeL (s.data.toList.drop k)).2 := by rw [List.drop_drop]
      have HC := hide (refSize_any s k wr hs hlt)
      unfold agrees at hag
      rcases hag with ⟨hz, hb⟩ | ⟨hb, hz⟩
      · rw [if_pos hb] at hst
        have HF := hide hst
        rw [hz] at HC
        clear hst hdd hle hwd hz hb hne hv
        go_wp2_with fail
        refine HC.out.mono ?_
        rintro e w' ⟨rfl, rfl⟩
        go_wp2
        go_ret
        exact ⟨by rw [HF.out]; rfl, rfl⟩
      · rw [if_neg hb, ← hdd, ← hz] at hst
        rw [← hz] at hle hwd
        have HF := hide hst
        clear hst hdd hz hb hne hv
        generalize sizeOf s k = n at *
        have hn0 : ¬ (n : Int) = 0 := by omega
        have hsum : (k : Int) + (n : Int) ≤ 9223372036854775807 := by omega
        go_wp2_with fail
        refine HC.out.mono ?_
        rintro e w' ⟨rfl, rfl⟩
        go_wp2
        go_roundw
        case rel => exact ⟨k + n, by omega, by go_num, by first | rfl | trivial, HF.out.symm⟩
        case measure => simp [intOf] <;> omega
    · obtain rfl : k = s.size := by omega
      have hv2 := hv.out
      rw [List.drop_eq_nil_of_le (by rw [len_list]; exact Nat.le_refl _), Lib.validD_nil] at hv2
      have HF := hide hv2
      clear hv2 hv
      go_wp2
      go_ret
      exact ⟨by rw [← HF.out]; rfl, rfl⟩

set_option maxRecDepth 100000 in
theorem refDigit_any (n : Nat) (w : World) (hn : n < 16) (I : Int) (hI : I = (n : Int)) :
    Calls Tryd.prog 54 #[.int .u8 I] w fun e w' => e = .returned (B (Json.dig n)) ∧ w' = w := by
  subst hI
  by_cases h : n < 10
  · have k : (n : Int) < 10 := by omega
    have hd : Hid ((Json.dig n).toNat = 48 + n) := by show _ = _; unfold Json.dig; rw [if_pos h]; simp; omega
    go_enter Tryd.func54, Tryd.ntmps54
    go_wp2
    go_ret
    refine ⟨?_, rfl⟩
    show _ = Ending.returned (Value.int .u8 _)
    rw [hd.out]
    first | rfl | (congr 2; omega) | (congr 2; simp; omega)
  · have k : ¬ (n : Int) < 10 := by omega
    have hd : Hid ((Json.dig n).toNat = 87 + n) := by show _ = _; unfold Json.dig; rw [if_neg h]; simp; omega
    go_enter Tryd.func54, Tryd.ntmps54
    go_wp2
    go_ret
    refine ⟨?_, rfl⟩
    show _ = Ending.returned (Value.int .u8 _)
    rw [hd.out]
    first | rfl | (congr 2; omega) | (congr 2; simp; omega)

set_option maxRecDepth 100000 in
set_option maxHeartbeats 6400000 in
theorem refQuoted_any (b : Nat) (v : Value) (l : List UInt8) (c : UInt8) (w : World) (hown : w.ownsRow b 5 1 v l.length (l.map B)) (hlen : l.length + 6 ≤ 140737488355328) (hb : b ≤ w.heap.size) :
    Calls Tryd.prog 41 #[v, B c] w fun e w' => ∃ v', e = .returned v' ∧ w'.ownsRow b 5 1 v' (l ++ Json.esc c).length ((l ++ Json.esc c).map B) ∧ Fr b w w' := by
  obtain ⟨i0, hi, hz0, hz1, hz2⟩ := info_parts info8
  have HO := hide hown
  clear hown
  have hlt := c.toNat_lt
  have hne : ∀ k : UInt8, c ≠ k → ¬ (c.toNat : Int) = (k.toNat : Int) := fun k h e => h (UInt8.toNat_inj.1 (by omega))
  by_cases h34 : c = 34
  · have k : (c.toNat : Int) = 34 := by rw [h34]; rfl
    obtain ⟨E, hE⟩ : ∃ E, Json.esc c = E := ⟨_, rfl⟩
    have HEq : Hid (E = [92, 34]) := by show _ = _; rw [← hE, h34]; decide
    rw [hE]
    clear hE h34 hne hlt
    go_enter Tryd.func41, Tryd.ntmps41
    go_wp2_with (at_builtin; refine wpList_append_own _ rfl _ _ 60 rfl b 5 i0 (.int .u8 0) 1 1 Tryd.underlying60 hi hz0 hz1 hz2 rfl (by decide) _ _ _ rfl (HO.out.alloc _) ⟨w.heap.size, 0, none⟩ 2 2 [B 92, B 34] rfl rfl (cells_new w [B 92, B 34] 5) ?c2 ?c3 ?c4 ?c5 ?_)
    case c2 => intro u hu; simp at hu; rcases hu with rfl | rfl <;> rfl
    case c3 => unfold maxLen; omega
    case c4 => omega
    case c5 => first | omega | (simp; omega)
    intro v' w1 hown' hgrow _
    have H1 : Hid (w1.ownsRow b 5 1 v' (l ++ E).length ((l ++ E).map B)) := by
      show w1.ownsRow _ _ _ _ _ _
      rw [HEq.out, List.length_append, List.map_append]
      exact hown'
    have H2 : Hid (Fr b w w1) := ((Fr.refl b w).alloc hb _).grown (HO.out.alloc _) hgrow (by simp; omega)
    clear hown' hgrow
    go_wp2
    go_ret
    exact ⟨_, rfl, H1.out, H2.out⟩
  have k34 : ¬ (c.toNat : Int) = 34 := hne 34 h34
  by_cases h92 : c = 92
  · have k : (c.toNat : Int) = 92 := by rw [h92]; rfl
    obtain ⟨E, hE⟩ : ∃ E, Json.esc c = E := ⟨_, rfl⟩
    have HEq : Hid (E = [92, 92]) := by show _ = _; rw [← hE, h92]; decide
    rw [hE]
    clear hE h92 hne hlt
    go_enter Tryd.func41, Tryd.ntmps41
    go_wp2_with (at_builtin; refine wpList_append_own _ rfl _ _ 60 rfl b 5 i0 (.int .u8 0) 1 1 Tryd.underlying60 hi hz0 hz1 hz2 rfl (by decide) _ _ _ rfl (HO.out.alloc _) ⟨w.heap.size, 0, none⟩ 2 2 [B 92, B 92] rfl rfl (cells_new w [B 92, B 92] 5) ?c2 ?c3 ?c4 ?c5 ?_)
    case c2 => intro u hu; simp at hu; rcases hu with rfl | rfl <;> rfl
    case c3 => unfold maxLen; omega
    case c4 => omega
    case c5 => first | omega | (simp; omega)
    intro v' w1 hown' hgrow _
    have H1 : Hid (w1.ownsRow b 5 1 v' (l ++ E).length ((l ++ E).map B)) := by
      show w1.ownsRow _ _ _ _ _ _
      rw [HEq.out, List.length_append, List.map_append]
      exact hown'
    have H2 : Hid (Fr b w w1) := ((Fr.refl b w).alloc hb _).grown (HO.out.alloc _) hgrow (by simp; omega)
    clear hown' hgrow
    go_wp2
    go_ret
    exact ⟨_, rfl, H1.out, H2.out⟩
  have k92 : ¬ (c.toNat : Int) = 92 := hne 92 h92
  by_cases h8 : c = 8
  · have k : (c.toNat : Int) = 8 := by rw [h8]; rfl
    obtain ⟨E, hE⟩ : ∃ E, Json.esc c = E := ⟨_, rfl⟩
    have HEq : Hid (E = [92, 98]) := by show _ = _; rw [← hE, h8]; decide
    rw [hE]
    clear hE h8 hne hlt
    go_enter Tryd.func41, Tryd.ntmps41
    go_wp2_with (at_builtin; refine wpList_append_own _ rfl _ _ 60 rfl b 5 i0 (.int .u8 0) 1 1 Tryd.underlying60 hi hz0 hz1 hz2 rfl (by decide) _ _ _ rfl (HO.out.alloc _) ⟨w.heap.size, 0, none⟩ 2 2 [B 92, B 98] rfl rfl (cells_new w [B 92, B 98] 5) ?c2 ?c3 ?c4 ?c5 ?_)
    case c2 => intro u hu; simp at hu; rcases hu with rfl | rfl <;> rfl
    case c3 => unfold maxLen; omega
    case c4 => omega
    case c5 => first | omega | (simp; omega)
    intro v' w1 hown' hgrow _
    have H1 : Hid (w1.ownsRow b 5 1 v' (l ++ E).length ((l ++ E).map B)) := by
      show w1.ownsRow _ _ _ _ _ _
      rw [HEq.out, List.length_append, List.map_append]
      exact hown'
    have H2 : Hid (Fr b w w1) := ((Fr.refl b w).alloc hb _).grown (HO.out.alloc _) hgrow (by simp; omega)
    clear hown' hgrow
    go_wp2
    go_ret
    exact ⟨_, rfl, H1.out, H2.out⟩
  have k8 : ¬ (c.toNat : Int) = 8 := hne 8 h8
  by_cases h9 : c = 9
  · have k : (c.toNat : Int) = 9 := by rw [h9]; rfl
    obtain ⟨E, hE⟩ : ∃ E, Json.esc c = E := ⟨_, rfl⟩
    have HEq : Hid (E = [92, 116]) := by show _ = _; rw [← hE, h9]; decide
    rw [hE]
    clear hE h9 hne hlt
    go_enter Tryd.func41, Tryd.ntmps41
    go_wp2_with (at_builtin; refine wpList_append_own _ rfl _ _ 60 rfl b 5 i0 (.int .u8 0) 1 1 Tryd.underlying60 hi hz0 hz1 hz2 rfl (by decide) _ _ _ rfl (HO.out.alloc _) ⟨w.heap.size, 0, none⟩ 2 2 [B 92, B 116] rfl rfl (cells_new w [B 92, B 116] 5) ?c2 ?c3 ?c4 ?c5 ?_)
    case c2 => intro u hu; simp at hu; rcases hu with rfl | rfl <;> rfl
    case c3 => unfold maxLen; omega
    case c4 => omega
    case c5 => first | omega | (simp; omega)
    intro v' w1 hown' hgrow _
    have H1 : Hid (w1.ownsRow b 5 1 v' (l ++ E).length ((l ++ E).map B)) := by
      show w1.ownsRow _ _ _ _ _ _
      rw [HEq.out, List.length_append, List.map_append]
      exact hown'
    have H2 : Hid (Fr b w w1) := ((Fr.refl b w).alloc hb _).grown (HO.out.alloc _) hgrow (by simp; omega)
    clear hown' hgrow
    go_wp2
    go_ret
    exact ⟨_, rfl, H1.out, H2.out⟩
  have k9 : ¬ (c.toNat : Int) = 9 := hne 9 h9
  by_cases h10 : c = 10
  · have k : (c.toNat : Int) = 10 := by rw [h10]; rfl
    obtain ⟨E, hE⟩ : ∃ E, Json.esc c = E := ⟨_, rfl⟩
    have HEq : Hid (E = [92, 110]) := by show _ = _; rw [← hE, h10]; decide
    rw [hE]
    clear hE h10 hne hlt
    go_enter Tryd.func41, Tryd.ntmps41
    go_wp2_with (at_builtin; refine wpList_append_own _ rfl _ _ 60 rfl b 5 i0 (.int .u8 0) 1 1 Tryd.underlying60 hi hz0 hz1 hz2 rfl (by decide) _ _ _ rfl (HO.out.alloc _) ⟨w.heap.size, 0, none⟩ 2 2 [B 92, B 110] rfl rfl (cells_new w [B 92, B 110] 5) ?c2 ?c3 ?c4 ?c5 ?_)
    case c2 => intro u hu; simp at hu; rcases hu with rfl | rfl <;> rfl
    case c3 => unfold maxLen; omega
    case c4 => omega
    case c5 => first | omega | (simp; omega)
    intro v' w1 hown' hgrow _
    have H1 : Hid (w1.ownsRow b 5 1 v' (l ++ E).length ((l ++ E).map B)) := by
      show w1.ownsRow _ _ _ _ _ _
      rw [HEq.out, List.length_append, List.map_append]
      exact hown'
    have H2 : Hid (Fr b w w1) := ((Fr.refl b w).alloc hb _).grown (HO.out.alloc _) hgrow (by simp; omega)
    clear hown' hgrow
    go_wp2
    go_ret
    exact ⟨_, rfl, H1.out, H2.out⟩
  have k10 : ¬ (c.toNat : Int) = 10 := hne 10 h10
  by_cases h12 : c = 12
  · have k : (c.toNat : Int) = 12 := by rw [h12]; rfl
    obtain ⟨E, hE⟩ : ∃ E, Json.esc c = E := ⟨_, rfl⟩
    have HEq : Hid (E = [92, 102]) := by show _ = _; rw [← hE, h12]; decide
    rw [hE]
    clear hE h12 hne hlt
    go_enter Tryd.func41, Tryd.ntmps41
    go_wp2_with (at_builtin; refine wpList_append_own _ rfl _ _ 60 rfl b 5 i0 (.int .u8 0) 1 1 Tryd.underlying60 hi hz0 hz1 hz2 rfl (by decide) _ _ _ rfl (HO.out.alloc _) ⟨w.heap.size, 0, none⟩ 2 2 [B 92, B 102] rfl rfl (cells_new w [B 92, B 102] 5) ?c2 ?c3 ?c4 ?c5 ?_)
    case c2 => intro u hu; simp at hu; rcases hu with rfl | rfl <;> rfl
    case c3 => unfold maxLen; omega
    case c4 => omega
    case c5 => first | omega | (simp; omega)
    intro v' w1 hown' hgrow _
    have H1 : Hid (w1.ownsRow b 5 1 v' (l ++ E).length ((l ++ E).map B)) := by
      show w1.ownsRow _ _ _ _ _ _
      rw [HEq.out, List.length_append, List.map_append]
      exact hown'
    have H2 : Hid (Fr b w w1) := ((Fr.refl b w).alloc hb _).grown (HO.out.alloc _) hgrow (by simp; omega)
    clear hown' hgrow
    go_wp2
    go_ret
    exact ⟨_, rfl, H1.out, H2.out⟩
  have k12 : ¬ (c.toNat : Int) = 12 := hne 12 h12
  by_cases h13 : c = 13
  · have k : (c.toNat : Int) = 13 := by rw [h13]; rfl
    obtain ⟨E, hE⟩ : ∃ E, Json.esc c = E := ⟨_, rfl⟩
    have HEq : Hid (E = [92, 114]) := by show _ = _; rw [← hE, h13]; decide
    rw [hE]
    clear hE h13 hne hlt
    go_enter Tryd.func41, Tryd.ntmps41
    go_wp2_with (at_builtin; refine wpList_append_own _ rfl _ _ 60 rfl b 5 i0 (.int .u8 0) 1 1 Tryd.underlying60 hi hz0 hz1 hz2 rfl (by decide) _ _ _ rfl (HO.out.alloc _) ⟨w.heap.size, 0, none⟩ 2 2 [B 92, B 114] rfl rfl (cells_new w [B 92, B 114] 5) ?c2 ?c3 ?c4 ?c5 ?_)
    case c2 => intro u hu; simp at hu; rcases hu with rfl | rfl <;> rfl
    case c3 => unfold maxLen; omega
    case c4 => omega
    case c5 => first | omega | (simp; omega)
    intro v' w1 hown' hgrow _
    have H1 : Hid (w1.ownsRow b 5 1 v' (l ++ E).length ((l ++ E).map B)) := by
      show w1.ownsRow _ _ _ _ _ _
      rw [HEq.out, List.length_append, List.map_append]
      exact hown'
    have H2 : Hid (Fr b w w1) := ((Fr.refl b w).alloc hb _).grown (HO.out.alloc _) hgrow (by simp; omega)
    clear hown' hgrow
    go_wp2
    go_ret
    exact ⟨_, rfl, H1.out, H2.out⟩
  have k13 : ¬ (c.toNat : Int) = 13 := hne 13 h13
  by_cases hl : c.toNat < 32
  · have kl : (c.toNat : Int) < 32 := by omega
    obtain ⟨E, hE⟩ : ∃ E, Json.esc c = E := ⟨_, rfl⟩
    have HEq : Hid (E = [92, 117, 48, 48, Json.dig (c.toNat / 16), Json.dig (c.toNat % 16)]) := by
      show _ = _
      rw [← hE]
      unfold Json.esc
      rw [if_neg h34, if_neg h92, if_neg h8, if_neg h9, if_neg h10, if_neg h12, if_neg h13, if_pos hl]
    have q1 : Hid ((c.toNat : Int) / 16 = ((c.toNat / 16 : Nat) : Int)) := by show _ = _; omega
    have HD1 := hide (fun W I hI => refDigit_any (c.toNat / 16) W (by omega) I hI)
    have HD2 := hide (fun W I hI => refDigit_any (c.toNat % 16) W (by omega) I hI)
    rw [hE]
    clear hE hne
    generalize Json.dig (c.toNat / 16) = d1 at *
    generalize Json.dig (c.toNat % 16) = d2 at *
    go_enter Tryd.func41, Tryd.ntmps41
    go_wp2_with fail
    refine (HD1.out w _ q1.out).mono ?_
    rintro e w' ⟨rfl, rfl⟩
    go_wp2_with fail
    refine (HD2.out w' _ (by omega)).mono ?_
    rintro e w2 ⟨rfl, rfl⟩
    obtain ⟨w, rfl⟩ : ∃ w : World, w = w2 := ⟨_, rfl⟩
    go_wp2_with (at_builtin; refine wpList_append_own _ rfl _ _ 60 rfl b 5 i0 (.int .u8 0) 1 1 Tryd.underlying60 hi hz0 hz1 hz2 rfl (by decide) _ _ _ rfl (HO.out.alloc _) ⟨w.heap.size, 0, none⟩ 6 6 [B 92, B 117, B 48, B 48, B d1, B d2] rfl rfl (cells_new w [B 92, B 117, B 48, B 48, B d1, B d2] 5) ?c2 ?c3 ?c4 ?c5 ?_)
    case c2 => intro u hu; simp at hu; rcases hu with rfl | rfl | rfl | rfl | rfl | rfl <;> rfl
    case c3 => unfold maxLen; omega
    case c4 => omega
    case c5 => first | omega | (simp; omega)
    intro v' w1 hown' hgrow _
    have H1 : Hid (w1.ownsRow b 5 1 v' (l ++ E).length ((l ++ E).map B)) := by
      show w1.ownsRow _ _ _ _ _ _
      rw [HEq.out, List.length_append, List.map_append]
      exact hown'
    have H2 : Hid (Fr b w w1) := ((Fr.refl b w).alloc hb _).grown (HO.out.alloc _) hgrow (by simp; omega)
    clear hown' hgrow
    go_wp2
    go_ret
    exact ⟨_, rfl, H1.out, H2.out⟩
  · have kl : ¬ (c.toNat : Int) < 32 := by omega
    obtain ⟨E, hE⟩ : ∃ E, Json.esc c = E := ⟨_, rfl⟩
    have HEq : Hid (E = [c]) := by
      show _ = _
      rw [← hE]
      unfold Json.esc
      rw [if_neg h34, if_neg h92, if_neg h8, if_neg h9, if_neg h10, if_neg h12, if_neg h13, if_neg hl]
    rw [hE]
    clear hE hne
    go_enter Tryd.func41, Tryd.ntmps41
    go_wp2_with (at_builtin; refine wpList_append_own _ rfl _ _ 60 rfl b 5 i0 (.int .u8 0) 1 1 Tryd.underlying60 hi hz0 hz1 hz2 rfl (by decide) _ _ _ rfl (HO.out.alloc _) ⟨w.heap.size, 0, none⟩ 1 1 [_] rfl rfl (cell_one_new _ _ _) ?c2 ?c3 ?c4 ?c5 ?_)
    case c2 => first | rfl | (intro u hu; simp at hu; subst hu; rfl)
    case c3 => unfold maxLen; omega
    case c4 => omega
    case c5 => first | omega | (simp; omega)
    intro v' w1 hown' hgrow _
    have H1 : Hid (w1.ownsRow b 5 1 v' (l ++ E).length ((l ++ E).map B)) := by
      show w1.ownsRow _ _ _ _ _ _
      rw [HEq.out, List.length_append, List.map_append]
      exact hown'
    have H2 : Hid (Fr b w w1) := ((Fr.refl b w).alloc hb _).grown (HO.out.alloc _) hgrow (by simp; omega)
    clear hown' hgrow
    go_wp2
    go_ret
    exact ⟨_, rfl, H1.out, H2.out⟩
end Go.Proofs.YtkkgngmhdlmgnaaDoor.jw
