import Derived.Test.YtaejlcffimkopaaDoorMeant5
namespace Go.Proofs.YtaejlcffimkopaaDoor.pg
open Go.ChangeShapes Go.WideShapes Go.ChangeAt Go.RowKit Go.Proofs.YtaejlcffimkopaaDoor.common
attribute [local go_sem ↓] Go.wp_at_zero Go.wp_at_succ

set_option maxRecDepth 100000 in
set_option maxHeartbeats 1600000 in
theorem refUnescape_any (s : ByteArray) (w : World) (hs : 6 * s.size + 6 ≤ 140737488355328) :
    Calls Tryd.prog 67 #[.string s] w fun x w' => Below w.heap.size w w' ∧
      ((∃ t, Pg.unesc s.data.toList = some t ∧ x = .returned (.tuple #[S t, .int .i64 0])) ∨
        (Pg.unesc s.data.toList = none ∧ x = .returned (.tuple #[.string ⟨#[]⟩, .int .i64 2]))) := by
  obtain ⟨i0, hi, hz0, hz1, hz2⟩ := info_parts info8
  have HS := hide hs
  clear hs
  go_enter Tryd.func67, Tryd.ntmps67
  go_wp2_with fail
  go_loopw [4, 5] (fun v i wr => ∃ (k : Nat) (R : List UInt8), k ≤ s.size ∧ i = .int .i64 k ∧ R.length ≤ k ∧ Hid (Pg.mean s.data.toList = R ++ Pg.mean (s.data.toList.drop k)) ∧ Hid (wr.ownsRow w.heap.size 5 1 v R.length (R.map B)) ∧ Hid (Below w.heap.size w wr)) (fun _ i _ => s.size - (intOf i).toNat)
  case atStart => exact ⟨0, [], by omega, rfl, by simp, rfl, World.ownsRow_nil _ _ _ _, Below.refl _ _⟩
  case round =>
    obtain ⟨k, R, hk, rfl, hR, hmean, hown, hb⟩ := hrel
    by_cases hlt : k < s.size
    · have hki : (k : Int) < (s.size : Int) := by omega
      have hne : Hid (s.data.toList.drop k ≠ []) := by
        intro e
        have := congrArg List.length e
        rw [List.length_drop, len_list, List.length_nil] at this
        omega
      have hS := HS.out
      go_wp2_with fail
      refine (meant_any s k _ hlt (by omega)).mono ?_
      rintro x w1 ⟨hb1, rfl⟩
      obtain ⟨m1, m2, m3⟩ := mean_step _ hne.out
      rw [List.length_drop, len_list] at m3
      have HM := hide m1
      rw [List.drop_drop] at HM
      clear m1
      generalize (meantOf (s.data.toList.drop k)).1 = c at *
      generalize (meantOf (s.data.toList.drop k)).2 = n at *
      have HW := hide (own_below hown.out hb1)
      have HB := hide (hb.out.trans (hb1.mono hb.out.size))
      clear hb1
      go_wp2_with (at_builtin; refine wpList_append_own _ rfl _ _ 56 rfl w.heap.size 5 i0 (.int .u8 0) 1 1 Tryd.underlying56 hi hz0 hz1 hz2 rfl (by decide) _ _ _ rfl (HW.out.alloc _) ⟨w1.heap.size, 0, none⟩ 1 1 [_] rfl rfl (cell_one_new _ _ _) ?c2 ?c3 ?c4 ?c5 ?_)
      case c2 => first | rfl | (intro u hu; simp at hu; subst hu; rfl)
      case c3 => unfold maxLen; omega
      case c4 => omega
      case c5 => have := HB.out.size; first | omega | (simp; omega)
      intro v' w2 hown' hgrow _
      have R1 : Hid (w2.ownsRow w.heap.size 5 1 v' (R ++ [c]).length ((R ++ [c]).map B)) := by
        show World.ownsRow _ _ _ _ _ _ _
        rw [List.map_append, List.length_append]; exact hown'
      have R2 := hide ((HB.out.alloc HB.out.size _).grown hgrow (by have := HB.out.size; simp; omega) (own_ge HW.out))
      clear hown' hgrow
      go_wp2
      go_roundw
      case rel => exact ⟨k + n, R ++ [c], by omega, by go_num, by simp; omega, by show _ = _; rw [hmean.out, HM.out]; simp, R1, R2⟩
      case measure => simp [intOf] <;> omega
    · have hk8 : ¬ (k : Int) < (s.size : Int) := by omega
      have hm : Pg.mean s.data.toList = R := by
        rw [hmean.out, drop_end s k hlt, Pg.mean_nil, List.append_nil]
      have HU := hide (Pg.unesc_mean s.data.toList)
      rw [hm] at HU
      have hc := conv_own hown.out rfl
      have HR : Hid (R.length ≤ s.size) := by show _ ≤ _; omega
      clear hm
      go_wp2_with fail
      obtain ⟨Y, hY⟩ : ∃ Y : ByteArray, (⟨R.toArray⟩ : ByteArray) = Y := ⟨_, rfl⟩
      have HYl : Hid (Y.data.toList = R) := by show _ = _; rw [← hY]
      have HYs : Hid (Y.size = R.length) := by show _ = _; rw [← hY, str_size]
      unfold S
      rw [hY]
      clear hY hc
      have hS := HS.out
      refine (refEscape_any Y _ (by have := HYs.out; have := HR.out; omega)).mono ?_
      rintro x w1 ⟨rfl, hb1⟩
      have HB := hide (hb.out.trans (hb1.mono hb.out.size))
      clear hb1
      rw [HYl.out]
      obtain ⟨Z, hZ⟩ : ∃ Z : ByteArray, (⟨(Pg.esc R).toArray⟩ : ByteArray) = Z := ⟨_, rfl⟩
      have HZl : Hid (Z.data.toList = Pg.esc R) := by show _ = _; rw [← hZ]
      unfold S
      rw [hZ]
      clear hZ
      by_cases he : Z = s
      · have hbq : (Z.toList == s.toList) = true := eq_list he
        have HP : Hid (Pg.unesc s.data.toList = some R) := by show _ = _; rw [HU.out, if_pos (by rw [← HZl.out, he])]
        clear he
        go_wp2
        go_ret2
        exact ⟨HB.out, Or.inl ⟨R, HP.out, by rw [← HYl.out]; rfl⟩⟩
      · have hbq : (Z.toList == s.toList) = false := ne_list he
        have HP : Hid (Pg.unesc s.data.toList = none) := by show _ = _; rw [HU.out, if_neg (by rw [← HZl.out]; exact fun h => he (ba_ext h))]
        clear he
        go_wp2
        go_ret2
        exact ⟨HB.out, Or.inr ⟨HP.out, rfl⟩⟩
end Go.Proofs.YtaejlcffimkopaaDoor.pg
