import Derived.Test.YtaeleccngpfngaaDoorRefAll
import Derived.Test.YtaeleccngpfngaaDoorTagMath
namespace Go.Proofs.YtaeleccngpfngaaDoor.pg
open Go.ChangeShapes Go.WideShapes Go.ChangeAt Go.RowKit Go.Proofs.YtaeleccngpfngaaDoor.common Go.Maps
attribute [local go_sem ↓] Go.wp_at_zero Go.wp_at_succ

theorem u8_is (c d : UInt8) (h : (c.toNat : Int) = (d.toNat : Int)) : c = d := UInt8.toNat_inj.1 (by omega)
theorem u8_not (c d : UInt8) (h : ¬ (c.toNat : Int) = (d.toNat : Int)) : (c == d) = false := by
  cases e : c == d with
  | false => rfl
  | true => rw [beq_iff_eq] at e; subst e; exact absurd rfl h
theorem tg_step {c : UInt8} {s s' : Bool × Bool} {o : List UInt8} (h : tstep s c = (s', o)) (r : List UInt8) : tgO s (c :: r) = o ++ tgO s' r := by
  show (tstep s c).2 ++ tgO (tstep s c).1 r = _
  rw [h]

set_option maxRecDepth 100000 in
set_option maxHeartbeats 1600000 in
theorem tags_any (s : ByteArray) (w : World) (hs : s.size ≤ 140737488355) :
    Calls Tryd.prog 10 #[.string s] w fun e w' => e = .returned (S (tgO (false, false) s.data.toList)) ∧ Below w.heap.size w w' := by
  obtain ⟨i0, hi, hz0, hz1, hz2⟩ := info_parts info8
  go_enter Tryd.func10, Tryd.ntmps10
  go_wp2_with fail
  go_loopw [3, 4, 5, 6] (fun v bw bq i wr => ∃ (k : Nat) (R : List UInt8) (b q : Bool), k ≤ s.size ∧ R.length ≤ k ∧ bw = .bool b ∧ bq = .bool q ∧ i = .int .i64 k ∧ Hid (tgO (false, false) s.data.toList = R ++ tgO (b, q) (s.data.toList.drop k)) ∧ Hid (wr.ownsRow w.heap.size 5 1 v R.length (R.map B)) ∧ Hid (Below w.heap.size w wr)) (fun _ _ _ i _ => s.size - (intOf i).toNat)
  case atStart => exact ⟨0, [], false, false, by omega, by simp, rfl, rfl, rfl, rfl, World.ownsRow_nil _ _ _ _, Below.refl _ _⟩
  case round =>
    obtain ⟨k, R, b, q, hk, hR, rfl, rfl, rfl, HE, HO, HB⟩ := hrel
    obtain ⟨aoR, nR, cR, rfl⟩ := own_form HO.out
    by_cases hlt : k < s.size
    · have hki : (k : Int) < (s.size : Int) := by omega
      have z0 : (0 : Int) ≤ (k : Int) := by omega
      rw [drop_cons s k hlt] at HE
      cases b
      · by_cases h60 : (s[k].toNat : Int) = 60
        · have HC : Hid (s[k] = 60) := u8_is _ _ (by rw [h60]; rfl)
          have HX : Hid (tgO (false, false) s.data.toList = (R ++ [60]) ++ tgO (true, q) (s.data.toList.drop (k + 1))) := by
            show _ = _
            rw [HE.out, HC.out, tg_step (show tstep (false, q) 60 = ((true, q), [60]) from by first | rfl | decide | (cases q <;> rfl))]
            simp
          go_wp2_with (at_builtin; refine wpList_append_own _ rfl _ _ 53 rfl w.heap.size 5 i0 (.int .u8 0) 1 1 Tryd.underlying53 hi hz0 hz1 hz2 rfl (by decide) _ _ _ rfl (HO.out.alloc _) ⟨wr.heap.size, 0, none⟩ 1 1 [_] rfl rfl (cell_one_new _ _ _) ?c2 ?c3 ?c4 ?c5 ?_)
          case c2 => first | rfl | (intro u hu; simp at hu; subst hu; rfl)
          case c3 => unfold maxLen; omega
          case c4 => omega
          case c5 => have := HB.out.size; first | omega | (simp; omega)
          intro v' w2 hown' hgrow _
          have R1 : Hid (w2.ownsRow w.heap.size 5 1 v' (R ++ [60]).length ((R ++ [60]).map B)) := by
            show World.ownsRow _ _ _ _ _ _ _
            rw [List.map_append, List.length_append]; exact hown'
          have R2 := hide ((HB.out.alloc HB.out.size _).grown hgrow (by have := HB.out.size; simp; omega) (own_ge HO.out))
          obtain ⟨ao2, n2, c2, rfl⟩ := own_form hown'
          clear hown' hgrow
          go_wp2_with fail
          go_roundw
          case rel => exact ⟨k + 1, R ++ [60], _, _, by omega, by simp; omega, rfl, rfl, by go_num, HX, R1, R2⟩
          case measure => simp [intOf] <;> omega
        · have HN60 : Hid ((s[k] == 60) = false) := u8_not _ _ (by intro e; exact h60 (by rw [e]; rfl))
          have HX : Hid (tgO (false, false) s.data.toList = R ++ tgO (false, q) (s.data.toList.drop (k + 1))) := by
            show _ = _
            rw [HE.out, tg_step (show tstep (false, q) s[k] = ((false, q), []) from by unfold tstep; simp [HN60.out])]
            rfl
          have e60 : (((s[k].toNat : Nat) : Int) == 60) = false := by simpa using h60
          go_wp2_with fail
          go_roundw
          case rel => exact ⟨k + 1, R, _, _, by omega, by omega, rfl, rfl, by go_num, HX, HO, HB⟩
          case measure => simp [intOf] <;> omega
      · by_cases h34 : (s[k].toNat : Int) = 34
        · cases q
          · have HC : Hid (s[k] = 34) := u8_is _ _ (by rw [h34]; rfl)
            have HX : Hid (tgO (false, false) s.data.toList = (R ++ [34]) ++ tgO (true, true) (s.data.toList.drop (k + 1))) := by
              show _ = _
              rw [HE.out, HC.out, tg_step (show tstep (true, false) 34 = ((true, true), [34]) from by first | rfl | decide | (cases q <;> rfl))]
              simp
            go_wp2_with (at_builtin; refine wpList_append_own _ rfl _ _ 53 rfl w.heap.size 5 i0 (.int .u8 0) 1 1 Tryd.underlying53 hi hz0 hz1 hz2 rfl (by decide) _ _ _ rfl (HO.out.alloc _) ⟨wr.heap.size, 0, none⟩ 1 1 [_] rfl rfl (cell_one_new _ _ _) ?c2 ?c3 ?c4 ?c5 ?_)
            case c2 => first | rfl | (intro u hu; simp at hu; subst hu; rfl)
            case c3 => unfold maxLen; omega
            case c4 => omega
            case c5 => have := HB.out.size; first | omega | (simp; omega)
            intro v' w2 hown' hgrow _
            have R1 : Hid (w2.ownsRow w.heap.size 5 1 v' (R ++ [34]).length ((R ++ [34]).map B)) := by
              show World.ownsRow _ _ _ _ _ _ _
              rw [List.map_append, List.length_append]; exact hown'
            have R2 := hide ((HB.out.alloc HB.out.size _).grown hgrow (by have := HB.out.size; simp; omega) (own_ge HO.out))
            obtain ⟨ao2, n2, c2, rfl⟩ := own_form hown'
            clear hown' hgrow
            go_wp2_with fail
            go_roundw
            case rel => exact ⟨k + 1, R ++ [34], _, _, by omega, by simp; omega, rfl, rfl, by go_num, HX, R1, R2⟩
            case measure => simp [intOf] <;> omega
          · have HC : Hid (s[k] = 34) := u8_is _ _ (by rw [h34]; rfl)
            have HX : Hid (tgO (false, false) s.data.toList = (R ++ [34]) ++ tgO (true, false) (s.data.toList.drop (k + 1))) := by
              show _ = _
              rw [HE.out, HC.out, tg_step (show tstep (true, true) 34 = ((true, false), [34]) from by first | rfl | decide | (cases q <;> rfl))]
              simp
            go_wp2_with (at_builtin; refine wpList_append_own _ rfl _ _ 53 rfl w.heap.size 5 i0 (.int .u8 0) 1 1 Tryd.underlying53 hi hz0 hz1 hz2 rfl (by decide) _ _ _ rfl (HO.out.alloc _) ⟨wr.heap.size, 0, none⟩ 1 1 [_] rfl rfl (cell_one_new _ _ _) ?c2 ?c3 ?c4 ?c5 ?_)
            case c2 => first | rfl | (intro u hu; simp at hu; subst hu; rfl)
            case c3 => unfold maxLen; omega
            case c4 => omega
            case c5 => have := HB.out.size; first | omega | (simp; omega)
            intro v' w2 hown' hgrow _
            have R1 : Hid (w2.ownsRow w.heap.size 5 1 v' (R ++ [34]).length ((R ++ [34]).map B)) := by
              show World.ownsRow _ _ _ _ _ _ _
              rw [List.map_append, List.length_append]; exact hown'
            have R2 := hide ((HB.out.alloc HB.out.size _).grown hgrow (by have := HB.out.size; simp; omega) (own_ge HO.out))
            obtain ⟨ao2, n2, c2, rfl⟩ := own_form hown'
            clear hown' hgrow
            go_wp2_with fail
            go_roundw
            case rel => exact ⟨k + 1, R ++ [34], _, _, by omega, by simp; omega, rfl, rfl, by go_num, HX, R1, R2⟩
            case measure => simp [intOf] <;> omega
        · by_cases h62 : (s[k].toNat : Int) = 62
          · cases q
            · have HC : Hid (s[k] = 62) := u8_is _ _ (by rw [h62]; rfl)
              have HX : Hid (tgO (false, false) s.data.toList = (R ++ [62]) ++ tgO (false, false) (s.data.toList.drop (k + 1))) := by
                show _ = _
                rw [HE.out, HC.out, tg_step (show tstep (true, false) 62 = ((false, false), [62]) from by first | rfl | decide | (cases q <;> rfl))]
                simp
              go_wp2_with (at_builtin; refine wpList_append_own _ rfl _ _ 53 rfl w.heap.size 5 i0 (.int .u8 0) 1 1 Tryd.underlying53 hi hz0 hz1 hz2 rfl (by decide) _ _ _ rfl (HO.out.alloc _) ⟨wr.heap.size, 0, none⟩ 1 1 [_] rfl rfl (cell_one_new _ _ _) ?c2 ?c3 ?c4 ?c5 ?_)
              case c2 => first | rfl | (intro u hu; simp at hu; subst hu; rfl)
              case c3 => unfold maxLen; omega
              case c4 => omega
              case c5 => have := HB.out.size; first | omega | (simp; omega)
              intro v' w2 hown' hgrow _
              have R1 : Hid (w2.ownsRow w.heap.size 5 1 v' (R ++ [62]).length ((R ++ [62]).map B)) := by
                show World.ownsRow _ _ _ _ _ _ _
                rw [List.map_append, List.length_append]; exact hown'
              have R2 := hide ((HB.out.alloc HB.out.size _).grown hgrow (by have := HB.out.size; simp; omega) (own_ge HO.out))
              obtain ⟨ao2, n2, c2, rfl⟩ := own_form hown'
              clear hown' hgrow
              go_wp2_with fail
              go_roundw
              case rel => exact ⟨k + 1, R ++ [62], _, _, by omega, by simp; omega, rfl, rfl, by go_num, HX, R1, R2⟩
              case measure => simp [intOf] <;> omega
            · have HC : Hid (s[k] = 62) := u8_is _ _ (by rw [h62]; rfl)
              have HX : Hid (tgO (false, false) s.data.toList = R ++ tgO (true, true) (s.data.toList.drop (k + 1))) := by
                show _ = _
                rw [HE.out, HC.out, tg_step (show tstep (true, true) 62 = ((true, true), []) from by first | rfl | decide | (cases q <;> rfl))]
                rfl
              go_wp2_with fail
              go_roundw
              case rel => exact ⟨k + 1, R, _, _, by omega, by omega, rfl, rfl, by go_num, HX, HO, HB⟩
              case measure => simp [intOf] <;> omega
          · cases q
            · have HN34 : Hid ((s[k] == 34) = false) := u8_not _ _ (by intro e; exact h34 (by rw [e]; rfl))
              have HN62 : Hid ((s[k] == 62) = false) := u8_not _ _ (by intro e; exact h62 (by rw [e]; rfl))
              have HX : Hid (tgO (false, false) s.data.toList = (R ++ [s[k]]) ++ tgO (true, false) (s.data.toList.drop (k + 1))) := by
                show _ = _
                rw [HE.out, tg_step (show tstep (true, false) s[k] = ((true, false), [s[k]]) from by unfold tstep; simp [HN34.out, HN62.out])]
                simp
              have e34 : (((s[k].toNat : Nat) : Int) == 34) = false := by simpa using h34
              have e62 : (((s[k].toNat : Nat) : Int) == 62) = false := by simpa using h62
              go_wp2_with (at_builtin; refine wpList_append_own _ rfl _ _ 53 rfl w.heap.size 5 i0 (.int .u8 0) 1 1 Tryd.underlying53 hi hz0 hz1 hz2 rfl (by decide) _ _ _ rfl (HO.out.alloc _) ⟨wr.heap.size, 0, none⟩ 1 1 [_] rfl rfl (cell_one_new _ _ _) ?c2 ?c3 ?c4 ?c5 ?_)
              case c2 => first | rfl | (intro u hu; simp at hu; subst hu; rfl)
              case c3 => unfold maxLen; omega
              case c4 => omega
              case c5 => have := HB.out.size; first | omega | (simp; omega)
              intro v' w2 hown' hgrow _
              have R1 : Hid (w2.ownsRow w.heap.size 5 1 v' (R ++ [s[k]]).length ((R ++ [s[k]]).map B)) := by
                show World.ownsRow _ _ _ _ _ _ _
                rw [List.map_append, List.length_append]; exact hown'
              have R2 := hide ((HB.out.alloc HB.out.size _).grown hgrow (by have := HB.out.size; simp; omega) (own_ge HO.out))
              obtain ⟨ao2, n2, c2, rfl⟩ := own_form hown'
              clear hown' hgrow
              go_wp2_with fail
              go_roundw
              case rel => exact ⟨k + 1, R ++ [s[k]], _, _, by omega, by simp; omega, rfl, rfl, by go_num, HX, R1, R2⟩
              case measure => simp [intOf] <;> omega
            · have HN34 : Hid ((s[k] == 34) = false) := u8_not _ _ (by intro e; exact h34 (by rw [e]; rfl))
              have HN62 : Hid ((s[k] == 62) = false) := u8_not _ _ (by intro e; exact h62 (by rw [e]; rfl))
              have HX : Hid (tgO (false, false) s.data.toList = R ++ tgO (true, true) (s.data.toList.drop (k + 1))) := by
                show _ = _
                rw [HE.out, tg_step (show tstep (true, true) s[k] = ((true, true), []) from by unfold tstep; simp [HN34.out, HN62.out])]
                rfl
              have e34 : (((s[k].toNat : Nat) : Int) == 34) = false := by simpa using h34
              have e62 : (((s[k].toNat : Nat) : Int) == 62) = false := by simpa using h62
              go_wp2_with fail
              go_roundw
              case rel => exact ⟨k + 1, R, _, _, by omega, by omega, rfl, rfl, by go_num, HX, HO, HB⟩
              case measure => simp [intOf] <;> omega
    · have hk8 : ¬ (k : Int) < (s.size : Int) := by omega
      have HR : Hid (tgO (false, false) s.data.toList = R) := by show _ = _; rw [HE.out, drop_end s k hlt, tgO_nil, List.append_nil]
      have hc := conv_own HO.out rfl
      go_wp2
      go_ret
      exact ⟨by rw [HR.out]; rfl, HB.out⟩
end Go.Proofs.YtaeleccngpfngaaDoor.pg
