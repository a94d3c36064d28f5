import Derived.Test.YtcpflfpgnbihiaaGreatDoorMUnescWalks
import Derived.Test.YtcpflfpgnbihiaaGreatDoorMByteHex
namespace Go.Proofs.YtcpflfpgnbihiaaGreatDoor.pctw
open Go.ChangeShapes Go.WideShapes Go.ChangeAt Go.RowKit Go.Proofs.YtcpflfpgnbihiaaGreatDoor.common
attribute [local go_sem ↓] Go.wp_at_zero Go.wp_at_succ

theorem byte_of (a b : Nat) (ha : a < 16) (hb : b < 16) : (16 * (a : Int) + (b : Int)) % 256 = ((16 * a + b : Nat) : Int) := by omega

set_option maxRecDepth 100000 in
set_option maxHeartbeats 1600000 in
theorem refUnescape_any (s : ByteArray) (plus : Bool) (w : World) (hs : s.size ≤ reachBytes) :
    Calls Tryz.prog 74 #[.string s, .bool plus] w fun x w' => Below w.heap.size w w' ∧
      ((∃ t, Pct.unesc plus s.data.toList = some t ∧ x = .returned (.tuple #[S t, .int .i64 0])) ∨
        (Pct.unesc plus s.data.toList = none ∧ x = .returned (.tuple #[.string ⟨#[]⟩, .int .i64 2]))) := by
  unfold reachBytes at hs
  obtain ⟨i0, hi, hz0, hz1, hz2⟩ := info_parts info8
  go_enter Tryz.func74, Tryz.ntmps74
  go_wp2_with fail
  go_loopw [6, 7] (fun v i wr => ∃ (k : Nat) (R : List UInt8), i = .int .i64 k ∧ Pct.Read plus s.data.toList k R ∧ R.length ≤ k ∧ wr.ownsRow w.heap.size 5 1 v R.length (R.map B) ∧ Below w.heap.size w wr) (fun _ i _ => s.size - (intOf i).toNat)
  case atStart => exact ⟨0, [], rfl, Pct.read_zero _ _, Nat.le_refl _, World.ownsRow_nil _ _ _ _, Below.refl _ _⟩
  case round =>
    obtain ⟨k, R, rfl, hrd, hR, hown, hnx⟩ := hrel
    have hkl := hrd.1
    rw [len_list] at hkl
    have hsz := hnx.size
    by_cases hlt : k < s.size
    · have hki : (k : Int) < (s.size : Int) := by omega
      have hgd := hide (getD_list s k hlt)
      have HLL := hide (len_list s)
      have HRD := hide hrd
      clear hrd
      have hcl := s[k].toNat_lt
      by_cases hp : s[k].toNat = 37
      · have hpi : ((s[k].toNat : Nat) : Int) = 37 := by omega
        have hc37 : Hid (s.data.toList.getD k 0 = 37) := by show _ = _; rw [hgd.out]; exact UInt8.toNat_inj.1 hp
        by_cases h2 : k + 2 < s.size
        · have h2i : ¬ ((k : Int) + 2 ≥ (s.size : Int)) := by omega
          have h2j : ((k : Int) + 2 < (s.size : Int)) := by omega
          have h1j : ((k : Int) + 1 < (s.size : Int)) := by omega
          have i1 : ((k : Int) + 1).toNat = k + 1 := by omega
          have i2 : ((k : Int) + 2).toNat = k + 2 := by omega
          have l3 : k + 1 < s.size := by omega
          have g1 := hide (getD_list s (k + 1) l3)
          have g2 := hide (getD_list s (k + 2) h2)
          have HR2 := hide (fun ha hb => Pct.read_pct HRD.out (by rw [HLL.out]; exact h2) hc37.out ha hb)
          have HRB := hide (fun hn => Pct.read_bad HRD.out (by rw [HLL.out]; exact h2) hc37.out hn)
          rw [g1.out, g2.out] at HR2 HRB
          have HD1 := hide (fun W => refHexValue_any s[k + 1] W)
          have HD2 := hide (fun W => refHexValue_any s[k + 2] W)
          generalize Pct.hexv s[k + 1] = a at *
          generalize Pct.hexv s[k + 2] = b at *
          by_cases hab : a < 16 ∧ b < 16
          · have HR3 := hide (HR2.out hab.1 hab.2)
            have HV : Hid (Value.int .u8 ((16 * a + b : Nat) : Int) = B (UInt8.ofNat (16 * a + b))) := by
              show _ = _; unfold B; rw [toNat_of (by omega)]
            rw [if_pos hab.1] at HD1
            rw [if_pos hab.2] at HD2
            have hlt2 := hab
            have hby := byte_of a b hab.1 hab.2
            have hal : (a : Int) < 16 ∧ (b : Int) < 16 := by omega
            have ha0 : ¬ (a : Int) < 0 := by omega
            have hb0 : ¬ (b : Int) < 0 := by omega
            clear HR2 HRB hab
            go_wp2_with fail
            refine (HD1.out _).mono ?_
            rintro x w' ⟨rfl, rfl⟩
            go_wp2_with fail
            refine (HD2.out _).mono ?_
            rintro x w' ⟨rfl, rfl⟩
            obtain ⟨wr, rfl⟩ : ∃ wr : World, wr = w' := ⟨_, rfl⟩
            go_wp2_with (at_builtin; refine wpList_append_own _ rfl _ _ 80 rfl w.heap.size 5 i0 (.int .u8 0) 1 1 Tryz.underlying80 hi hz0 hz1 hz2 rfl (by decide) _ _ _ rfl (hown.alloc _) ⟨wr.heap.size, 0, none⟩ 1 1 [_] rfl rfl (cell_one_new _ _ _) ?c2 ?c3 ?c4 ?c5 ?_)
            try (case c1 => exact cell_one_new _ _ _)
            case c2 => first | rfl | (intro u hu; simp at hu; subst hu; rfl)
            case c3 => unfold maxLen; omega
            case c4 => omega
            case c5 => first | omega | (simp; omega)
            intro v' w1 hown' hgrow _
            have R1 : w1.ownsRow w.heap.size 5 1 v' (R.length + 1) ((R ++ [UInt8.ofNat (16 * a + b)]).map B) := by
              rw [List.map_append, List.map_cons, ← HV.out]; exact hown'
            have R2 : Below w.heap.size w w1 := (hnx.alloc hsz _).grown hgrow (by simp; omega) (own_ge hown)
            clear hown' hgrow hown hnx
            have H1 := hide R1
            have H2 := hide R2
            clear R1 R2
            go_wp2
            go_roundw
            case rel => exact ⟨k + 3, _, by go_num, HR3.out, by simp; omega, by rw [List.length_append]; exact H1.out, H2.out⟩
            case measure => simp [intOf]; omega
          · have HN0 : Hid (Pct.unesc plus s.data.toList = none) := HRB.out hab
            clear HR2 HRB
            by_cases ha : a < 16
            · have hbn : ¬ b < 16 := fun h => hab ⟨ha, h⟩
              rw [if_pos ha] at HD1
              rw [if_neg hbn] at HD2
              have ha0 : ¬ (a : Int) < 0 := by omega
              have H2 := hide hnx
              clear hown hnx hi hz0 hz1 hz2
              go_wp2_with fail
              refine (HD1.out _).mono ?_
              rintro x w' ⟨rfl, rfl⟩
              go_wp2_with fail
              refine (HD2.out _).mono ?_
              rintro x w' ⟨rfl, rfl⟩
              go_wp2_with fail
              go_ret2
              exact ⟨H2.out, Or.inr ⟨HN0.out, rfl⟩⟩
            · rw [if_neg ha] at HD1
              have H2 := hide hnx
              clear hown hnx hi hz0 hz1 hz2
              generalize (if b < 16 then (b : Int) else -1) = bb at *
              go_wp2_with fail
              refine (HD1.out _).mono ?_
              rintro x w' ⟨rfl, rfl⟩
              go_wp2_with fail
              refine (HD2.out _).mono ?_
              rintro x w' ⟨rfl, rfl⟩
              go_wp2_with fail
              go_ret2
              exact ⟨H2.out, Or.inr ⟨HN0.out, rfl⟩⟩
        · have h2i : ((k : Int) + 2 ≥ (s.size : Int)) := by omega
          have H2 := hide hnx
          have HN : Hid (Pct.unesc plus s.data.toList = none) := Pct.read_short HRD.out (by rw [HLL.out]; exact hlt) hc37.out (by rw [HLL.out]; omega)
          clear hown hnx hi hz0 hz1 hz2
          go_wp2_with fail
          go_ret2
          exact ⟨H2.out, Or.inr ⟨HN.out, rfl⟩⟩
      · have hpi : ¬ ((s[k].toNat : Nat) : Int) = 37 := by omega
        have hc37 : Hid (s.data.toList.getD k 0 ≠ 37) := by show _ ≠ _; rw [hgd.out]; intro e; apply hp; rw [e]; rfl
        by_cases hr : 33 ≤ s[k].toNat ∧ s[k].toNat ≤ 126
        · have hj1 : ¬ (((s[k].toNat : Nat) : Int) < 33) := by omega
          have hj2 : ¬ (126 < ((s[k].toNat : Nat) : Int)) := by omega
          have HR2 := hide (Pct.read_one HRD.out (by rw [HLL.out]; exact hlt) hc37.out (by rw [hgd.out]; omega))
          by_cases hq : plus = true ∧ s[k].toNat = 43
          · obtain ⟨rfl, hq⟩ := hq
            have hqi : ((s[k].toNat : Nat) : Int) = 43 := by omega
            have hc43 : Hid (s[k] = 43) := UInt8.toNat_inj.1 hq
            rw [hgd.out, hc43.out] at HR2
            go_wp2_with (at_builtin; refine wpList_append_own _ rfl _ _ 80 rfl w.heap.size 5 i0 (.int .u8 0) 1 1 Tryz.underlying80 hi hz0 hz1 hz2 rfl (by decide) _ _ _ rfl (hown.alloc _) ⟨wr.heap.size, 0, none⟩ 1 1 [.int .u8 32] rfl rfl ?c1 ?c2 ?c3 ?c4 ?c5 ?_)
            try (case c1 => exact cell_one_new _ _ _)
            case c2 => first | rfl | (intro u hu; simp at hu; subst hu; rfl)
            case c3 => unfold maxLen; omega
            case c4 => omega
            case c5 => first | omega | (simp; omega)
            intro v' w1 hown' hgrow _
            have R1 : w1.ownsRow w.heap.size 5 1 v' (R.length + 1) ((R ++ [32]).map B) := by
              rw [List.map_append, List.map_cons]; exact hown'
            have R2 : Below w.heap.size w w1 := (hnx.alloc hsz _).grown hgrow (by simp; omega) (own_ge hown)
            clear hown' hgrow hown hnx
            have H1 := hide R1
            have H2 := hide R2
            clear R1 R2
            go_wp2
            go_roundw
            case rel => exact ⟨k + 1, _, by go_num, HR2.out, by simp; omega, by rw [List.length_append]; exact H1.out, H2.out⟩
            case measure => simp [intOf]; omega
          · have e1 : Pct.one plus s[k] = s[k] := by unfold Pct.one; rw [if_neg (fun h => hq ⟨h.1, by rw [h.2]; rfl⟩)]
            rw [hgd.out, e1] at HR2
            clear e1
            cases plus with
            | true =>
              have hqi : ¬ ((s[k].toNat : Nat) : Int) = 43 := fun h => hq ⟨rfl, by omega⟩
              go_wp2_with (at_builtin; refine wpList_append_own _ rfl _ _ 80 rfl w.heap.size 5 i0 (.int .u8 0) 1 1 Tryz.underlying80 hi hz0 hz1 hz2 rfl (by decide) _ _ _ rfl (hown.alloc _) ⟨wr.heap.size, 0, none⟩ 1 1 [_] rfl rfl (cell_one_new _ _ _) ?c2 ?c3 ?c4 ?c5 ?_)
              try (case c1 => exact cell_one_new _ _ _)
              case c2 => first | rfl | (intro u hu; simp at hu; subst hu; rfl)
              case c3 => unfold maxLen; omega
              case c4 => omega
              case c5 => first | omega | (simp; omega)
              intro v' w1 hown' hgrow _
              have R1 : w1.ownsRow w.heap.size 5 1 v' (R.length + 1) ((R ++ [s[k]]).map B) := by
                rw [List.map_append, List.map_cons]; exact hown'
              have R2 : Below w.heap.size w w1 := (hnx.alloc hsz _).grown hgrow (by simp; omega) (own_ge hown)
              clear hown' hgrow hown hnx
              have H1 := hide R1
              have H2 := hide R2
              clear R1 R2
              go_wp2
              go_roundw
              case rel => exact ⟨k + 1, _, by go_num, HR2.out, by simp; omega, by rw [List.length_append]; exact H1.out, H2.out⟩
              case measure => simp [intOf]; omega
            | false =>
              go_wp2_with (at_builtin; refine wpList_append_own _ rfl _ _ 80 rfl w.heap.size 5 i0 (.int .u8 0) 1 1 Tryz.underlying80 hi hz0 hz1 hz2 rfl (by decide) _ _ _ rfl (hown.alloc _) ⟨wr.heap.size, 0, none⟩ 1 1 [_] rfl rfl (cell_one_new _ _ _) ?c2 ?c3 ?c4 ?c5 ?_)
              try (case c1 => exact cell_one_new _ _ _)
              case c2 => first | rfl | (intro u hu; simp at hu; subst hu; rfl)
              case c3 => unfold maxLen; omega
              case c4 => omega
              case c5 => first | omega | (simp; omega)
              intro v' w1 hown' hgrow _
              have R1 : w1.ownsRow w.heap.size 5 1 v' (R.length + 1) ((R ++ [s[k]]).map B) := by
                rw [List.map_append, List.map_cons]; exact hown'
              have R2 : Below w.heap.size w w1 := (hnx.alloc hsz _).grown hgrow (by simp; omega) (own_ge hown)
              clear hown' hgrow hown hnx
              have H1 := hide R1
              have H2 := hide R2
              clear R1 R2
              go_wp2
              go_roundw
              case rel => exact ⟨k + 1, _, by go_num, HR2.out, by simp; omega, by rw [List.length_append]; exact H1.out, H2.out⟩
              case measure => simp [intOf]; omega
        · have HN0 : Hid (Pct.unesc plus s.data.toList = none) := Pct.read_out HRD.out (by rw [HLL.out]; exact hlt) (by rw [hgd.out]; omega)
          by_cases hj1 : ((s[k].toNat : Nat) : Int) < 33
          · have H2 := hide hnx
            have HN : Hid (Pct.unesc plus s.data.toList = none) := HN0.out
            clear hown hnx hi hz0 hz1 hz2
            go_wp2_with fail
            go_ret2
            exact ⟨H2.out, Or.inr ⟨HN.out, rfl⟩⟩
          · have hj2 : (126 < ((s[k].toNat : Nat) : Int)) := by omega
            have H2 := hide hnx
            have HN : Hid (Pct.unesc plus s.data.toList = none) := HN0.out
            clear hown hnx hi hz0 hz1 hz2
            go_wp2_with fail
            go_ret2
            exact ⟨H2.out, Or.inr ⟨HN.out, rfl⟩⟩
    · obtain rfl : k = s.size := by omega
      have HRE : Hid (Pct.unesc plus s.data.toList = some R) := by
        show _ = _
        apply Pct.read_end
        rw [len_list]; exact hrd
      have hconv := conv_own hown rfl
      have H2 := hide hnx
      clear hown hnx hrd hi hz0 hz1 hz2
      go_wp2
      go_ret2
      exact ⟨H2.out, Or.inl ⟨R, HRE.out, rfl⟩⟩

end Go.Proofs.YtcpflfpgnbihiaaGreatDoor.pctw
