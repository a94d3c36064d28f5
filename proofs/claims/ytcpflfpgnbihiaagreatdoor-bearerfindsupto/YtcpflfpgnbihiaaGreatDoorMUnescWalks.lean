import Derived.Test.YtcpflfpgnbihiaaGreatDoorMByteP
import Derived.Deep.QuietTactic
import Derived.Deep.DrawnRows
namespace Go.Proofs.YtcpflfpgnbihiaaGreatDoor.pctw
open Go.ChangeShapes Go.WideShapes Go.ChangeAt Go.RowKit Go.Proofs.YtcpflfpgnbihiaaGreatDoor.common
attribute [local go_sem ↓] Go.wp_at_zero Go.wp_at_succ

theorem or16 : ∀ a b : Fin 16, bits .or .u8 ((a.val : Int) * 16) (b.val : Int) = ((16 * a.val + b.val : Nat) : Int) := by decide +kernel

set_option maxHeartbeats 800000 in
theorem escapeAt_any (s : ByteArray) (k : Nat) (w : World) (hs : s.size ≤ reachBytes) (hk : k < s.size) :
    Calls Tryz.prog 77 #[.string s, .int .i64 k] w fun e w' => w' = w ∧
      ((k + 2 < s.size ∧ Pct.hexv (s.data.toList.getD (k + 1) 0) < 16 ∧ Pct.hexv (s.data.toList.getD (k + 2) 0) < 16 ∧
          e = .returned (.tuple #[.int .u8 ((16 * Pct.hexv (s.data.toList.getD (k + 1) 0) + Pct.hexv (s.data.toList.getD (k + 2) 0) : Nat) : Int), .bool true])) ∨
        (¬ (k + 2 < s.size ∧ Pct.hexv (s.data.toList.getD (k + 1) 0) < 16 ∧ Pct.hexv (s.data.toList.getD (k + 2) 0) < 16) ∧ ∃ b, e = .returned (.tuple #[.int .u8 b, .bool false]))) := by
  unfold reachBytes at hs
  go_enter Tryz.func77, Tryz.ntmps77
  by_cases h : k + 2 < s.size
  · have hi : ¬ ((s.size : Int) - (k : Int) < 3) := by omega
    have g1 := getD_list s (k + 1) (by omega)
    have g2 := getD_list s (k + 2) h
    have i1 : ((k : Int) + 1).toNat = k + 1 := by omega
    have i2 : ((k : Int) + 2).toNat = k + 2 := by omega
    have l1 : (k : Int) + 1 < (s.size : Int) := by omega
    have l2 : (k : Int) + 2 < (s.size : Int) := by omega
    have l3 : k + 1 < s.size := by omega
    rw [g1, g2]
    clear g1 g2
    have H := hide h
    go_wp2_with fail
    refine (digitValue_any s[k + 1] w).mono ?_
    rintro e w1 ⟨rfl, ⟨h1, rfl⟩ | ⟨h1, rfl⟩⟩
    all_goals
      have H1 := hide h1
      go_wp2_with fail
      refine (digitValue_any s[k + 2] w1).mono ?_
      rintro e w2 ⟨rfl, ⟨h2, rfl⟩ | ⟨h2, rfl⟩⟩
    all_goals
      have H2 := hide h2
      go_wp2_with fail
    · go_ret2
      refine ⟨rfl, Or.inl ⟨H.out, H1.out, H2.out, ?_⟩⟩
      have := or16 ⟨_, H1.out⟩ ⟨_, H2.out⟩
      simp only [] at this
      refine congrArg Ending.returned (congrArg Value.tuple ?_)
      simp only [Array.getD_eq_getD_getElem?]
      simp
      exact this
    all_goals
      go_ret2
      refine ⟨rfl, Or.inr ⟨fun hh => ?_, _, rfl⟩⟩
      first
        | exact absurd hh.2.1 H1.out
        | exact absurd hh.2.2 H2.out
  · have hi : ((s.size : Int) - (k : Int) < 3) := by omega
    have H := hide h
    go_wp2_with fail
    go_ret2
    exact ⟨rfl, Or.inr ⟨fun hh => H.out hh.1, _, rfl⟩⟩

/-- the refusal of a text lies in its variable -/
abbrev X (a : Addr) : Value := .iface 149 (.pointer (some a))
def Txt (w : World) (a : Addr) : Prop := w.cell? ⟨0, 0, none⟩ = some (X a)
theorem Txt.below {w w' : World} {a : Addr} (h : Txt w a) (hb : Below w.heap.size w w') : Txt w' a := by
  unfold Txt
  rw [← h]
  exact hb.cell (World.block_lt_of_cell? w _ h)

set_option maxRecDepth 100000 in
set_option maxHeartbeats 1600000 in
theorem unescape_any (s : ByteArray) (plus : Bool) (w : World) (hs : s.size ≤ reachBytes) (ea : Addr) (he : Txt w ea) :
    Calls Tryz.prog 61 #[.string s, .bool plus] w fun x w' => Below w.heap.size w w' ∧
      ((∃ t, Pct.unesc plus s.data.toList = some t ∧ x = .returned (.tuple #[S t, .nilIface])) ∨
        (Pct.unesc plus s.data.toList = none ∧ x = .returned (.tuple #[.string ⟨#[]⟩, X ea]))) := by
  have HS := hide hs
  unfold reachBytes at hs
  have HE := hide he
  clear he
  obtain ⟨i0, hi, hz0, hz1, hz2⟩ := info_parts info8
  go_enter Tryz.func61, Tryz.ntmps61
  go_wp2_with (refine wpList_make_own _ rfl _ _ 80 rfl w.heap.size 5 i0 (.int .u8 0) 1 Tryz.underlying80 hi hz0 hz1 .i64 .i64 (s.size : Int) s.size ?c1 ?c2 ?c3 ?c4 ?c5 ?c6 ?_)
  case c1 => rfl
  case c2 => rfl
  case c3 => rfl
  case c4 => rw [hz2]; omega
  case c5 => unfold maxLen; omega
  case c6 => omega
  intro w1 hown hgrow
  have hb0 := (Below.refl w.heap.size w).grown hgrow (Nat.le_refl _) (fun k e => by cases e)
  clear hgrow
  go_wp2_with fail
  go_loopw [6, 7] (fun v i wr => ∃ (k : Nat) (R : List UInt8), i = .int .i64 k ∧ Pct.Read plus s.data.toList k R ∧ R.length ≤ k ∧ wr.ownsRow w.heap.size 5 1 v R.length (R.map B) ∧ Below w.heap.size w wr) (fun _ i _ => s.size - (intOf i).toNat)
  case atStart => exact ⟨0, [], rfl, Pct.read_zero _ _, Nat.le_refl _, hown, hb0⟩
  case round =>
    clear hown hb0
    obtain ⟨k, R, rfl, hrd, hR, hown, hnx⟩ := hrel
    have hkl := hrd.1
    rw [len_list] at hkl
    have hsz := hnx.size
    by_cases hlt : k < s.size
    · have hki : (k : Int) < (s.size : Int) := by omega
      have hgd := hide (getD_list s k hlt)
      have HLL := hide (len_list s)
      have HRD := hide hrd
      clear hrd
      have hcl := s[k].toNat_lt
      by_cases hp : s[k].toNat = 37
      · have hpi : ((s[k].toNat : Nat) : Int) = 37 := by omega
        have hc37 : Hid (s.data.toList.getD k 0 = 37) := by show _ = _; rw [hgd.out]; exact UInt8.toNat_inj.1 hp
        go_wp2_with fail
        refine (escapeAt_any s k wr HS.out hlt).mono ?_
        rintro x w' ⟨rfl, ⟨h2, ha, hb, rfl⟩ | ⟨hno, b, rfl⟩⟩
        · have HA := hide ha
          have HB := hide hb
          have HV : Hid (Value.int .u8 ((16 * Pct.hexv (s.data.toList.getD (k + 1) 0) + Pct.hexv (s.data.toList.getD (k + 2) 0) : Nat) : Int) = B (UInt8.ofNat (16 * Pct.hexv (s.data.toList.getD (k + 1) 0) + Pct.hexv (s.data.toList.getD (k + 2) 0)))) := by
            show _ = _; unfold B; rw [toNat_of (by omega)]
          have HR2 := hide (Pct.read_pct HRD.out (by rw [HLL.out]; exact h2) hc37.out ha hb)
          have hvl : 16 * Pct.hexv (s.data.toList.getD (k + 1) 0) + Pct.hexv (s.data.toList.getD (k + 2) 0) < 256 := by omega
          clear ha hb HA HB
          generalize 16 * Pct.hexv (s.data.toList.getD (k + 1) 0) + Pct.hexv (s.data.toList.getD (k + 2) 0) = y at *
          obtain ⟨wr, rfl⟩ : ∃ wr : World, wr = w' := ⟨_, rfl⟩
          go_wp2_with (at_builtin; refine wpList_append_own _ rfl _ _ 80 rfl w.heap.size 5 i0 (.int .u8 0) 1 1 Tryz.underlying80 hi hz0 hz1 hz2 rfl (by decide) _ _ _ rfl (hown.alloc _) ⟨wr.heap.size, 0, none⟩ 1 1 [.int .u8 (y : Int)] rfl rfl ?c1 ?c2 ?c3 ?c4 ?c5 ?_)
          try (case c1 => exact cell_one_new _ _ _)
          case c2 => first | rfl | (intro u hu; simp at hu; subst hu; rfl)
          case c3 => unfold maxLen; omega
          case c4 => omega
          case c5 => first | omega | (simp; omega)
          intro v' w1 hown' hgrow _
          have R1 : w1.ownsRow w.heap.size 5 1 v' (R.length + 1) ((R ++ [UInt8.ofNat y]).map B) := by
            rw [List.map_append, List.map_cons, ← HV.out]; exact hown'
          have R2 : Below w.heap.size w w1 := (hnx.alloc hsz _).grown hgrow (by simp; omega) (own_ge hown)
          clear hown' hgrow hown hnx
          have H1 := hide R1
          have H2 := hide R2
          clear R1 R2
          go_wp2
          go_roundw
          case rel => exact ⟨k + 3, _, by go_num, HR2.out, by simp; omega, by rw [List.length_append]; exact H1.out, H2.out⟩
          case measure => simp [intOf]; omega
        · obtain ⟨wr, rfl⟩ : ∃ wr : World, wr = w' := ⟨_, rfl⟩
          have HNO := hide hno
          clear hno
          have ce : wr.cell? ⟨0, 0, none⟩ = some (X ea) := HE.out.below hnx
          have H2 := hide hnx
          have HN : Hid (Pct.unesc plus s.data.toList = none) := by
            by_cases h2 : k + 2 < s.size
            · exact Pct.read_bad HRD.out (by rw [HLL.out]; exact h2) hc37.out (fun h => HNO.out ⟨h2, h.1, h.2⟩)
            · exact Pct.read_short HRD.out (by rw [HLL.out]; exact hlt) hc37.out (by rw [HLL.out]; omega)
          clear hown hnx hi hz0 hz1 hz2
          go_wp2_with fail
          go_region
          go_wp2
          go_ret2
          exact ⟨H2.out.drew, Or.inr ⟨HN.out, rfl⟩⟩
      · have hpi : ¬ ((s[k].toNat : Nat) : Int) = 37 := by omega
        have hc37 : Hid (s.data.toList.getD k 0 ≠ 37) := by show _ ≠ _; rw [hgd.out]; intro e; apply hp; rw [e]; rfl
        by_cases hq : s[k].toNat = 43
        · have hqi : ((s[k].toNat : Nat) : Int) = 43 := by omega
          have hc43 : Hid (s[k] = 43) := UInt8.toNat_inj.1 hq
          have HR2 := hide (Pct.read_one HRD.out (by rw [HLL.out]; exact hlt) hc37.out (by rw [hgd.out, hq]; decide))
          rw [hgd.out, hc43.out] at HR2
          cases plus with
          | true =>
            go_wp2_with (at_builtin; refine wpList_append_own _ rfl _ _ 80 rfl w.heap.size 5 i0 (.int .u8 0) 1 1 Tryz.underlying80 hi hz0 hz1 hz2 rfl (by decide) _ _ _ rfl (hown.alloc _) ⟨wr.heap.size, 0, none⟩ 1 1 [.int .u8 32] rfl rfl ?c1 ?c2 ?c3 ?c4 ?c5 ?_)
            try (case c1 => exact cell_one_new _ _ _)
            case c2 => first | rfl | (intro u hu; simp at hu; subst hu; rfl)
            case c3 => unfold maxLen; omega
            case c4 => omega
            case c5 => first | omega | (simp; omega)
            intro v' w1 hown' hgrow _
            have R1 : w1.ownsRow w.heap.size 5 1 v' (R.length + 1) ((R ++ [32]).map B) := by
              rw [List.map_append, List.map_cons]; exact hown'
            have R2 : Below w.heap.size w w1 := (hnx.alloc hsz _).grown hgrow (by simp; omega) (own_ge hown)
            clear hown' hgrow hown hnx
            have H1 := hide R1
            have H2 := hide R2
            clear R1 R2
            go_wp2
            go_roundw
            case rel => exact ⟨k + 1, _, by go_num, HR2.out, by simp; omega, by rw [List.length_append]; exact H1.out, H2.out⟩
            case measure => simp [intOf]; omega
          | false =>
            have hj1 : (33 : Int) ≤ ((s[k].toNat : Nat) : Int) := by omega
            have hj2 : ((s[k].toNat : Nat) : Int) ≤ 126 := by omega
            go_wp2_with (at_builtin; refine wpList_append_own _ rfl _ _ 80 rfl w.heap.size 5 i0 (.int .u8 0) 1 1 Tryz.underlying80 hi hz0 hz1 hz2 rfl (by decide) _ _ _ rfl (hown.alloc _) ⟨wr.heap.size, 0, none⟩ 1 1 [.int .u8 43] rfl rfl ?c1 ?c2 ?c3 ?c4 ?c5 ?_)
            try (case c1 => exact cell_one_new _ _ _)
            case c2 => first | rfl | (intro u hu; simp at hu; subst hu; rfl)
            case c3 => unfold maxLen; omega
            case c4 => omega
            case c5 => first | omega | (simp; omega)
            intro v' w1 hown' hgrow _
            have R1 : w1.ownsRow w.heap.size 5 1 v' (R.length + 1) ((R ++ [43]).map B) := by
              rw [List.map_append, List.map_cons]; exact hown'
            have R2 : Below w.heap.size w w1 := (hnx.alloc hsz _).grown hgrow (by simp; omega) (own_ge hown)
            clear hown' hgrow hown hnx
            have H1 := hide R1
            have H2 := hide R2
            clear R1 R2
            go_wp2
            go_roundw
            case rel => exact ⟨k + 1, _, by go_num, HR2.out, by simp; omega, by rw [List.length_append]; exact H1.out, H2.out⟩
            case measure => simp [intOf]; omega
        · have hqi : ¬ ((s[k].toNat : Nat) : Int) = 43 := by omega
          by_cases hr : 33 ≤ s[k].toNat ∧ s[k].toNat ≤ 126
          · have hj1 : (33 : Int) ≤ ((s[k].toNat : Nat) : Int) := by omega
            have hj2 : ((s[k].toNat : Nat) : Int) ≤ 126 := by omega
            have HR2 := hide (Pct.read_one HRD.out (by rw [HLL.out]; exact hlt) hc37.out (by rw [hgd.out]; omega))
            have e1 : Pct.one plus s[k] = s[k] := by unfold Pct.one; rw [if_neg (fun h => hq (by rw [h.2]; rfl))]
            rw [hgd.out, e1] at HR2
            clear e1
            go_wp2_with (at_builtin; refine wpList_append_own _ rfl _ _ 80 rfl w.heap.size 5 i0 (.int .u8 0) 1 1 Tryz.underlying80 hi hz0 hz1 hz2 rfl (by decide) _ _ _ rfl (hown.alloc _) ⟨wr.heap.size, 0, none⟩ 1 1 [.int .u8 (s[k].toNat : Int)] rfl rfl ?c1 ?c2 ?c3 ?c4 ?c5 ?_)
            try (case c1 => exact cell_one_new _ _ _)
            case c2 => first | rfl | (intro u hu; simp at hu; subst hu; rfl)
            case c3 => unfold maxLen; omega
            case c4 => omega
            case c5 => first | omega | (simp; omega)
            intro v' w1 hown' hgrow _
            have R1 : w1.ownsRow w.heap.size 5 1 v' (R.length + 1) ((R ++ [s[k]]).map B) := by
              rw [List.map_append, List.map_cons]; exact hown'
            have R2 : Below w.heap.size w w1 := (hnx.alloc hsz _).grown hgrow (by simp; omega) (own_ge hown)
            clear hown' hgrow hown hnx
            have H1 := hide R1
            have H2 := hide R2
            clear R1 R2
            go_wp2
            go_roundw
            case rel => exact ⟨k + 1, _, by go_num, HR2.out, by simp; omega, by rw [List.length_append]; exact H1.out, H2.out⟩
            case measure => simp [intOf]; omega
          · have hj : ¬ ((33 : Int) ≤ ((s[k].toNat : Nat) : Int) ∧ ((s[k].toNat : Nat) : Int) ≤ 126) := by omega
            have hj1 : ¬ ((33 : Int) ≤ ((s[k].toNat : Nat) : Int)) ∨ ¬ (((s[k].toNat : Nat) : Int) ≤ 126) := by omega
            have HN0 : Hid (Pct.unesc plus s.data.toList = none) := Pct.read_out HRD.out (by rw [HLL.out]; exact hlt) (by rw [hgd.out]; omega)
            rcases hj1 with hj1 | hj1
            · have ce : wr.cell? ⟨0, 0, none⟩ = some (X ea) := HE.out.below hnx
              have H2 := hide hnx
              have HN : Hid (Pct.unesc plus s.data.toList = none) := HN0.out
              clear hown hnx hi hz0 hz1 hz2
              go_wp2_with fail
              go_region
              go_wp2
              go_ret2
              exact ⟨H2.out.drew, Or.inr ⟨HN.out, rfl⟩⟩
            · by_cases hj2 : (33 : Int) ≤ ((s[k].toNat : Nat) : Int)
              · have ce : wr.cell? ⟨0, 0, none⟩ = some (X ea) := HE.out.below hnx
                have H2 := hide hnx
                have HN : Hid (Pct.unesc plus s.data.toList = none) := HN0.out
                clear hown hnx hi hz0 hz1 hz2
                go_wp2_with fail
                go_region
                go_wp2
                go_ret2
                exact ⟨H2.out.drew, Or.inr ⟨HN.out, rfl⟩⟩
              · exfalso; omega
    · obtain rfl : k = s.size := by omega
      have HRE : Hid (Pct.unesc plus s.data.toList = some R) := by
        show _ = _
        apply Pct.read_end
        rw [len_list]; exact hrd
      have hconv := conv_own hown rfl
      have H2 := hide hnx
      clear hown hnx hrd hi hz0 hz1 hz2
      go_wp2
      go_ret2
      exact ⟨H2.out, Or.inl ⟨R, HRE.out, rfl⟩⟩

end Go.Proofs.YtcpflfpgnbihiaaGreatDoor.pctw
