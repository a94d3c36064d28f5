import Derived.Test.YtdkbjefphihplabDoorLookName
namespace Go.Proofs.YtdkbjefphihplabDoor.lnm
open Go.ChangeShapes Go.WideShapes Go.ChangeAt Go.RowKit Go.Proofs.YtdkbjefphihplabDoor.common Go.Proofs.YtdkbjefphihplabDoor.bk
attribute [local go_sem ↓] Go.wp_at_zero Go.wp_at_succ

/-- the other case -/
def flip (c : UInt8) : UInt8 := if 97 ≤ c.toNat ∧ c.toNat ≤ 122 then c - 32 else if 65 ≤ c.toNat ∧ c.toNat ≤ 90 then c + 32 else c
theorem flip_low (c : UInt8) : Fd.low (flip c) = Fd.low c := by
  have h : ∀ n : Fin 256, Fd.low (flip (UInt8.ofNat n.val)) = Fd.low (UInt8.ofNat n.val) := by decide +kernel
  have := h ⟨c.toNat, c.toNat_lt⟩
  simpa using this
theorem flip_small {c : UInt8} (h : 97 ≤ c.toNat ∧ c.toNat ≤ 122) : (flip c).toNat = c.toNat - 32 := by
  unfold flip; rw [if_pos h, UInt8.toNat_sub_of_le _ _ (by rw [UInt8.le_iff_toNat_le]; show 32 ≤ c.toNat; omega)]; rfl
theorem flip_big {c : UInt8} (h : 65 ≤ c.toNat ∧ c.toNat ≤ 90) : (flip c).toNat = c.toNat + 32 := by
  have := c.toNat_lt
  unfold flip; rw [if_neg (by omega), if_pos h, UInt8.toNat_add]; show (c.toNat + 32) % 256 = _; omega
theorem flip_none {c : UInt8} (h : ¬ (97 ≤ c.toNat ∧ c.toNat ≤ 122)) (h2 : ¬ (65 ≤ c.toNat ∧ c.toNat ≤ 90)) : flip c = c := by
  unfold flip; rw [if_neg h, if_neg h2]

set_option maxRecDepth 100000 in
set_option maxHeartbeats 3200000 in
theorem flipped_any (s : ByteArray) (m : Int) (w : World) (hs : s.size ≤ 140737488355328) :
    Calls Tryd.prog 24 #[.string s, .int .i64 m] w fun e w' => ∃ t, e = .returned (.string t) ∧ lowB t = lowB s ∧ Below w.heap.size w w' := by
  obtain ⟨i0, hi, hz0, hz1, hz2⟩ := info_parts bk.info8
  have HLEN : Hid ((lowB s).length = s.size) := lowB_len s
  have HTK : Hid (∀ k (_ : k < s.size), (lowB s).take (k + 1) = (lowB s).take k ++ [Fd.low s[k]]) := lowB_take s
  generalize lowB s = L at *
  go_enter Tryd.func24, Tryd.ntmps24
  go_wp2_with fail
  go_loopw [5, 6] (fun v i wr => ∃ (k : Nat) (X : List UInt8), k ≤ s.size ∧ i = .int .i64 k ∧ X.length = k ∧ X.map Fd.low = L.take k ∧ wr.ownsRow w.heap.size 5 1 v X.length (X.map bk.B) ∧ Below w.heap.size w wr) (fun _ i _ => s.size - (intOf i).toNat)
  case atStart => exact ⟨0, [], Nat.zero_le _, rfl, rfl, rfl, World.ownsRow_nil _ _ _ _, Below.refl _ _⟩
  case round =>
    obtain ⟨k, X, hk, rfl, hX, hXm, hown, hnx⟩ := hrel
    have HXL := hide hX
    have HXM := hide hXm
    have hXk : X.length ≤ k := by omega
    clear hX hXm
    have hsz := hnx.size
    by_cases hlt : k < s.size
    · have hki : (k : Int) < (s.size : Int) := by omega
      have HSN := hide (HTK.out k hlt)
      have hc := s[k].toNat_lt
      by_cases ht : bits .and .i64 (m / 2 ^ (k % 62)) 1 = 1
      · by_cases h1 : 97 ≤ s[k].toNat ∧ s[k].toNat ≤ 122
        · have h1a : (97 : Int) ≤ (s[k].toNat : Int) := by omega
          have h1b : (s[k].toNat : Int) ≤ 122 := by omega
          have HF : Hid (((s[k].toNat : Int) - 97 + 65) = ((flip s[k]).toNat : Int)) := by show _ = _; rw [flip_small h1]; omega
          go_wp2_with (at_builtin; refine wpList_append_own _ rfl _ _ 84 rfl w.heap.size 5 i0 (.int .u8 0) 1 1 Tryd.underlying84 hi hz0 hz1 hz2 rfl (by decide) _ _ _ rfl (hown.alloc _) ⟨wr.heap.size, 0, none⟩ 1 1 [_] rfl rfl (bk.cell_one_new _ _ _) ?c2 ?c3 ?c4 ?c5 ?_)
          case c2 => first | rfl | (intro u hu; simp at hu; subst hu; rfl)
          case c3 => unfold maxLen; omega
          case c4 => omega
          case c5 => first | omega | (simp; omega)
          intro v' w1 hown' hgrow _
          have R1 : w1.ownsRow w.heap.size 5 1 v' (X ++ [flip s[k]]).length ((X ++ [flip s[k]]).map bk.B) := by
            rw [List.length_append, List.map_append]; first | exact hown' | (rw [← HF.out]; exact hown') | (have e := HF.out; simp only [bk.B, List.map_cons, List.map_nil, ← e]; exact hown')
          have R2 : Below w.heap.size w w1 := (hnx.alloc hsz _).grown hgrow (by simp; omega) (own_ge hown)
          have R3 : (X ++ [flip s[k]]).map Fd.low = L.take (k + 1) := by rw [List.map_append, HXM.out, HSN.out]; rw [show [flip s[k]].map Fd.low = [Fd.low s[k]] from by rw [List.map_cons, flip_low]; rfl]
          clear hown' hgrow hown hnx
          have H1 := hide R1
          have H2 := hide R2
          have H3 := hide R3
          clear R1 R2 R3
          go_wp2_with fail
          go_roundw
          case rel => exact ⟨k + 1, _, by omega, by go_num, by rw [List.length_append, HXL.out]; rfl, H3.out, H1.out, H2.out⟩
          case measure => simp [intOf]; omega
        · by_cases h2 : 65 ≤ s[k].toNat ∧ s[k].toNat ≤ 90
          · have h2a : (65 : Int) ≤ (s[k].toNat : Int) := by omega
            have h2b : (s[k].toNat : Int) ≤ 90 := by omega
            have HF : Hid (((s[k].toNat : Int) - 65 + 97) = ((flip s[k]).toNat : Int)) := by show _ = _; rw [flip_big h2]; omega
            go_wp2_with (at_builtin; refine wpList_append_own _ rfl _ _ 84 rfl w.heap.size 5 i0 (.int .u8 0) 1 1 Tryd.underlying84 hi hz0 hz1 hz2 rfl (by decide) _ _ _ rfl (hown.alloc _) ⟨wr.heap.size, 0, none⟩ 1 1 [_] rfl rfl (bk.cell_one_new _ _ _) ?c2 ?c3 ?c4 ?c5 ?_)
            case c2 => first | rfl | (intro u hu; simp at hu; subst hu; rfl)
            case c3 => unfold maxLen; omega
            case c4 => omega
            case c5 => first | omega | (simp; omega)
            intro v' w1 hown' hgrow _
            have R1 : w1.ownsRow w.heap.size 5 1 v' (X ++ [flip s[k]]).length ((X ++ [flip s[k]]).map bk.B) := by
              rw [List.length_append, List.map_append]; first | exact hown' | (have e := HF.out; simp only [bk.B, List.map_cons, List.map_nil, ← e]; exact hown')
            have R2 : Below w.heap.size w w1 := (hnx.alloc hsz _).grown hgrow (by simp; omega) (own_ge hown)
            have R3 : (X ++ [flip s[k]]).map Fd.low = L.take (k + 1) := by rw [List.map_append, HXM.out, HSN.out]; rw [show [flip s[k]].map Fd.low = [Fd.low s[k]] from by rw [List.map_cons, flip_low]; rfl]
            clear hown' hgrow hown hnx
            have H1 := hide R1
            have H2 := hide R2
            have H3 := hide R3
            clear R1 R2 R3
            go_wp2_with fail
            go_roundw
            case rel => exact ⟨k + 1, _, by omega, by go_num, by rw [List.length_append, HXL.out]; rfl, H3.out, H1.out, H2.out⟩
            case measure => simp [intOf]; omega
          · have h1i : ¬ (97 : Int) ≤ (s[k].toNat : Int) ∨ ¬ (s[k].toNat : Int) ≤ 122 := by omega
            have h2i : ¬ (65 : Int) ≤ (s[k].toNat : Int) ∨ ¬ (s[k].toNat : Int) ≤ 90 := by omega
            rcases h1i with h1i | h1i <;> rcases h2i with h2i | h2i
            all_goals first | (exfalso; omega) | skip
            all_goals
              go_wp2_with (at_builtin; refine wpList_append_own _ rfl _ _ 84 rfl w.heap.size 5 i0 (.int .u8 0) 1 1 Tryd.underlying84 hi hz0 hz1 hz2 rfl (by decide) _ _ _ rfl (hown.alloc _) ⟨wr.heap.size, 0, none⟩ 1 1 [_] rfl rfl (bk.cell_one_new _ _ _) ?c2 ?c3 ?c4 ?c5 ?_)
              case c2 => first | rfl | (intro u hu; simp at hu; subst hu; rfl)
              case c3 => unfold maxLen; omega
              case c4 => omega
              case c5 => first | omega | (simp; omega)
              intro v' w1 hown' hgrow _
              have R1 : w1.ownsRow w.heap.size 5 1 v' (X ++ [s[k]]).length ((X ++ [s[k]]).map bk.B) := by
                rw [List.length_append, List.map_append]; exact hown'
              have R2 : Below w.heap.size w w1 := (hnx.alloc hsz _).grown hgrow (by simp; omega) (own_ge hown)
              have R3 : (X ++ [s[k]]).map Fd.low = L.take (k + 1) := by rw [List.map_append, HXM.out, HSN.out]; rfl
              clear hown' hgrow hown hnx
              have H1 := hide R1
              have H2 := hide R2
              have H3 := hide R3
              clear R1 R2 R3
              go_wp2_with fail
              go_roundw
              case rel => exact ⟨k + 1, _, by omega, by go_num, by rw [List.length_append, HXL.out]; rfl, H3.out, H1.out, H2.out⟩
              case measure => simp [intOf]; omega
      ·
        go_wp2_with (at_builtin; refine wpList_append_own _ rfl _ _ 84 rfl w.heap.size 5 i0 (.int .u8 0) 1 1 Tryd.underlying84 hi hz0 hz1 hz2 rfl (by decide) _ _ _ rfl (hown.alloc _) ⟨wr.heap.size, 0, none⟩ 1 1 [_] rfl rfl (bk.cell_one_new _ _ _) ?c2 ?c3 ?c4 ?c5 ?_)
        case c2 => first | rfl | (intro u hu; simp at hu; subst hu; rfl)
        case c3 => unfold maxLen; omega
        case c4 => omega
        case c5 => first | omega | (simp; omega)
        intro v' w1 hown' hgrow _
        have R1 : w1.ownsRow w.heap.size 5 1 v' (X ++ [s[k]]).length ((X ++ [s[k]]).map bk.B) := by
          rw [List.length_append, List.map_append]; exact hown'
        have R2 : Below w.heap.size w w1 := (hnx.alloc hsz _).grown hgrow (by simp; omega) (own_ge hown)
        have R3 : (X ++ [s[k]]).map Fd.low = L.take (k + 1) := by rw [List.map_append, HXM.out, HSN.out]; rfl
        clear hown' hgrow hown hnx
        have H1 := hide R1
        have H2 := hide R2
        have H3 := hide R3
        clear R1 R2 R3
        go_wp2_with fail
        go_roundw
        case rel => exact ⟨k + 1, _, by omega, by go_num, by rw [List.length_append, HXL.out]; rfl, H3.out, H1.out, H2.out⟩
        case measure => simp [intOf]; omega
    · obtain rfl : k = s.size := by omega
      have HXA : Hid (X.map Fd.low = L) := by show _ = _; rw [HXM.out, List.take_of_length_le (by rw [HLEN.out]; exact Nat.le_refl _)]
      have hcv := bk.conv_own hown rfl
      have H2 := hide hnx
      clear hown hnx
      go_wp2_with fail
      go_ret
      exact ⟨_, rfl, HXA.out, H2.out⟩

end Go.Proofs.YtdkbjefphihplabDoor.lnm
