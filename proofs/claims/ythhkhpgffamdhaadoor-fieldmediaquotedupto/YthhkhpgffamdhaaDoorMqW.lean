import Derived.Test.YthhkhpgffamdhaaDoorMedW3
import Derived.Test.YthhkhpgffamdhaaDoorRefLow
namespace Go.Proofs.YthhkhpgffamdhaaDoor.fd
open Go.ChangeShapes Go.WideShapes Go.ChangeAt Go.RowKit Go.Proofs.YthhkhpgffamdhaaDoor.common Go.Proofs.YthhkhpgffamdhaaDoor.bk
attribute [local go_sem ↓] Go.wp_at_zero Go.wp_at_succ

set_option maxRecDepth 100000 in
set_option maxHeartbeats 3200000 in
theorem lawLower_any (s : ByteArray) (w : World) (hs : s.size ≤ 140737488355328) :
    Calls Tryd.prog 13 #[.string s] w fun e w' => e = .returned (.string ⟨(Fd.lows s.data.toList).toArray⟩) ∧ Below w.heap.size w w' := by
  obtain ⟨i0, hi, hz0, hz1, hz2⟩ := info_parts bk.info8
  show Calls _ _ _ _ fun e w' => e = .returned (.string ⟨(lnm.lowB s).toArray⟩) ∧ Below w.heap.size w w'
  have HLEN : Hid ((lnm.lowB s).length = s.size) := lnm.lowB_len s
  have HTK : Hid (∀ k (_ : k < s.size), (lnm.lowB s).take (k + 1) = (lnm.lowB s).take k ++ [Fd.low s[k]]) := lnm.lowB_take s
  generalize lnm.lowB s = L at *
  go_enter Tryd.func13, Tryd.ntmps13
  go_wp2_with fail
  go_loopw [3, 4] (fun v i wr => ∃ k : Nat, k ≤ s.size ∧ i = .int .i64 k ∧ wr.ownsRow w.heap.size 5 1 v k ((L.take k).map bk.B) ∧ Below w.heap.size w wr) (fun _ i _ => s.size - (intOf i).toNat)
  case atStart => exact ⟨0, Nat.zero_le _, rfl, World.ownsRow_nil _ _ _ _, Below.refl _ _⟩
  case round =>
    obtain ⟨k, hk, rfl, hown, hnx⟩ := hrel
    have hsz := hnx.size
    by_cases hlt : k < s.size
    · have hki : (k : Int) < (s.size : Int) := by omega
      have HSN := hide (HTK.out k hlt)
      rcases lnm.low_cases s[k] with ⟨h1, h2, h3⟩ | ⟨h1, h3⟩
      · have h1i : (65 : Int) ≤ (s[k].toNat : Int) := by omega
        have h2i : (s[k].toNat : Int) ≤ 90 := by omega
        have HW : Hid ((s[k].toNat : Int) - 65 + 97 = ((Fd.low s[k]).toNat : Int) ∧ (s[k].toNat : Int) + 32 = ((Fd.low s[k]).toNat : Int)) := ⟨by omega, by omega⟩
        clear h3
        go_wp2_with (at_builtin; refine wpList_append_own _ rfl _ _ 64 rfl w.heap.size 5 i0 (.int .u8 0) 1 1 Tryd.underlying64 hi hz0 hz1 hz2 rfl (by decide) _ _ _ rfl (hown.alloc _) ⟨_, 0, none⟩ 1 1 [_] rfl rfl (bk.cell_one_new _ _ _) ?c2 ?c3 ?c4 ?c5 ?_)
        case c2 => first | rfl | (intro u hu; simp at hu; subst hu; rfl)
        case c3 => unfold maxLen; omega
        case c4 => omega
        case c5 => first | omega | (simp; omega)
        intro v' w1 hown' hgrow _
        have R1 : w1.ownsRow w.heap.size 5 1 v' (k + 1) ((L.take (k + 1)).map bk.B) := by
          rw [HSN.out, List.map_append, List.map_take]
          first
            | exact hown'
            | (rw [HW.out.1] at hown'; exact hown')
            | (rw [HW.out.2] at hown'; exact hown')
        have R2 : Below w.heap.size w w1 := (hnx.alloc hsz _).grown hgrow (by simp; omega) (own_ge hown)
        clear hown' hgrow hown hnx
        have H1 := hide R1
        have H2 := hide R2
        clear R1 R2
        go_wp2_with fail
        go_roundw
        case rel => exact ⟨k + 1, by omega, by go_num, H1.out, H2.out⟩
        case measure => simp [intOf]; omega
      · have hd : ¬ ((65 : Int) ≤ (s[k].toNat : Int) ∧ (s[k].toNat : Int) ≤ 90) := by omega
        have HLB : Hid (bk.B s[k] = bk.B (Fd.low s[k])) := by show Value.int .u8 _ = Value.int .u8 _; rw [h3]
        by_cases h65 : (65 : Int) ≤ (s[k].toNat : Int)
        · have h90 : ¬ (s[k].toNat : Int) ≤ 90 := fun h => hd ⟨h65, h⟩
          go_wp2_with (at_builtin; refine wpList_append_own _ rfl _ _ 64 rfl w.heap.size 5 i0 (.int .u8 0) 1 1 Tryd.underlying64 hi hz0 hz1 hz2 rfl (by decide) _ _ _ rfl (hown.alloc _) ⟨_, 0, none⟩ 1 1 [_] rfl rfl (bk.cell_one_new _ _ _) ?c2 ?c3 ?c4 ?c5 ?_)
          case c2 => first | rfl | (intro u hu; simp at hu; subst hu; rfl)
          case c3 => unfold maxLen; omega
          case c4 => omega
          case c5 => first | omega | (simp; omega)
          intro v' w1 hown' hgrow _
          have R1 : w1.ownsRow w.heap.size 5 1 v' (k + 1) ((L.take (k + 1)).map bk.B) := by
            rw [HSN.out, List.map_append, List.map_take, List.map_cons, List.map_nil, ← HLB.out]; exact hown'
          have R2 : Below w.heap.size w w1 := (hnx.alloc hsz _).grown hgrow (by simp; omega) (own_ge hown)
          clear hown' hgrow hown hnx
          have H1 := hide R1
          have H2 := hide R2
          clear R1 R2
          go_wp2_with fail
          go_roundw
          case rel => exact ⟨k + 1, by omega, by go_num, H1.out, H2.out⟩
          case measure => simp [intOf]; omega
        · go_wp2_with (at_builtin; refine wpList_append_own _ rfl _ _ 64 rfl w.heap.size 5 i0 (.int .u8 0) 1 1 Tryd.underlying64 hi hz0 hz1 hz2 rfl (by decide) _ _ _ rfl (hown.alloc _) ⟨_, 0, none⟩ 1 1 [_] rfl rfl (bk.cell_one_new _ _ _) ?c2 ?c3 ?c4 ?c5 ?_)
          case c2 => first | rfl | (intro u hu; simp at hu; subst hu; rfl)
          case c3 => unfold maxLen; omega
          case c4 => omega
          case c5 => first | omega | (simp; omega)
          intro v' w1 hown' hgrow _
          have R1 : w1.ownsRow w.heap.size 5 1 v' (k + 1) ((L.take (k + 1)).map bk.B) := by
            rw [HSN.out, List.map_append, List.map_take, List.map_cons, List.map_nil, ← HLB.out]; exact hown'
          have R2 : Below w.heap.size w w1 := (hnx.alloc hsz _).grown hgrow (by simp; omega) (own_ge hown)
          clear hown' hgrow hown hnx
          have H1 := hide R1
          have H2 := hide R2
          clear R1 R2
          go_wp2_with fail
          go_roundw
          case rel => exact ⟨k + 1, by omega, by go_num, H1.out, H2.out⟩
          case measure => simp [intOf]; omega
    · obtain rfl : k = s.size := by omega
      rw [List.take_of_length_le (by rw [HLEN.out]; exact Nat.le_refl _)] at hown
      have hcv := bk.conv_own hown HLEN.out
      have H2 := hide hnx
      clear hown hnx
      go_wp2_with fail
      go_ret
      exact ⟨rfl, H2.out⟩

/-- a text between quotes, a backslash ahead of each quote and backslash -/
def qE1 (c : UInt8) : List UInt8 := if c = 34 ∨ c = 92 then [92, c] else [c]
def qEsc (l : List UInt8) : List UInt8 := l.flatMap qE1
theorem qEsc_snoc (l : List UInt8) (c : UInt8) : qEsc (l ++ [c]) = qEsc l ++ qE1 c := by unfold qEsc; rw [List.flatMap_append]; simp
theorem qEsc_len (l : List UInt8) : (qEsc l).length ≤ 2 * l.length := by
  induction l with
  | nil => exact Nat.le_refl _
  | cons c t ih =>
    have e : qEsc (c :: t) = qE1 c ++ qEsc t := rfl
    rw [e, List.length_append, List.length_cons]
    have : (qE1 c).length ≤ 2 := by unfold qE1; split <;> simp
    omega
def qTxt (l : List UInt8) : List UInt8 := 34 :: (qEsc l ++ [34])
theorem val_casesQ (c : UInt8) : (Fd.val c = true ∧ (c.toNat = 9 ∨ 32 ≤ c.toNat ∧ c.toNat ≠ 127)) ∨ (Fd.val c = false ∧ ¬ (c.toNat = 9 ∨ 32 ≤ c.toNat ∧ c.toNat ≠ 127)) := dec_cases rfl

set_option maxRecDepth 100000 in
set_option maxHeartbeats 6400000 in
theorem lawQuoted_any (s : ByteArray) (w : World) (hs : s.size ≤ 1048576) :
    Calls Tryd.prog 10 #[.string s] w fun e w' => e = .returned (if s.data.toList.all Fd.val then .tuple #[S (qTxt s.data.toList), .bool true] else .tuple #[.string ⟨#[]⟩, .bool false]) ∧ Below w.heap.size w w' := by
  obtain ⟨i0, hi, hz0, hz1, hz2⟩ := info_parts bk.info8
  have HT : Hid (∀ k (_ : k < s.size), (s.data.toList.take (k + 1)).all Fd.val = ((s.data.toList.take k).all Fd.val && Fd.val s[k])) := fun k h => all_take _ Fd.val k (by simpa using h)
  have HE : Hid (s.data.toList.take s.size = s.data.toList) := take_all s
  have HLL := hide (len_list s)
  have HSN : Hid (∀ k (_ : k < s.size), s.data.toList.take (k + 1) = s.data.toList.take k ++ [s[k]]) := fun k h => take_snoc s k h
  have HA : Hid (∀ k, (s.data.toList.take k).all Fd.val = false → s.data.toList.all Fd.val = false) := by
    intro k h
    have e : s.data.toList.all Fd.val = ((s.data.toList.take k).all Fd.val && (s.data.toList.drop k).all Fd.val) := by rw [← List.all_append, List.take_append_drop]
    rw [e, h]; rfl
  obtain ⟨R, hR⟩ : ∃ R, (if s.data.toList.all Fd.val then Value.tuple #[S (qTxt s.data.toList), .bool true] else .tuple #[.string ⟨#[]⟩, .bool false]) = R := ⟨_, rfl⟩
  rw [hR]
  have HR := hide hR
  clear hR
  go_enter Tryd.func10, Tryd.ntmps10
  go_wp2_with (at_builtin; refine wpList_append_own _ rfl _ _ 64 rfl w.heap.size 5 i0 (.int .u8 0) 1 1 Tryd.underlying64 hi hz0 hz1 hz2 rfl (by decide) _ 0 [] rfl ((World.ownsRow_nil _ _ _ _).alloc _) ⟨_, 0, none⟩ 1 1 [_] rfl rfl (bk.cell_one_new _ _ _) ?c2 ?c3 ?c4 ?c5 ?_)
  case c2 => first | rfl | (intro u hu; simp at hu; subst hu; rfl)
  case c3 => unfold maxLen; omega
  case c4 => omega
  case c5 => first | omega | simp
  intro v0 w0 hown0 hgrow0 _
  have HB0 : Hid (Below w.heap.size w w0) := ((Below.refl _ _).alloc (Nat.le_refl _) _).grown hgrow0 (by simp) (fun k e => by cases e)
  have HO0 := hide hown0
  clear hown0 hgrow0
  go_wp2_with fail
  go_loopw [4, 5] (fun v i wr => ∃ k : Nat, k ≤ s.size ∧ i = .int .i64 k ∧ (s.data.toList.take k).all Fd.val = true ∧ wr.ownsRow w.heap.size 5 1 v (34 :: qEsc (s.data.toList.take k)).length ((34 :: qEsc (s.data.toList.take k)).map bk.B) ∧ Below w.heap.size w wr) (fun _ i _ => s.size - (intOf i).toNat)
  case atStart => exact ⟨0, Nat.zero_le _, rfl, rfl, HO0.out, HB0.out⟩
  case round =>
    obtain ⟨k, hk, rfl, hall, hown, hnx⟩ := hrel
    have HAL := hide hall
    have HO1 := hide hown
    have HN1 := hide hnx
    have HLQ : Hid ((qEsc (s.data.toList.take k)).length ≤ 2097152) := by
      have h1 := qEsc_len (s.data.toList.take k)
      have h2 : (s.data.toList.take k).length ≤ k := by rw [List.length_take]; exact Nat.min_le_left _ _
      show _ ≤ _
      omega
    clear hall hown hnx
    by_cases hlt : k < s.size
    · have hki : (k : Int) < (s.size : Int) := by omega
      have HSK := hide (HSN.out k hlt)
      have HTK := hide (HT.out k hlt)
      rcases val_casesQ s[k] with ⟨hv, hn⟩ | ⟨hv, hn⟩
      · have HAK : Hid ((s.data.toList.take (k + 1)).all Fd.val = true) := by show _ = _; rw [HTK.out, HAL.out, hv]; rfl
        have hd : ((s[k].toNat : Int) < 32 ∧ (s[k].toNat : Int) = 9) ∨ ¬ (s[k].toNat : Int) < 32 := by omega
        have h127 : ¬ (s[k].toNat : Int) = 127 := by omega
        have h127b : ((s[k].toNat : Int) == 127) = false := beq_false_of_ne h127
        have hpre : (decide ((s[k].toNat : Int) < 32) && ((s[k].toNat : Int) != 9)) = false := by
          rcases hd with ⟨_, h9⟩ | h
          · rw [h9]; decide
          · rw [decide_eq_false h]; rfl
        clear hv hn
        by_cases hq : s[k] = 34 ∨ s[k] = 92
        · have HQ1 : Hid (qEsc (s.data.toList.take (k + 1)) = qEsc (s.data.toList.take k) ++ [92, s[k]]) := by show _ = _; rw [HSK.out, qEsc_snoc]; unfold qE1; rw [if_pos hq]
          have hqi : (s[k].toNat : Int) = 34 ∨ (s[k].toNat : Int) = 92 := by
            rcases hq with h | h
            · left; rw [h]; rfl
            · right; rw [h]; rfl
          clear hq
          rcases hqi with h34 | h92
          · have h34b : ((s[k].toNat : Int) == 34) = true := by rw [h34]; rfl
            have HQ2 : Hid (qEsc (s.data.toList.take (k + 1)) = qEsc (s.data.toList.take k) ++ [92, 34]) := by
              show _ = _
              rw [HQ1.out, show s[k] = 34 from UInt8.toNat_inj.1 (by show s[k].toNat = 34; omega)]
            clear HQ1
            go_wp2_with (at_builtin; refine wpList_append_own _ rfl _ _ 64 rfl w.heap.size 5 i0 (.int .u8 0) 1 1 Tryd.underlying64 hi hz0 hz1 hz2 rfl (by decide) _ _ _ rfl (HO1.out.alloc _) ⟨_, 0, none⟩ 1 1 [_] rfl rfl (bk.cell_one_new _ _ _) ?c2 ?c3 ?c4 ?c5 ?_)
            case c2 => first | rfl | (intro u hu; simp at hu; subst hu; rfl)
            case c3 => unfold maxLen; have := HLQ.out; simp; omega
            case c4 => have := HLQ.out; simp; omega
            case c5 => have := HN1.out.size; first | omega | (simp; omega)
            intro v2 w2 hown' hgrow _
            have HN2 := hide ((HN1.out.alloc HN1.out.size _).grown hgrow (by have := HN1.out.size; simp; omega) (own_ge HO1.out))
            have HO2 := hide hown'
            clear hown' hgrow
            go_wp2_with (at_builtin; refine wpList_append_own _ rfl _ _ 64 rfl w.heap.size 5 i0 (.int .u8 0) 1 1 Tryd.underlying64 hi hz0 hz1 hz2 rfl (by decide) _ _ _ rfl (HO2.out.alloc _) ⟨_, 0, none⟩ 1 1 [_] rfl rfl (bk.cell_one_new _ _ _) ?c2 ?c3 ?c4 ?c5 ?_)
            case c2 => first | rfl | (intro u hu; simp at hu; subst hu; rfl)
            case c3 => unfold maxLen; have := HLQ.out; simp; omega
            case c4 => have := HLQ.out; simp; omega
            case c5 => have := HN2.out.size; first | omega | (simp; omega)
            intro v3 w3 hown' hgrow _
            have HN3 := hide ((HN2.out.alloc HN2.out.size _).grown hgrow (by have := HN2.out.size; simp; omega) (own_ge HO2.out))
            have HO3 := hide hown'
            clear hown' hgrow
            have HO4 : Hid (w3.ownsRow w.heap.size 5 1 v3 (34 :: qEsc (s.data.toList.take (k + 1))).length ((34 :: qEsc (s.data.toList.take (k + 1))).map bk.B)) := by
              show w3.ownsRow _ _ _ _ _ _
              rw [HQ2.out, List.map_cons, List.map_append, List.length_cons, List.length_append]; exact HO3.out
            go_wp2_with fail
            go_roundw
            case rel => exact ⟨k + 1, by omega, by go_num, HAK.out, HO4.out, HN3.out⟩
            case measure => simp [intOf]; omega
          · have h92b : ((s[k].toNat : Int) == 92) = true := by rw [h92]; rfl
            have h34 : ¬ (s[k].toNat : Int) = 34 := by omega
            have h34b : ((s[k].toNat : Int) == 34) = false := beq_false_of_ne h34
            have HQ2 : Hid (qEsc (s.data.toList.take (k + 1)) = qEsc (s.data.toList.take k) ++ [92, 92]) := by
              show _ = _
              rw [HQ1.out, show s[k] = 92 from UInt8.toNat_inj.1 (by show s[k].toNat = 92; omega)]
            clear HQ1
            go_wp2_with (at_builtin; refine wpList_append_own _ rfl _ _ 64 rfl w.heap.size 5 i0 (.int .u8 0) 1 1 Tryd.underlying64 hi hz0 hz1 hz2 rfl (by decide) _ _ _ rfl (HO1.out.alloc _) ⟨_, 0, none⟩ 1 1 [_] rfl rfl (bk.cell_one_new _ _ _) ?c2 ?c3 ?c4 ?c5 ?_)
            case c2 => first | rfl | (intro u hu; simp at hu; subst hu; rfl)
            case c3 => unfold maxLen; have := HLQ.out; simp; omega
            case c4 => have := HLQ.out; simp; omega
            case c5 => have := HN1.out.size; first | omega | (simp; omega)
            intro v2 w2 hown' hgrow _
            have HN2 := hide ((HN1.out.alloc HN1.out.size _).grown hgrow (by have := HN1.out.size; simp; omega) (own_ge HO1.out))
            have HO2 := hide hown'
            clear hown' hgrow
            go_wp2_with (at_builtin; refine wpList_append_own _ rfl _ _ 64 rfl w.heap.size 5 i0 (.int .u8 0) 1 1 Tryd.underlying64 hi hz0 hz1 hz2 rfl (by decide) _ _ _ rfl (HO2.out.alloc _) ⟨_, 0, none⟩ 1 1 [_] rfl rfl (bk.cell_one_new _ _ _) ?c2 ?c3 ?c4 ?c5 ?_)
            case c2 => first | rfl | (intro u hu; simp at hu; subst hu; rfl)
            case c3 => unfold maxLen; have := HLQ.out; simp; omega
            case c4 => have := HLQ.out; simp; omega
            case c5 => have := HN2.out.size; first | omega | (simp; omega)
            intro v3 w3 hown' hgrow _
            have HN3 := hide ((HN2.out.alloc HN2.out.size _).grown hgrow (by have := HN2.out.size; simp; omega) (own_ge HO2.out))
            have HO3 := hide hown'
            clear hown' hgrow
            have HO4 : Hid (w3.ownsRow w.heap.size 5 1 v3 (34 :: qEsc (s.data.toList.take (k + 1))).length ((34 :: qEsc (s.data.toList.take (k + 1))).map bk.B)) := by
              show w3.ownsRow _ _ _ _ _ _
              rw [HQ2.out, List.map_cons, List.map_append, List.length_cons, List.length_append]; exact HO3.out
            go_wp2_with fail
            go_roundw
            case rel => exact ⟨k + 1, by omega, by go_num, HAK.out, HO4.out, HN3.out⟩
            case measure => simp [intOf]; omega
        · have HQ1 : Hid (qEsc (s.data.toList.take (k + 1)) = qEsc (s.data.toList.take k) ++ [s[k]]) := by show _ = _; rw [HSK.out, qEsc_snoc]; unfold qE1; rw [if_neg hq]
          have h34 : ¬ (s[k].toNat : Int) = 34 := fun e => hq (Or.inl (UInt8.toNat_inj.1 (by show s[k].toNat = 34; omega)))
          have h92 : ¬ (s[k].toNat : Int) = 92 := fun e => hq (Or.inr (UInt8.toNat_inj.1 (by show s[k].toNat = 92; omega)))
          have h34b : ((s[k].toNat : Int) == 34) = false := beq_false_of_ne h34
          have h92b : ((s[k].toNat : Int) == 92) = false := beq_false_of_ne h92
          clear hq
          rcases hd with ⟨h32, h9⟩ | h32
          · have HQ2 : Hid (qEsc (s.data.toList.take (k + 1)) = qEsc (s.data.toList.take k) ++ [9]) := by
              show _ = _
              rw [HQ1.out, show s[k] = 9 from UInt8.toNat_inj.1 (by show s[k].toNat = 9; omega)]
            clear HQ1
            go_wp2_with (at_builtin; refine wpList_append_own _ rfl _ _ 64 rfl w.heap.size 5 i0 (.int .u8 0) 1 1 Tryd.underlying64 hi hz0 hz1 hz2 rfl (by decide) _ _ _ rfl (HO1.out.alloc _) ⟨_, 0, none⟩ 1 1 [_] rfl rfl (bk.cell_one_new _ _ _) ?c2 ?c3 ?c4 ?c5 ?_)
            case c2 => first | rfl | (intro u hu; simp at hu; subst hu; rfl)
            case c3 => unfold maxLen; have := HLQ.out; simp; omega
            case c4 => have := HLQ.out; simp; omega
            case c5 => have := HN1.out.size; first | omega | (simp; omega)
            intro v2 w2 hown' hgrow _
            have HN2 := hide ((HN1.out.alloc HN1.out.size _).grown hgrow (by have := HN1.out.size; simp; omega) (own_ge HO1.out))
            have HO2 := hide hown'
            clear hown' hgrow
            have HO3 : Hid (w2.ownsRow w.heap.size 5 1 v2 (34 :: qEsc (s.data.toList.take (k + 1))).length ((34 :: qEsc (s.data.toList.take (k + 1))).map bk.B)) := by
              show w2.ownsRow _ _ _ _ _ _
              rw [HQ2.out, List.map_cons, List.map_append, List.length_cons, List.length_append]; exact HO2.out
            go_wp2_with fail
            go_roundw
            case rel => exact ⟨k + 1, by omega, by go_num, HAK.out, HO3.out, HN2.out⟩
            case measure => simp [intOf]; omega
          · clear hpre
            go_wp2_with (at_builtin; refine wpList_append_own _ rfl _ _ 64 rfl w.heap.size 5 i0 (.int .u8 0) 1 1 Tryd.underlying64 hi hz0 hz1 hz2 rfl (by decide) _ _ _ rfl (HO1.out.alloc _) ⟨_, 0, none⟩ 1 1 [_] rfl rfl (bk.cell_one_new _ _ _) ?c2 ?c3 ?c4 ?c5 ?_)
            case c2 => first | rfl | (intro u hu; simp at hu; subst hu; rfl)
            case c3 => unfold maxLen; have := HLQ.out; simp; omega
            case c4 => have := HLQ.out; simp; omega
            case c5 => have := HN1.out.size; first | omega | (simp; omega)
            intro v2 w2 hown' hgrow _
            have HN2 := hide ((HN1.out.alloc HN1.out.size _).grown hgrow (by have := HN1.out.size; simp; omega) (own_ge HO1.out))
            have HO2 := hide hown'
            clear hown' hgrow
            have HO3 : Hid (w2.ownsRow w.heap.size 5 1 v2 (34 :: qEsc (s.data.toList.take (k + 1))).length ((34 :: qEsc (s.data.toList.take (k + 1))).map bk.B)) := by
              show w2.ownsRow _ _ _ _ _ _
              rw [HQ1.out, List.map_cons, List.map_append, List.length_cons, List.length_append]; exact HO2.out
            go_wp2_with fail
            go_roundw
            case rel => exact ⟨k + 1, by omega, by go_num, HAK.out, HO3.out, HN2.out⟩
            case measure => simp [intOf]; omega
      · have HRF : Hid (R = .tuple #[.string ⟨#[]⟩, .bool false]) := by
          show _ = _
          rw [← HR.out, HA.out (k + 1) (by rw [HTK.out, hv, Bool.and_false])]; rfl
        have hd : ((s[k].toNat : Int) < 32 ∧ ¬ (s[k].toNat : Int) = 9) ∨ (¬ (s[k].toNat : Int) < 32 ∧ (s[k].toNat : Int) = 127) := by omega
        clear hv hn
        rcases hd with ⟨h1, h2⟩ | ⟨h1, h2⟩
        · have h2b : ((s[k].toNat : Int) == 9) = false := beq_false_of_ne h2
          go_wp2_with fail
          go_ret2
          exact ⟨by rw [HRF.out]; rfl, HN1.out⟩
        · go_wp2_with fail
          go_ret2
          exact ⟨by rw [HRF.out]; rfl, HN1.out⟩
    · have hke : k = s.size := by omega
      have hkn : ¬ (k : Int) < (s.size : Int) := by omega
      have hal := HAL.out
      rw [hke, HE.out] at hal
      have HRT : Hid (R = .tuple #[S (qTxt s.data.toList), .bool true]) := by show _ = _; rw [← HR.out, hal]; rfl
      have HKE := hide hke
      clear hal hke
      go_wp2_with (at_builtin; refine wpList_append_own _ rfl _ _ 64 rfl w.heap.size 5 i0 (.int .u8 0) 1 1 Tryd.underlying64 hi hz0 hz1 hz2 rfl (by decide) _ _ _ rfl (HO1.out.alloc _) ⟨_, 0, none⟩ 1 1 [_] rfl rfl (bk.cell_one_new _ _ _) ?c2 ?c3 ?c4 ?c5 ?_)
      case c2 => first | rfl | (intro u hu; simp at hu; subst hu; rfl)
      case c3 => unfold maxLen; have := HLQ.out; simp; omega
      case c4 => have := HLQ.out; simp; omega
      case c5 => have := HN1.out.size; first | omega | (simp; omega)
      intro v2 w2 hown' hgrow _
      have HN2 := hide ((HN1.out.alloc HN1.out.size _).grown hgrow (by have := HN1.out.size; simp; omega) (own_ge HO1.out))
      have HO2 := hide hown'
      clear hown' hgrow
      have hfin : w2.ownsRow w.heap.size 5 1 v2 (qTxt s.data.toList).length ((qTxt s.data.toList).map bk.B) := by
        have e1 : qTxt s.data.toList = (34 :: qEsc (s.data.toList.take k)) ++ [34] := by rw [HKE.out, HE.out]; rfl
        rw [e1, List.length_append, List.map_append]; exact HO2.out
      have hcv := bk.conv_own hfin rfl
      clear hfin
      go_wp2_with fail
      go_ret2
      exact ⟨by rw [HRT.out]; rfl, HN2.out⟩

end Go.Proofs.YthhkhpgffamdhaaDoor.fd
