import Derived.Test.YtilhfmhjgfmejaaGreatDoorMTmWords
import Derived.Test.YtilhfmhjgfmejaaGreatDoorMTmByte
import Derived.WalkMore
namespace Go.Proofs.YtilhfmhjgfmejaaGreatDoor.tm
open Go.ChangeShapes Go.WideShapes Go.ChangeAt Go.RowKit Go.Proofs.YtilhfmhjgfmejaaGreatDoor.common Go.Proofs.YtilhfmhjgfmejaaGreatDoor.bk Go.Proofs.YtilhfmhjgfmejaaGreatDoor.fd
attribute [local go_sem ↓] Go.wp_at_zero Go.wp_at_succ

set_option maxRecDepth 100000 in
theorem split_any (s : ByteArray) (w : World) (hs : s.size ≤ 4611686018427387904) :
    Calls Tryz.prog 138 #[.string s] w fun e w' => e = .returned (.tuple #[S (before 63 s.data.toList), S (behind 63 s.data.toList), .bool (s.data.toList.contains 63)]) ∧ Below w.heap.size w w' := by
  have HC := hide (cut_any s 63 w hs)
  generalize s.data.toList.contains 63 = f at *
  go_enter Tryz.func138, Tryz.ntmps138
  go_wp2_with fail
  refine HC.out.mono ?_
  rintro e w' ⟨rfl, hb⟩
  have HB := hide hb
  clear hb
  go_wp2_with fail
  refine bodyPost_ret (results_tmp3 rfl _ _ _) rfl ⟨rfl, HB.out⟩

end Go.Proofs.YtilhfmhjgfmejaaGreatDoor.tm

namespace Go.Proofs.YtilhfmhjgfmejaaGreatDoor.tm
open Go.ChangeShapes Go.WideShapes Go.ChangeAt Go.RowKit Go.Proofs.YtilhfmhjgfmejaaGreatDoor.common Go.Proofs.YtilhfmhjgfmejaaGreatDoor.bk
attribute [local go_sem ↓] Go.wp_at_zero Go.wp_at_succ

/-- the two digits of an escape are there -/
def hasD (l : List UInt8) : Bool := decide (3 ≤ l.length) && ((l.drop 1).take 2).all hexB
def okB (more : List UInt8) (c : UInt8) : Bool := pthB c || more.contains c
def madeN (more : List UInt8) : Nat → List UInt8 → Bool
  | 0, l => l.isEmpty
  | _ + 1, [] => true
  | n + 1, c :: r => if c = 37 then hasD (c :: r) && madeN more n (r.drop 2) else okB more c && madeN more n r
theorem madeN_more (more : List UInt8) : ∀ (n m : Nat) (l : List UInt8), l.length ≤ n → l.length ≤ m → madeN more n l = madeN more m l
  | 0, 0, l, _, _ => rfl
  | 0, m + 1, l, h, _ => by
    obtain rfl : l = [] := List.eq_nil_of_length_eq_zero (by omega)
    rfl
  | n + 1, 0, l, _, h => by
    obtain rfl : l = [] := List.eq_nil_of_length_eq_zero (by omega)
    rfl
  | n + 1, m + 1, [], _, _ => rfl
  | n + 1, m + 1, c :: r, h, k => by
    rw [List.length_cons] at h k
    unfold madeN
    have hd : (r.drop 2).length ≤ r.length := by rw [List.length_drop]; omega
    rw [madeN_more more n m r (by omega) (by omega), madeN_more more n m (r.drop 2) (by omega) (by omega)]
/-- nothing but path bytes and these -/
def madeOf (more l : List UInt8) : Bool := madeN more l.length l
theorem made_pct (more r : List UInt8) : madeOf more (37 :: r) = (hasD (37 :: r) && madeOf more (r.drop 2)) := by
  unfold madeOf
  rw [List.length_cons]
  show (if (37 : UInt8) = 37 then _ else _) = _
  rw [if_pos rfl, madeN_more more r.length (r.drop 2).length (r.drop 2) (by rw [List.length_drop]; omega) (Nat.le_refl _)]
theorem made_ok (more r : List UInt8) {c : UInt8} (h : c ≠ 37) : madeOf more (c :: r) = (okB more c && madeOf more r) := by
  unfold madeOf
  rw [List.length_cons]
  show (if c = 37 then _ else _) = _
  rw [if_neg h]

theorem drop_at2 (s : ByteArray) (k : Nat) (h : k < s.size) : s.data.toList.drop k = s[k] :: s.data.toList.drop (k + 1) := List.drop_eq_getElem_cons (by simpa using h)
theorem ext_list (s : ByteArray) (i j : Nat) : (s.extract i j).data.toList = (s.data.toList.drop i).take (j - i) := by simp

set_option maxRecDepth 100000 in
set_option maxHeartbeats 1600000 in
theorem hasDigits_any (s : ByteArray) (w : World) :
    Calls Tryz.prog 157 #[.string s] w fun e w' => e = .returned (.bool (hasD s.data.toList)) ∧ w' = w := by
  have HS : Hid (hasD s.data.toList = (decide (3 ≤ s.size) && (s.extract 1 3).data.toList.all hexB)) := by
    show _ = _
    unfold hasD
    rw [len_list, ext_list]
  have hz : (s.extract 1 3).size ≤ 4611686018427387904 := by rw [ByteArray.size_extract]; omega
  have HA := hide (all_any (s.extract 1 3) _ hexB w hz hex_enters hex_tests)
  clear hz
  generalize (s.extract 1 3).data.toList.all hexB = t at *
  by_cases h : 3 ≤ s.size
  · have hi : (3 : Int) ≤ (s.size : Int) := by omega
    have h1 : (1 : Int) ≤ (s.size : Int) := by omega
    have HR : Hid (hasD s.data.toList = t) := by show _ = _; rw [HS.out, decide_eq_true h]; rfl
    rw [HR.out]
    go_enter Tryz.func157, Tryz.ntmps157
    go_wp2_with (go_at_call 88; refine HA.out.mono ?_; rintro x w2 ⟨rfl, rfl⟩)
    go_ret
    exact ⟨rfl, rfl⟩
  · have hi : ¬ (3 : Int) ≤ (s.size : Int) := by omega
    have hd : decide ((3 : Int) ≤ (s.size : Int)) = false := decide_eq_false hi
    have HR : Hid (hasD s.data.toList = false) := by show _ = _; rw [HS.out, decide_eq_false h]; rfl
    rw [HR.out]
    go_enter Tryz.func157, Tryz.ntmps157
    go_wp2_with fail
    go_ret
    exact ⟨rfl, rfl⟩

set_option maxRecDepth 100000 in
set_option maxHeartbeats 3200000 in
theorem madeOf_any (s more : ByteArray) (w : World) (hs : s.size ≤ 4611686018427387900) :
    Calls Tryz.prog 140 #[.string s, .string more] w fun e w' => e = .returned (.bool (madeOf more.data.toList s.data.toList)) ∧ w' = w := by
  obtain ⟨R, hR⟩ : ∃ R, R = madeOf more.data.toList s.data.toList := ⟨_, rfl⟩
  have HRR := hide hR
  rw [← hR]
  clear hR
  go_enter Tryz.func140, Tryz.ntmps140
  go_wp2_with fail
  go_step3
  go_wp2_with fail
  go_step3
  go_wp2_with fail
  go_loopw [5] (fun i wr => ∃ k : Nat, k ≤ s.size ∧ i = .int .i64 k ∧ Hid (R = madeOf more.data.toList (s.data.toList.drop k)) ∧ wr = w) (fun i _ => s.size - (intOf i).toNat)
  case atStart => exact ⟨0, Nat.zero_le _, rfl, by show _ = _; rw [HRR.out, List.drop_zero], rfl⟩
  case round =>
    obtain ⟨k, hk, rfl, HK, rfl⟩ := hrel
    by_cases hlt : k < s.size
    · have hki : (k : Int) < (s.size : Int) := by omega
      have k0 : (0 : Int) ≤ (k : Int) := Int.natCast_nonneg _
      have k1 : (k : Int) ≤ (s.size : Int) := by omega
      have hne : ((k : Int) == (s.size : Int)) = false := beq_false_of_ne (by omega)
      have HD := hide (drop_at2 s k hlt)
      by_cases hp : s[k].toNat = 37
      · have hpi : (s[k].toNat : Int) = 37 := by omega
        have hp8 : s[k] = 37 := UInt8.toNat_inj.1 hp
        have HH := hide (hasDigits_any (s.extract k s.size) wr)
        have hx : (s.extract k s.size).data.toList = s.data.toList.drop k := by
          rw [ext_list]
          exact List.take_of_length_le (by rw [List.length_drop, len_list]; exact Nat.le_refl _)
        rw [hx] at HH
        have HM : Hid (R = (hasD (s.data.toList.drop k) && madeOf more.data.toList (s.data.toList.drop (k + 3)))) := by
          show _ = _
          rw [HK.out, HD.out, hp8, made_pct, List.drop_drop]
        have HL : Hid (hasD (s.data.toList.drop k) = true → k + 3 ≤ s.size) := by
          intro h
          unfold hasD at h
          have := of_decide_eq_true (Bool.and_eq_true_iff.1 h).1
          rw [List.length_drop, len_list] at this
          omega
        clear hp8 hx HK HD
        cases hd : hasD (s.data.toList.drop k) with
        | true =>
          have h3 := HL.out hd
          have HN : Hid (R = madeOf more.data.toList (s.data.toList.drop (k + 3))) := by show _ = _; rw [HM.out, hd]; rfl
          rw [hd] at HH
          clear hd HL HM
          go_wp2_with (go_at_call 157; refine HH.out.mono ?_; rintro x w2 ⟨rfl, rfl⟩)
          go_roundw
          case rel => exact ⟨k + 3, by omega, by go_num, HN, by trivial⟩
          case measure => simp [intOf]; omega
        | false =>
          have HN : Hid (R = false) := by show _ = _; rw [HM.out, hd]; rfl
          rw [hd] at HH
          clear hd HL HM
          go_wp2_with (go_at_call 157; refine HH.out.mono ?_; rintro x w2 ⟨rfl, rfl⟩)
          try rw [Exit.noGoto_ret]
          go_ret
          exact ⟨by rw [HN.out]; first | rfl | (show Ending.returned (Value.bool ((k : Int) == (s.size : Int))) = _; rw [hne]), rfl⟩
      · have hpi : ¬ (s[k].toNat : Int) = 37 := by omega
        have hp8 : s[k] ≠ 37 := fun e => hp (by rw [e]; rfl)
        have HM : Hid (R = ((pthB s[k] || more.data.toList.contains s[k]) && madeOf more.data.toList (s.data.toList.drop (k + 1)))) := by
          show _ = _
          rw [HK.out, HD.out, made_ok _ _ hp8]; rfl
        have HP := hide (pth_any s[k] wr)
        have HQ := hide (amongB_any more s[k] wr)
        generalize pthB s[k] = t at *
        generalize more.data.toList.contains s[k] = u at *
        clear hp8 HK HD
        cases t with
        | true =>
          have HN : Hid (R = madeOf more.data.toList (s.data.toList.drop (k + 1))) := by show _ = _; rw [HM.out]; rfl
          clear HM
          go_wp2_with (first
            | (go_at_call 158; refine HP.out.mono ?_; rintro x w2 ⟨rfl, rfl⟩)
            | (go_at_call 156; refine HQ.out.mono ?_; rintro x w2 ⟨rfl, rfl⟩))
          go_roundw
          case rel => exact ⟨k + 1, by omega, by go_num, HN, by trivial⟩
          case measure => simp [intOf]; omega
        | false =>
          cases u with
          | true =>
            have HN : Hid (R = madeOf more.data.toList (s.data.toList.drop (k + 1))) := by show _ = _; rw [HM.out]; rfl
            clear HM
            go_wp2_with (first
              | (go_at_call 158; refine HP.out.mono ?_; rintro x w2 ⟨rfl, rfl⟩)
              | (go_at_call 156; refine HQ.out.mono ?_; rintro x w2 ⟨rfl, rfl⟩))
            go_roundw
            case rel => exact ⟨k + 1, by omega, by go_num, HN, by trivial⟩
            case measure => simp [intOf]; omega
          | false =>
            have HN : Hid (R = false) := by show _ = _; rw [HM.out]; rfl
            clear HM
            go_wp2_with (first
              | (go_at_call 158; refine HP.out.mono ?_; rintro x w2 ⟨rfl, rfl⟩)
              | (go_at_call 156; refine HQ.out.mono ?_; rintro x w2 ⟨rfl, rfl⟩))
            try rw [Exit.noGoto_ret]
            go_ret
            exact ⟨by rw [HN.out]; first | rfl | (show Ending.returned (Value.bool ((k : Int) == (s.size : Int))) = _; rw [hne]), rfl⟩
    · obtain rfl : k = s.size := by omega
      have HN : Hid (R = true) := by show _ = _; rw [HK.out, List.drop_eq_nil_of_le (by rw [len_list]; exact Nat.le_refl _)]; rfl
      have heq : ((s.size : Int) == (s.size : Int)) = true := by simp
      clear HK
      go_wp2_with fail
      try rw [Exit.noGoto_ret]
      go_ret
      exact ⟨by rw [HN.out]; first | rfl | simp, rfl⟩

end Go.Proofs.YtilhfmhjgfmejaaGreatDoor.tm

namespace Go.Proofs.YtilhfmhjgfmejaaGreatDoor.tm
open Go.ChangeShapes Go.WideShapes Go.ChangeAt Go.RowKit Go.Proofs.YtilhfmhjgfmejaaGreatDoor.common Go.Proofs.YtilhfmhjgfmejaaGreatDoor.bk
open Go.Proofs.YtilhfmhjgfmejaaGreatDoor.fd (before behind)
attribute [local go_sem ↓] Go.wp_at_zero Go.wp_at_succ

theorem pre_take (p l : List UInt8) : p.isPrefixOf l = decide (l.take p.length = p) := by
  by_cases h : l.take p.length = p
  · rw [decide_eq_true h]
    exact List.isPrefixOf_iff_prefix.2 ⟨l.drop p.length, by conv => lhs; arg 1; rw [← h]
                                                            exact List.take_append_drop _ _⟩
  · rw [decide_eq_false h]
    apply Bool.eq_false_iff.2
    intro h2
    obtain ⟨t, ht⟩ := List.isPrefixOf_iff_prefix.1 h2
    apply h
    rw [← ht]; simp
theorem pre_short (p l : List UInt8) (h : l.length < p.length) : p.isPrefixOf l = false := by
  rw [pre_take]
  apply decide_eq_false
  intro e
  have := congrArg List.length e
  rw [List.length_take] at this
  omega

set_option maxRecDepth 100000 in
set_option maxHeartbeats 400000 in
theorem slite_any (s p : ByteArray) (w : World) :
    Calls Tryz.prog 118 #[.string s, .string p] w fun e w' => e = .returned (.bool (p.data.toList.isPrefixOf s.data.toList)) ∧ w' = w := by
  by_cases hle : p.size ≤ s.size
  · have h2 : (p.size : Int) ≤ (s.size : Int) := by omega
    have hx := ext_list s 0 p.size
    rw [Nat.sub_zero, List.drop_zero] at hx
    have HX := hide hx
    have z0 : (0 : Int) ≤ (p.size : Int) := by omega
    clear hx
    go_enter Tryz.func118, Tryz.ntmps118
    go_wp2
    go_ret
    refine ⟨?_, rfl⟩
    rw [pre_take, len_list, ← HX.out]
    by_cases he : s.extract 0 p.size = p
    · rw [decide_eq_true (by rw [he])]; simp [he]
    · rw [decide_eq_false (fun h => he (ByteArray.ext (Array.toList_inj.1 h)))]
      have hb : ((s.extract 0 p.size).toList == p.toList) = false := beq_false_of_ne (fun h => he (ByteArray.ext (Array.toList_inj.1 (by rw [← ByteArray.toList_eq, ← ByteArray.toList_eq]; exact h))))
      show Ending.returned (Value.bool ((s.extract 0 p.size).toList == p.toList)) = _
      rw [hb]
  · have h2 : ¬ (p.size : Int) ≤ (s.size : Int) := by omega
    have h2d : decide ((p.size : Int) ≤ (s.size : Int)) = false := decide_eq_false h2
    rw [pre_short _ _ (by rw [len_list, len_list]; omega)]
    go_enter Tryz.func118, Tryz.ntmps118
    go_wp2
    go_ret
    exact ⟨rfl, rfl⟩
theorem hasPrefix_any (s p : ByteArray) (w : World) :
    Calls Tryz.prog 116 #[.string s, .string p] w fun e w' => e = .returned (.bool (p.data.toList.isPrefixOf s.data.toList)) ∧ w' = w := by
  generalize hp : p.data.toList.isPrefixOf s.data.toList = b
  have HC := hide (fun W => slite_any s p W)
  rw [hp] at HC
  clear hp
  go_enter Tryz.func116, Tryz.ntmps116
  go_wp2_with (go_at_call 118; refine (HC.out _).mono ?_; rintro e w' ⟨rfl, rfl⟩)
  go_ret
  exact ⟨rfl, rfl⟩

/-- what is left behind a head -/
def cutP (s p : ByteArray) : ByteArray × Bool := if p.data.toList.isPrefixOf s.data.toList then (s.extract p.size s.size, true) else (s, false)

set_option maxRecDepth 100000 in
set_option maxHeartbeats 800000 in
theorem slcut_any (s p : ByteArray) (w : World) :
    Calls Tryz.prog 92 #[.string s, .string p] w fun e w' => e = .returned (.tuple #[.string (cutP s p).1, .bool (cutP s p).2]) ∧ w' = w := by
  unfold cutP
  have HC := hide (fun W => slite_any s p W)
  cases hp : p.data.toList.isPrefixOf s.data.toList with
  | true =>
    rw [hp] at HC
    have hle : p.size ≤ s.size := by
      obtain ⟨r, hr⟩ := List.isPrefixOf_iff_prefix.1 hp
      have := congrArg List.length hr
      rw [List.length_append, len_list, len_list] at this
      omega
    have h1 : (p.size : Int) ≤ (s.size : Int) := by omega
    clear hp
    go_enter Tryz.func92, Tryz.ntmps92
    go_wp2_with (go_at_call 118; refine (HC.out _).mono ?_; rintro e w' ⟨rfl, rfl⟩)
    go_ret2
    exact ⟨rfl, rfl⟩
  | false =>
    rw [hp] at HC
    clear hp
    go_enter Tryz.func92, Tryz.ntmps92
    go_wp2_with (go_at_call 118; refine (HC.out _).mono ?_; rintro e w' ⟨rfl, rfl⟩)
    go_ret2
    exact ⟨rfl, rfl⟩
set_option maxRecDepth 100000 in
theorem cutPrefix_any (s p : ByteArray) (w : World) :
    Calls Tryz.prog 71 #[.string s, .string p] w fun e w' => e = .returned (.tuple #[.string (cutP s p).1, .bool (cutP s p).2]) ∧ w' = w := by
  have HC := hide (fun W => slcut_any s p W)
  generalize (cutP s p).1 = x at *
  generalize (cutP s p).2 = y at *
  go_enter Tryz.func71, Tryz.ntmps71
  go_wp2_with (go_at_call 92; refine (HC.out _).mono ?_; rintro e w' ⟨rfl, rfl⟩)
  go_ret2
  exact ⟨rfl, rfl⟩


theorem str_nil (s : ByteArray) (h : s.data.toList = []) : s = ⟨#[]⟩ := ba_ext h
/-- a path -/
def isPth (l : List UInt8) : Bool := l.isEmpty || (decide (l.head? = some 47) && madeOf [47] l)
/-- a path and perhaps a query -/
def pathQ (l : List UInt8) : Bool := isPth (before 63 l) && madeOf [47, 63] (behind 63 l)

set_option maxRecDepth 100000 in
set_option maxHeartbeats 1600000 in
theorem isPath_any (s : ByteArray) (w : World) (hs : s.size ≤ 4611686018427387900) :
    Calls Tryz.prog 139 #[.string s] w fun e w' => e = .returned (.bool (isPth s.data.toList)) ∧ w' = w := by
  have HM := hide (madeOf_any s ⟨#[47]⟩ w hs)
  by_cases he : s = ⟨#[]⟩
  · subst he
    go_enter Tryz.func139, Tryz.ntmps139
    go_wp2_with fail
    go_ret
    exact ⟨rfl, rfl⟩
  · obtain ⟨h1, h2, h3⟩ := word_ne he
    have hp : 0 < s.size := by
      cases hz : s.size with
      | zero => exact absurd (str_nil s (List.eq_nil_of_length_eq_zero (by rw [len_list]; exact hz))) he
      | succ n => omega
    have hpi : (0 : Int) < (s.size : Int) := by omega
    have hhd : s.data.toList.head? = some s[0] := by
      have := drop_at2 s 0 hp
      rw [List.drop_zero] at this
      rw [this]; rfl
    have HS : Hid (isPth s.data.toList = (decide (s[0].toNat = 47) && madeOf (⟨#[47]⟩ : ByteArray).data.toList s.data.toList)) := by
      show _ = _
      unfold isPth
      rw [h2, hhd, Bool.false_or]
      congr 1
      exact decide_eq_decide.2 ⟨fun h => by rw [Option.some.inj h]; rfl, fun h => congrArg some (UInt8.toNat_inj.1 h)⟩
    have H2 := is_cases 47 47 rfl s[0]
    generalize madeOf (⟨#[47]⟩ : ByteArray).data.toList s.data.toList = t at *
    generalize decide (s[0].toNat = 47) = u at *
    clear hhd
    rcases H2 with ⟨rfl, a1, a2⟩ | ⟨rfl, a1, a2⟩
    · go_enter Tryz.func139, Tryz.ntmps139
      go_wp2_with (go_at_call 140; refine HM.out.mono ?_; rintro x w2 ⟨rfl, rfl⟩)
      go_ret
      exact ⟨by rw [HS.out]; rfl, rfl⟩
    · go_enter Tryz.func139, Tryz.ntmps139
      go_wp2_with (go_at_call 140; refine HM.out.mono ?_; rintro x w2 ⟨rfl, rfl⟩)
      go_ret
      exact ⟨by rw [HS.out]; first | rfl | (show Ending.returned (Value.bool ((s[0].toNat : Int) == 47)) = _; rw [a2]; rfl), rfl⟩

theorem before_le (c : UInt8) (l : List UInt8) : (before c l).length ≤ l.length := by unfold before; exact (List.takeWhile_sublist _).length_le
theorem behind_le (c : UInt8) (l : List UInt8) : (behind c l).length ≤ l.length := by
  unfold behind
  have h1 : (l.dropWhile fun x => decide (x ≠ c)).length ≤ l.length := (List.dropWhile_sublist _).length_le
  rw [List.length_tail]; omega

set_option maxRecDepth 100000 in
set_option maxHeartbeats 1600000 in
theorem pathQ_any (s : ByteArray) (w : World) (hs : s.size ≤ 4611686018427387900) :
    Calls Tryz.prog 117 #[.string s] w fun e w' => e = .returned (.bool (pathQ s.data.toList)) ∧ Below w.heap.size w w' := by
  have HSp := hide (split_any s w (by omega))
  have l1 := before_le 63 s.data.toList
  have l2 := behind_le 63 s.data.toList
  rw [len_list] at l1 l2
  have HP := hide (fun W => isPath_any ⟨(before 63 s.data.toList).toArray⟩ W (by rw [str_size]; omega))
  have HM := hide (fun W => madeOf_any ⟨(behind 63 s.data.toList).toArray⟩ ⟨#[47, 63]⟩ W (by rw [str_size]; omega))
  have HS : Hid (pathQ s.data.toList = (isPth (⟨(before 63 s.data.toList).toArray⟩ : ByteArray).data.toList && madeOf (⟨#[47, 63]⟩ : ByteArray).data.toList (⟨(behind 63 s.data.toList).toArray⟩ : ByteArray).data.toList)) := rfl
  generalize isPth (⟨(before 63 s.data.toList).toArray⟩ : ByteArray).data.toList = t at *
  generalize madeOf (⟨#[47, 63]⟩ : ByteArray).data.toList (⟨(behind 63 s.data.toList).toArray⟩ : ByteArray).data.toList = u at *
  go_enter Tryz.func117, Tryz.ntmps117
  go_wp2_with fail
  refine HSp.out.mono ?_
  rintro x w1 ⟨rfl, hb1⟩
  have B1 := hide hb1
  clear hb1
  cases t
  all_goals
    go_wp2_with (first
      | (go_at_call 139; refine (HP.out _).mono ?_; rintro x w2 ⟨rfl, hw2⟩; obtain rfl := hw2.symm)
      | (go_at_call 140; refine (HM.out _).mono ?_; rintro x w2 ⟨rfl, hw2⟩; obtain rfl := hw2.symm))
    go_ret
    exact ⟨by rw [HS.out]; rfl, B1.out⟩

end Go.Proofs.YtilhfmhjgfmejaaGreatDoor.tm
