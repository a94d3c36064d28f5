import Derived.Test.YtocpikgcbibcoaaGreatDoorMTermLays
import Derived.Test.YtocpikgcbibcoaaGreatDoorMTmByte
import Derived.WalkMore
import Derived.Shelf.Lays
import Derived.Shelf.Lays2
import Derived.Shelf.LaysM
import Derived.Shelf.LaysC
import Derived.Ground.NamesProg
import Derived.Ground.Names2Prog
import Derived.Test.YtocpikgcbibcoaaGreatDoorProg
namespace Go.Proofs.YtocpikgcbibcoaaGreatDoor.tm
open Go.ChangeShapes Go.WideShapes Go.ChangeAt Go.RowKit Go.Proofs.YtocpikgcbibcoaaGreatDoor.common Go.Proofs.YtocpikgcbibcoaaGreatDoor.bk Go.Proofs.YtocpikgcbibcoaaGreatDoor.fd
attribute [local go_sem ↓] Go.wp_at_zero Go.wp_at_succ

set_option maxRecDepth 100000 in
theorem split_any (s : ByteArray) (w : World) (hs : s.size ≤ 4611686018427387904) :
    Calls Tryz.prog 106 #[.string s] w fun e w' => e = .returned (.tuple #[S (before 63 s.data.toList), S (behind 63 s.data.toList), .bool (s.data.toList.contains 63)]) ∧ Below w.heap.size w w' := by
  have HC := hide (cut_any s 63 w hs)
  generalize s.data.toList.contains 63 = f at *
  go_enter Tryz.func106, Tryz.ntmps106
  go_wp2_with fail
  refine HC.out.mono ?_
  rintro e w' ⟨rfl, hb⟩
  have HB := hide hb
  clear hb
  go_wp2_with fail
  refine bodyPost_ret (results_tmp3 rfl _ _ _) rfl ⟨rfl, HB.out⟩

end Go.Proofs.YtocpikgcbibcoaaGreatDoor.tm

namespace Go.Proofs.YtocpikgcbibcoaaGreatDoor.tm
open Go.ChangeShapes Go.WideShapes Go.ChangeAt Go.RowKit Go.Proofs.YtocpikgcbibcoaaGreatDoor.common Go.Proofs.YtocpikgcbibcoaaGreatDoor.bk
attribute [local go_sem ↓] Go.wp_at_zero Go.wp_at_succ

/-- the two digits of an escape are there -/
def hasD (l : List UInt8) : Bool := decide (3 ≤ l.length) && ((l.drop 1).take 2).all hexB
def okB (more : List UInt8) (c : UInt8) : Bool := pthB c || more.contains c
def madeN (more : List UInt8) : Nat → List UInt8 → Bool
  | 0, l => l.isEmpty
  | _ + 1, [] => true
  | n + 1, c :: r => if c = 37 then hasD (c :: r) && madeN more n (r.drop 2) else okB more c && madeN more n r
theorem madeN_more (more : List UInt8) : ∀ (n m : Nat) (l : List UInt8), l.length ≤ n → l.length ≤ m → madeN more n l = madeN more m l
  | 0, 0, l, _, _ => rfl
  | 0, m + 1, l, h, _ => by
    obtain rfl : l = [] := List.eq_nil_of_length_eq_zero (by omega)
    rfl
  | n + 1, 0, l, _, h => by
    obtain rfl : l = [] := List.eq_nil_of_length_eq_zero (by omega)
    rfl
  | n + 1, m + 1, [], _, _ => rfl
  | n + 1, m + 1, c :: r, h, k => by
    rw [List.length_cons] at h k
    unfold madeN
    have hd : (r.drop 2).length ≤ r.length := by rw [List.length_drop]; omega
    rw [madeN_more more n m r (by omega) (by omega), madeN_more more n m (r.drop 2) (by omega) (by omega)]
/-- nothing but path bytes and these -/
def madeOf (more l : List UInt8) : Bool := madeN more l.length l
theorem made_pct (more r : List UInt8) : madeOf more (37 :: r) = (hasD (37 :: r) && madeOf more (r.drop 2)) := by
  unfold madeOf
  rw [List.length_cons]
  show (if (37 : UInt8) = 37 then _ else _) = _
  rw [if_pos rfl, madeN_more more r.length (r.drop 2).length (r.drop 2) (by rw [List.length_drop]; omega) (Nat.le_refl _)]
theorem made_ok (more r : List UInt8) {c : UInt8} (h : c ≠ 37) : madeOf more (c :: r) = (okB more c && madeOf more r) := by
  unfold madeOf
  rw [List.length_cons]
  show (if c = 37 then _ else _) = _
  rw [if_neg h]

theorem drop_at2 (s : ByteArray) (k : Nat) (h : k < s.size) : s.data.toList.drop k = s[k] :: s.data.toList.drop (k + 1) := List.drop_eq_getElem_cons (by simpa using h)
theorem ext_list (s : ByteArray) (i j : Nat) : (s.extract i j).data.toList = (s.data.toList.drop i).take (j - i) := by simp

set_option maxRecDepth 100000 in
set_option maxHeartbeats 1600000 in
theorem hasDigits_any (s : ByteArray) (w : World) :
    Calls Tryz.prog 128 #[.string s] w fun e w' => e = .returned (.bool (hasD s.data.toList)) ∧ w' = w := by
  have HS : Hid (hasD s.data.toList = (decide (3 ≤ s.size) && (s.extract 1 3).data.toList.all hexB)) := by
    show _ = _
    unfold hasD
    rw [len_list, ext_list]
  have hz : (s.extract 1 3).size ≤ 4611686018427387904 := by rw [ByteArray.size_extract]; omega
  have HA := hide (all_any (s.extract 1 3) _ hexB w hz hex_enters hex_tests)
  clear hz
  generalize (s.extract 1 3).data.toList.all hexB = t at *
  by_cases h : 3 ≤ s.size
  · have hi : (3 : Int) ≤ (s.size : Int) := by omega
    have h1 : (1 : Int) ≤ (s.size : Int) := by omega
    have HR : Hid (hasD s.data.toList = t) := by show _ = _; rw [HS.out, decide_eq_true h]; rfl
    rw [HR.out]
    go_enter Tryz.func128, Tryz.ntmps128
    go_wp2_with (go_at_call 68; refine HA.out.mono ?_; rintro x w2 ⟨rfl, rfl⟩)
    go_ret
    exact ⟨rfl, rfl⟩
  · have hi : ¬ (3 : Int) ≤ (s.size : Int) := by omega
    have hd : decide ((3 : Int) ≤ (s.size : Int)) = false := decide_eq_false hi
    have HR : Hid (hasD s.data.toList = false) := by show _ = _; rw [HS.out, decide_eq_false h]; rfl
    rw [HR.out]
    go_enter Tryz.func128, Tryz.ntmps128
    go_wp2_with fail
    go_ret
    exact ⟨rfl, rfl⟩

set_option maxRecDepth 100000 in
set_option maxHeartbeats 3200000 in
theorem madeOf_any (s more : ByteArray) (w : World) (hs : s.size ≤ 4611686018427387900) :
    Calls Tryz.prog 108 #[.string s, .string more] w fun e w' => e = .returned (.bool (madeOf more.data.toList s.data.toList)) ∧ w' = w := by
  obtain ⟨R, hR⟩ : ∃ R, R = madeOf more.data.toList s.data.toList := ⟨_, rfl⟩
  have HRR := hide hR
  rw [← hR]
  clear hR
  go_enter Tryz.func108, Tryz.ntmps108
  go_wp2_with fail
  go_step3
  go_wp2_with fail
  go_step3
  go_wp2_with fail
  go_loopw [5] (fun i wr => ∃ k : Nat, k ≤ s.size ∧ i = .int .i64 k ∧ Hid (R = madeOf more.data.toList (s.data.toList.drop k)) ∧ wr = w) (fun i _ => s.size - (intOf i).toNat)
  case atStart => exact ⟨0, Nat.zero_le _, rfl, by show _ = _; rw [HRR.out, List.drop_zero], rfl⟩
  case round =>
    obtain ⟨k, hk, rfl, HK, rfl⟩ := hrel
    by_cases hlt : k < s.size
    · have hki : (k : Int) < (s.size : Int) := by omega
      have k0 : (0 : Int) ≤ (k : Int) := Int.natCast_nonneg _
      have k1 : (k : Int) ≤ (s.size : Int) := by omega
      have hne : ((k : Int) == (s.size : Int)) = false := beq_false_of_ne (by omega)
      have HD := hide (drop_at2 s k hlt)
      by_cases hp : s[k].toNat = 37
      · have hpi : (s[k].toNat : Int) = 37 := by omega
        have hp8 : s[k] = 37 := UInt8.toNat_inj.1 hp
        have HH := hide (hasDigits_any (s.extract k s.size) wr)
        have hx : (s.extract k s.size).data.toList = s.data.toList.drop k := by
          rw [ext_list]
          exact List.take_of_length_le (by rw [List.length_drop, len_list]; exact Nat.le_refl _)
        rw [hx] at HH
        have HM : Hid (R = (hasD (s.data.toList.drop k) && madeOf more.data.toList (s.data.toList.drop (k + 3)))) := by
          show _ = _
          rw [HK.out, HD.out, hp8, made_pct, List.drop_drop]
        have HL : Hid (hasD (s.data.toList.drop k) = true → k + 3 ≤ s.size) := by
          intro h
          unfold hasD at h
          have := of_decide_eq_true (Bool.and_eq_true_iff.1 h).1
          rw [List.length_drop, len_list] at this
          omega
        clear hp8 hx HK HD
        cases hd : hasD (s.data.toList.drop k) with
        | true =>
          have h3 := HL.out hd
          have HN : Hid (R = madeOf more.data.toList (s.data.toList.drop (k + 3))) := by show _ = _; rw [HM.out, hd]; rfl
          rw [hd] at HH
          clear hd HL HM
          go_wp2_with (go_at_call 128; refine HH.out.mono ?_; rintro x w2 ⟨rfl, rfl⟩)
          go_roundw
          case rel => exact ⟨k + 3, by omega, by go_num, HN, by trivial⟩
          case measure => simp [intOf]; omega
        | false =>
          have HN : Hid (R = false) := by show _ = _; rw [HM.out, hd]; rfl
          rw [hd] at HH
          clear hd HL HM
          go_wp2_with (go_at_call 128; refine HH.out.mono ?_; rintro x w2 ⟨rfl, rfl⟩)
          try rw [Exit.noGoto_ret]
          go_ret
          exact ⟨by rw [HN.out]; first | rfl | (show Ending.returned (Value.bool ((k : Int) == (s.size : Int))) = _; rw [hne]), rfl⟩
      · have hpi : ¬ (s[k].toNat : Int) = 37 := by omega
        have hp8 : s[k] ≠ 37 := fun e => hp (by rw [e]; rfl)
        have HM : Hid (R = ((pthB s[k] || more.data.toList.contains s[k]) && madeOf more.data.toList (s.data.toList.drop (k + 1)))) := by
          show _ = _
          rw [HK.out, HD.out, made_ok _ _ hp8]; rfl
        have HP := hide (pth_any s[k] wr)
        have HQ := hide (amongB_any more s[k] wr)
        generalize pthB s[k] = t at *
        generalize more.data.toList.contains s[k] = u at *
        clear hp8 HK HD
        cases t with
        | true =>
          have HN : Hid (R = madeOf more.data.toList (s.data.toList.drop (k + 1))) := by show _ = _; rw [HM.out]; rfl
          clear HM
          go_wp2_with (first
            | (go_at_call 129; refine HP.out.mono ?_; rintro x w2 ⟨rfl, rfl⟩)
            | (go_at_call 126; refine HQ.out.mono ?_; rintro x w2 ⟨rfl, rfl⟩))
          go_roundw
          case rel => exact ⟨k + 1, by omega, by go_num, HN, by trivial⟩
          case measure => simp [intOf]; omega
        | false =>
          cases u with
          | true =>
            have HN : Hid (R = madeOf more.data.toList (s.data.toList.drop (k + 1))) := by show _ = _; rw [HM.out]; rfl
            clear HM
            go_wp2_with (first
              | (go_at_call 129; refine HP.out.mono ?_; rintro x w2 ⟨rfl, rfl⟩)
              | (go_at_call 126; refine HQ.out.mono ?_; rintro x w2 ⟨rfl, rfl⟩))
            go_roundw
            case rel => exact ⟨k + 1, by omega, by go_num, HN, by trivial⟩
            case measure => simp [intOf]; omega
          | false =>
            have HN : Hid (R = false) := by show _ = _; rw [HM.out]; rfl
            clear HM
            go_wp2_with (first
              | (go_at_call 129; refine HP.out.mono ?_; rintro x w2 ⟨rfl, rfl⟩)
              | (go_at_call 126; refine HQ.out.mono ?_; rintro x w2 ⟨rfl, rfl⟩))
            try rw [Exit.noGoto_ret]
            go_ret
            exact ⟨by rw [HN.out]; first | rfl | (show Ending.returned (Value.bool ((k : Int) == (s.size : Int))) = _; rw [hne]), rfl⟩
    · obtain rfl : k = s.size := by omega
      have HN : Hid (R = true) := by show _ = _; rw [HK.out, List.drop_eq_nil_of_le (by rw [len_list]; exact Nat.le_refl _)]; rfl
      have heq : ((s.size : Int) == (s.size : Int)) = true := by simp
      clear HK
      go_wp2_with fail
      try rw [Exit.noGoto_ret]
      go_ret
      exact ⟨by rw [HN.out]; first | rfl | simp, rfl⟩

end Go.Proofs.YtocpikgcbibcoaaGreatDoor.tm

namespace Go.Proofs.YtocpikgcbibcoaaGreatDoor.tm
open Go.ChangeShapes Go.WideShapes Go.ChangeAt Go.RowKit Go.Proofs.YtocpikgcbibcoaaGreatDoor.common Go.Proofs.YtocpikgcbibcoaaGreatDoor.bk
open Go.Proofs.YtocpikgcbibcoaaGreatDoor.fd (before behind)
attribute [local go_sem ↓] Go.wp_at_zero Go.wp_at_succ

theorem pre_take (p l : List UInt8) : p.isPrefixOf l = decide (l.take p.length = p) := by
  by_cases h : l.take p.length = p
  · rw [decide_eq_true h]
    exact List.isPrefixOf_iff_prefix.2 ⟨l.drop p.length, by conv => lhs; arg 1; rw [← h]
                                                            exact List.take_append_drop _ _⟩
  · rw [decide_eq_false h]
    apply Bool.eq_false_iff.2
    intro h2
    obtain ⟨t, ht⟩ := List.isPrefixOf_iff_prefix.1 h2
    apply h
    rw [← ht]; simp
theorem pre_short (p l : List UInt8) (h : l.length < p.length) : p.isPrefixOf l = false := by
  rw [pre_take]
  apply decide_eq_false
  intro e
  have := congrArg List.length e
  rw [List.length_take] at this
  omega

set_option maxRecDepth 100000 in
set_option maxHeartbeats 400000 in
theorem slite_any (s p : ByteArray) (w : World) :
    Calls Tryz.prog 90 #[.string s, .string p] w fun e w' => e = .returned (.bool (p.data.toList.isPrefixOf s.data.toList)) ∧ w' = w := by
  by_cases hle : p.size ≤ s.size
  · have h2 : (p.size : Int) ≤ (s.size : Int) := by omega
    have hx := ext_list s 0 p.size
    rw [Nat.sub_zero, List.drop_zero] at hx
    have HX := hide hx
    have z0 : (0 : Int) ≤ (p.size : Int) := by omega
    clear hx
    go_enter Tryz.func90, Tryz.ntmps90
    go_wp2
    go_ret
    refine ⟨?_, rfl⟩
    rw [pre_take, len_list, ← HX.out]
    by_cases he : s.extract 0 p.size = p
    · rw [decide_eq_true (by rw [he])]; simp [he]
    · rw [decide_eq_false (fun h => he (ByteArray.ext (Array.toList_inj.1 h)))]
      have hb : ((s.extract 0 p.size).toList == p.toList) = false := beq_false_of_ne (fun h => he (ByteArray.ext (Array.toList_inj.1 (by rw [← ByteArray.toList_eq, ← ByteArray.toList_eq]; exact h))))
      show Ending.returned (Value.bool ((s.extract 0 p.size).toList == p.toList)) = _
      rw [hb]
  · have h2 : ¬ (p.size : Int) ≤ (s.size : Int) := by omega
    have h2d : decide ((p.size : Int) ≤ (s.size : Int)) = false := decide_eq_false h2
    rw [pre_short _ _ (by rw [len_list, len_list]; omega)]
    go_enter Tryz.func90, Tryz.ntmps90
    go_wp2
    go_ret
    exact ⟨rfl, rfl⟩
theorem hasPrefix_any (s p : ByteArray) (w : World) :
    Calls Tryz.prog 88 #[.string s, .string p] w fun e w' => e = .returned (.bool (p.data.toList.isPrefixOf s.data.toList)) ∧ w' = w := by
  generalize hp : p.data.toList.isPrefixOf s.data.toList = b
  have HC := hide (fun W => slite_any s p W)
  rw [hp] at HC
  clear hp
  go_enter Tryz.func88, Tryz.ntmps88
  go_wp2_with (go_at_call 90; refine (HC.out _).mono ?_; rintro e w' ⟨rfl, rfl⟩)
  go_ret
  exact ⟨rfl, rfl⟩

/-- what is left behind a head -/
def cutP (s p : ByteArray) : ByteArray × Bool := if p.data.toList.isPrefixOf s.data.toList then (s.extract p.size s.size, true) else (s, false)

set_option maxRecDepth 100000 in
set_option maxHeartbeats 800000 in
theorem slcut_any (s p : ByteArray) (w : World) :
    Calls Tryz.prog 72 #[.string s, .string p] w fun e w' => e = .returned (.tuple #[.string (cutP s p).1, .bool (cutP s p).2]) ∧ w' = w := by
  unfold cutP
  have HC := hide (fun W => slite_any s p W)
  cases hp : p.data.toList.isPrefixOf s.data.toList with
  | true =>
    rw [hp] at HC
    have hle : p.size ≤ s.size := by
      obtain ⟨r, hr⟩ := List.isPrefixOf_iff_prefix.1 hp
      have := congrArg List.length hr
      rw [List.length_append, len_list, len_list] at this
      omega
    have h1 : (p.size : Int) ≤ (s.size : Int) := by omega
    clear hp
    go_enter Tryz.func72, Tryz.ntmps72
    go_wp2_with (go_at_call 90; refine (HC.out _).mono ?_; rintro e w' ⟨rfl, rfl⟩)
    go_ret2
    exact ⟨rfl, rfl⟩
  | false =>
    rw [hp] at HC
    clear hp
    go_enter Tryz.func72, Tryz.ntmps72
    go_wp2_with (go_at_call 90; refine (HC.out _).mono ?_; rintro e w' ⟨rfl, rfl⟩)
    go_ret2
    exact ⟨rfl, rfl⟩
set_option maxRecDepth 100000 in
theorem cutPrefix_any (s p : ByteArray) (w : World) :
    Calls Tryz.prog 56 #[.string s, .string p] w fun e w' => e = .returned (.tuple #[.string (cutP s p).1, .bool (cutP s p).2]) ∧ w' = w := by
  have HC := hide (fun W => slcut_any s p W)
  generalize (cutP s p).1 = x at *
  generalize (cutP s p).2 = y at *
  go_enter Tryz.func56, Tryz.ntmps56
  go_wp2_with (go_at_call 72; refine (HC.out _).mono ?_; rintro e w' ⟨rfl, rfl⟩)
  go_ret2
  exact ⟨rfl, rfl⟩


theorem str_nil (s : ByteArray) (h : s.data.toList = []) : s = ⟨#[]⟩ := ba_ext h
/-- a path -/
def isPth (l : List UInt8) : Bool := l.isEmpty || (decide (l.head? = some 47) && madeOf [47] l)
/-- a path and perhaps a query -/
def pathQ (l : List UInt8) : Bool := isPth (before 63 l) && madeOf [47, 63] (behind 63 l)

set_option maxRecDepth 100000 in
set_option maxHeartbeats 1600000 in
theorem isPath_any (s : ByteArray) (w : World) (hs : s.size ≤ 4611686018427387900) :
    Calls Tryz.prog 107 #[.string s] w fun e w' => e = .returned (.bool (isPth s.data.toList)) ∧ w' = w := by
  have HM := hide (madeOf_any s ⟨#[47]⟩ w hs)
  by_cases he : s = ⟨#[]⟩
  · subst he
    go_enter Tryz.func107, Tryz.ntmps107
    go_wp2_with fail
    go_ret
    exact ⟨rfl, rfl⟩
  · obtain ⟨h1, h2, h3⟩ := word_ne he
    have hp : 0 < s.size := by
      cases hz : s.size with
      | zero => exact absurd (str_nil s (List.eq_nil_of_length_eq_zero (by rw [len_list]; exact hz))) he
      | succ n => omega
    have hpi : (0 : Int) < (s.size : Int) := by omega
    have hhd : s.data.toList.head? = some s[0] := by
      have := drop_at2 s 0 hp
      rw [List.drop_zero] at this
      rw [this]; rfl
    have HS : Hid (isPth s.data.toList = (decide (s[0].toNat = 47) && madeOf (⟨#[47]⟩ : ByteArray).data.toList s.data.toList)) := by
      show _ = _
      unfold isPth
      rw [h2, hhd, Bool.false_or]
      congr 1
      exact decide_eq_decide.2 ⟨fun h => by rw [Option.some.inj h]; rfl, fun h => congrArg some (UInt8.toNat_inj.1 h)⟩
    have H2 := is_cases 47 47 rfl s[0]
    generalize madeOf (⟨#[47]⟩ : ByteArray).data.toList s.data.toList = t at *
    generalize decide (s[0].toNat = 47) = u at *
    clear hhd
    rcases H2 with ⟨rfl, a1, a2⟩ | ⟨rfl, a1, a2⟩
    · go_enter Tryz.func107, Tryz.ntmps107
      go_wp2_with (go_at_call 108; refine HM.out.mono ?_; rintro x w2 ⟨rfl, rfl⟩)
      go_ret
      exact ⟨by rw [HS.out]; rfl, rfl⟩
    · go_enter Tryz.func107, Tryz.ntmps107
      go_wp2_with (go_at_call 108; refine HM.out.mono ?_; rintro x w2 ⟨rfl, rfl⟩)
      go_ret
      exact ⟨by rw [HS.out]; first | rfl | (show Ending.returned (Value.bool ((s[0].toNat : Int) == 47)) = _; rw [a2]; rfl), rfl⟩

theorem before_le (c : UInt8) (l : List UInt8) : (before c l).length ≤ l.length := by unfold before; exact (List.takeWhile_sublist _).length_le
theorem behind_le (c : UInt8) (l : List UInt8) : (behind c l).length ≤ l.length := by
  unfold behind
  have h1 : (l.dropWhile fun x => decide (x ≠ c)).length ≤ l.length := (List.dropWhile_sublist _).length_le
  rw [List.length_tail]; omega

set_option maxRecDepth 100000 in
set_option maxHeartbeats 1600000 in
theorem pathQ_any (s : ByteArray) (w : World) (hs : s.size ≤ 4611686018427387900) :
    Calls Tryz.prog 89 #[.string s] w fun e w' => e = .returned (.bool (pathQ s.data.toList)) ∧ Below w.heap.size w w' := by
  have HSp := hide (split_any s w (by omega))
  have l1 := before_le 63 s.data.toList
  have l2 := behind_le 63 s.data.toList
  rw [len_list] at l1 l2
  have HP := hide (fun W => isPath_any ⟨(before 63 s.data.toList).toArray⟩ W (by rw [str_size]; omega))
  have HM := hide (fun W => madeOf_any ⟨(behind 63 s.data.toList).toArray⟩ ⟨#[47, 63]⟩ W (by rw [str_size]; omega))
  have HS : Hid (pathQ s.data.toList = (isPth (⟨(before 63 s.data.toList).toArray⟩ : ByteArray).data.toList && madeOf (⟨#[47, 63]⟩ : ByteArray).data.toList (⟨(behind 63 s.data.toList).toArray⟩ : ByteArray).data.toList)) := rfl
  generalize isPth (⟨(before 63 s.data.toList).toArray⟩ : ByteArray).data.toList = t at *
  generalize madeOf (⟨#[47, 63]⟩ : ByteArray).data.toList (⟨(behind 63 s.data.toList).toArray⟩ : ByteArray).data.toList = u at *
  go_enter Tryz.func89, Tryz.ntmps89
  go_wp2_with fail
  refine HSp.out.mono ?_
  rintro x w1 ⟨rfl, hb1⟩
  have B1 := hide hb1
  clear hb1
  cases t
  all_goals
    go_wp2_with (first
      | (go_at_call 107; refine (HP.out _).mono ?_; rintro x w2 ⟨rfl, hw2⟩; obtain rfl := hw2.symm)
      | (go_at_call 108; refine (HM.out _).mono ?_; rintro x w2 ⟨rfl, hw2⟩; obtain rfl := hw2.symm))
    go_ret
    exact ⟨by rw [HS.out]; rfl, B1.out⟩

end Go.Proofs.YtocpikgcbibcoaaGreatDoor.tm

namespace Go.Proofs.YtocpikgcbibcoaaGreatDoor.tm
open Go.ChangeShapes Go.WideShapes Go.ChangeAt Go.RowKit Go.Proofs.YtocpikgcbibcoaaGreatDoor.common Go.Proofs.YtocpikgcbibcoaaGreatDoor.bk
open Go.Proofs.YtocpikgcbibcoaaGreatDoor.fd (before behind)
attribute [local go_sem ↓] Go.wp_at_zero Go.wp_at_succ

/-- the first byte and the last -/
def edge (l : List UInt8) : Bool := decide ((l.headD 0).toNat ≠ 45) && decide ((l.getLastD 0).toNat ≠ 45)
def isLab (s : ByteArray) : Bool := Tm.word 63 labB s.data.toList && edge s.data.toList
def hostN (s : ByteArray) : Bool := (tsq.parts 46 s).all isLab

theorem head_is (s : ByteArray) (h : 0 < s.size) : s.data.toList.headD 0 = s[0] := by
  have := drop_at2 s 0 h
  rw [List.drop_zero] at this
  rw [this]; rfl
theorem last_is (s : ByteArray) (h : 0 < s.size) : s.data.toList.getLastD 0 = s[s.size - 1] := by
  have hl : s.data.toList.length = s.size := len_list s
  rw [List.getLastD_eq_getLast?, List.getLast?_eq_getElem?, hl, List.getElem?_eq_getElem (by omega)]
  rfl

set_option maxRecDepth 100000 in
set_option maxHeartbeats 1600000 in
theorem isLabel_any (s : ByteArray) (w : World) :
    Calls Tryz.prog 102 #[.string s] w fun e w' => e = .returned (.bool (isLab s)) ∧ w' = w := by
  have HW := hide (isWord_most s 63 _ labB w (by decide) lab_enters lab_tests)
  have HS : Hid (isLab s = (Tm.word 63 labB s.data.toList && edge s.data.toList)) := rfl
  cases hw : Tm.word 63 labB s.data.toList with
  | false =>
    rw [hw] at HW HS
    clear hw
    go_enter Tryz.func102, Tryz.ntmps102
    go_wp2_with (go_at_call 53; refine HW.out.mono ?_; rintro x w2 ⟨rfl, rfl⟩)
    go_ret
    exact ⟨by rw [HS.out]; rfl, rfl⟩
  | true =>
    have hp : 0 < s.size := by
      cases hz : s.size with
      | succ n => omega
      | zero =>
        have : s.data.toList = [] := List.eq_nil_of_length_eq_zero (by rw [len_list]; exact hz)
        rw [this] at hw; exact absurd hw (by decide)
    have h63 : s.size ≤ 63 := by
      unfold Tm.word at hw
      rw [Bool.and_eq_true, Bool.and_eq_true] at hw
      have := of_decide_eq_true hw.1.2
      rwa [len_list] at this
    rw [hw] at HW HS
    have HE : Hid (∀ a b, decide (s[0].toNat = 45) = a → decide (s[s.size - 1].toNat = 45) = b → edge s.data.toList = (!a && !b)) := by
      intro a b ha hb
      unfold edge
      rw [head_is s hp, last_is s hp, ← ha, ← hb]
      simp
    have hpi : (0 : Int) < (s.size : Int) := by omega
    have w1 : IntKind.i64.wrap ((s.size : Int) - 1) = (s.size : Int) - 1 := wrap_le _ (by omega) (by omega)
    have t1 : ((s.size : Int) - 1).toNat = s.size - 1 := by omega
    have k1 : (0 : Int) ≤ (s.size : Int) - 1 := by omega
    have k2 : (s.size : Int) - 1 < (s.size : Int) := by omega
    have H1 := is_cases 45 45 rfl s[0]
    have H2 := is_cases 45 45 rfl s[s.size - 1]
    clear hw
    rcases H1 with ⟨u1, a1, a2⟩ | ⟨u1, a1, a2⟩ <;> rcases H2 with ⟨u2, b1, b2⟩ | ⟨u2, b1, b2⟩
    all_goals
      have HV := hide (HE.out _ _ u1 u2)
      clear HE
      go_enter Tryz.func102, Tryz.ntmps102
      go_wp2_with (go_at_call 53; refine HW.out.mono ?_; rintro x w2 ⟨rfl, rfl⟩)
      go_ret
      exact ⟨by rw [HS.out, HV.out]; first | rfl | (simp [bne, a2, b2]) | (simp [bne, a2]) | (simp [bne, b2]), rfl⟩

end Go.Proofs.YtocpikgcbibcoaaGreatDoor.tm

namespace Go.Proofs.YtocpikgcbibcoaaGreatDoor.tm
open Go.RowKit Go.Shelf Go.Proofs.YtocpikgcbibcoaaGreatDoor.common Go.Proofs.YtocpikgcbibcoaaGreatDoor.bk
open Go.Proofs.YtocpikgcbibcoaaGreatDoor.rgr (Seq range_law post)
open Go.Proofs.YtocpikgcbibcoaaGreatDoor.tsq
attribute [local go_sem] Oper.semAt_some

set_option maxRecDepth 100000 in
set_option maxHeartbeats 6400000 in
theorem isHostName_any (s : ByteArray) (w : World) (hs : s.size ≤ reachBytes) :
    Calls Tryz.prog 86 #[.string s] w fun e w' => e = .returned (.bool (hostN s)) ∧ Below w.heap.size w w' := by
  refine (callsIn_wide (n := 5)).1 ?_
  refine callsIn_of_wp_marks Tryz.func86 rfl trivial ?_ rfl
  simp only [Tryz.ntmps86, List.size_toArray, List.length_cons, List.length_nil, Nat.reduceAdd, Nat.reduceSub, Array.replicate_succ, Array.replicate_zero, List.push_toArray, List.append_toArray, List.nil_append, List.cons_append]
  gi_wp2
  refine ⟨trivial, (callsIn_wide.2 (splitFace_any 46 s _)).mono ?_⟩
  rintro e w' ⟨rfl, rfl⟩
  gi_wp2
  have hsz : (w.alloc (.cells #[.bool false] 4)).heap.size = w.heap.size + 1 := by simp
  have hN := boxes_size 46 (w.alloc (.cells #[.bool false] 4)) s
  have hBX := boxes_new 46 (w.alloc (.cells #[.bool false] 4)) s
  have hB0 := ((Below.refl _ w).alloc (Nat.le_refl _) (.cells #[.bool false] 4)).trans ((boxes_below 46 (w.alloc (.cells #[.bool false] 4)) s).mono (by rw [hsz]; omega))
  have hbo : Boxed (boxesOf 46 (w.alloc (.cells #[.bool false] 4)) s) w.heap.size 4 (.bool false) := (((Boxed.new w 4 (.bool false)).alloc _).alloc _).alloc _
  rw [hsz] at hN hBX
  generalize boxesOf 46 (w.alloc (.cells #[.bool false] 4)) s = W0 at *
  refine range_law (b := w.heap.size + 1) rfl (by omega) (gf := 143) rfl trivial (enters_of Tryz.func143 (by kernel_rfl) rfl) (enc := fun x : ByteArray => #[Value.string x]) (fun _ => rfl) (by omega)
    (split_seq 46 4 s hs (w.heap.size + 1 + 1) (w.heap.size + 1) (w.heap.size + 1 + 2) (by omega) (by omega) W0 hBX)
    (fun h k => ⟨k.1.trans h.1, k.2.1.trans h.2.1, k.2.2.trans h.2.2⟩)
    (fun A l o hl => ⟨World.putObj_heap_other (by omega), World.putObj_heap_other (by omega), World.putObj_heap_other (by omega)⟩)
    (fun o o' => ⟨?n1, ?n2, ?n3⟩)
    (fun pre W => ScInv w (.bool false) W ∧ pre.all isLab = true) (fun pre W => ScInv w (.bool false) W ∧ pre.all isLab = false)
    (sc_abides w _ _ _ (fun pre => pre.all isLab = true) (by omega) (by omega)) (sc_abides w _ _ _ (fun pre => pre.all isLab = false) (by omega) (by omega))
    ⟨⟨hbo, hB0⟩, rfl⟩
    (fun x => { tmps := #[.string s, undef, .pointer (some ⟨w.heap.size, 0, none⟩), .string x, .string s, .func (.func 143) #[] #[.pointer (some ⟨w.heap.size + 1 + 1, 0, none⟩), .pointer (some ⟨w.heap.size + 1, 0, none⟩), .pointer (some ⟨w.heap.size + 1 + 2, 0, none⟩)], .string x, undef, undef, undef], defers := [] }) ?assign ?body ?done ?stop
  case n1 => exact ((Below.heap_alloc _ _ _ (by simp; omega)).trans (Below.heap_alloc _ _ _ (by omega)))
  case n2 => exact ((Below.heap_alloc _ _ _ (by simp; omega)).trans (Below.heap_alloc _ _ _ (by omega)))
  case n3 => exact ((Below.heap_alloc _ _ _ (by simp; omega)).trans (Below.heap_alloc _ _ _ (by omega)))
  case assign =>
    intro l x W K hK
    gi_wp2
    exact hK
  case body =>
    rintro l pre x W ⟨⟨hv, hB⟩, hp⟩
    have HW := hide (isLabel_any x W)
    have HA : Hid ((pre ++ [x]).all isLab = isLab x) := by show _ = _; rw [List.all_append, hp]; simp
    have HV := hide hv
    have HB := hide hB
    clear hv hB hp
    gi_wp2
    refine ⟨trivial, ((callsIn_wide.2 HW.out).inRound l).mono ?_⟩
    rintro e W2 ⟨rfl, rfl⟩
    have hc := HV.out.cell
    have hf := HV.out.frozen
    cases ht : isLab x with
    | true =>
      rw [ht] at HA
      gi_wp2
      exact ⟨KeepsOthers.refl _, ⟨rfl, rfl, rfl⟩, ⟨HV.out, HB.out⟩, HA.out⟩
    | false =>
      rw [ht] at HA
      gi_wp2
      exact ⟨KeepsOthers.setCell _ _ _, ⟨HV.out.set _, HB.out.setCell (p := ⟨w.heap.size, 0, none⟩) (Nat.le_refl _) _⟩, HA.out⟩
  case done =>
    rintro D xs W hD rfl ⟨⟨hv, hB⟩, hp⟩ hK
    have hc := hv.cell
    have hf := hv.frozen
    gi_wp2
    have hv2 := hv.set (.bool true)
    have hB2 := hB.setCell (p := ⟨w.heap.size, 0, none⟩) (Nat.le_refl _) (.bool true)
    have hK2 : (W.setCell ⟨w.heap.size, 0, none⟩ (.bool true)).heap[D]? = some (.deferred (some [])) := (rgr.set_heap_other W w.heap.size D (.bool true) (by omega)).trans hK
    refine ⟨by simp, .inl ⟨_, _, rfl, run_takeDeferred hK2, ?_⟩⟩
    refine ⟨_, results_bool rfl _ rfl (hv2.kept (grownBy_putObj' _ D _) (fun e => by cases e; omega)).cell, ?_, hB2.trans ((Below.refl _ _).grown (grownBy_putObj' _ D _) hB2.size (fun k e => by cases e; omega))⟩
    show Ending.returned (.bool true) = _
    unfold hostN
    rw [hp]
  case stop =>
    rintro D pre W hD hpre ⟨⟨hv, hB⟩, hp⟩ hK
    gi_wp2
    refine ⟨by simp, .inl ⟨_, _, rfl, run_takeDeferred hK, ?_⟩⟩
    refine ⟨_, results_bool rfl _ rfl (hv.kept (grownBy_putObj' W D _) (fun e => by cases e; omega)).cell, ?_, hB.trans ((Below.refl _ W).grown (grownBy_putObj' W D _) hB.size (fun k e => by cases e; omega))⟩
    show Ending.returned (.bool false) = _
    obtain ⟨t, ht⟩ := hpre
    unfold hostN
    rw [← ht, List.all_append, hp]; rfl

end Go.Proofs.YtocpikgcbibcoaaGreatDoor.tm

namespace Go.Proofs.YtocpikgcbibcoaaGreatDoor.tm
open Go.ChangeShapes Go.WideShapes Go.ChangeAt Go.RowKit Go.Proofs.YtocpikgcbibcoaaGreatDoor.common Go.Proofs.YtocpikgcbibcoaaGreatDoor.bk
open Go.Proofs.YtocpikgcbibcoaaGreatDoor.fd (before behind)
attribute [local go_sem ↓] Go.wp_at_zero Go.wp_at_succ

set_option maxRecDepth 100000 in
theorem containsOne_any (s : ByteArray) (c : UInt8) (w : World) :
    Calls Tryz.prog 105 #[.string s, .string ⟨#[c]⟩] w fun e w' => e = .returned (.bool (s.data.toList.contains c)) ∧ w' = w := by
  have HI := hide (fun W => tsq.index_any s c W)
  have HC := hide (contains_ix s.data.toList c)
  generalize Lib.indexByte s.data.toList c = i at *
  generalize s.data.toList.contains c = t at *
  go_enter Tryz.func105, Tryz.ntmps105
  go_wp2_with (go_at_call 127; refine (HI.out _).mono ?_; rintro x w2 ⟨rfl, rfl⟩)
  go_ret
  exact ⟨by rw [← HC.out]; rfl, rfl⟩

/-- a scheme of an own name -/
def privS (l : List UInt8) : Bool := !l.isEmpty && Tm.btw 97 122 (l.headD 0) && l.all schB && l.contains 46
/-- a scheme of an own name, a colon, a path that begins with one slash -/
def privA (l : List UInt8) : Bool := privS (before 58 l) && [47].isPrefixOf (behind 58 l) && !([47, 47].isPrefixOf (behind 58 l)) && pathQ (behind 58 l)

set_option maxRecDepth 100000 in
set_option maxHeartbeats 3200000 in
theorem privS_any (s : ByteArray) (w : World) (hs : s.size ≤ 4611686018427387900) :
    Calls Tryz.prog 87 #[.string s] w fun e w' => e = .returned (.bool (privS s.data.toList)) ∧ w' = w := by
  by_cases he : s = ⟨#[]⟩
  · subst he
    go_enter Tryz.func87, Tryz.ntmps87
    go_wp2_with fail
    go_ret
    exact ⟨rfl, rfl⟩
  · obtain ⟨h1, h2, h3⟩ := word_ne he
    have hp : 0 < s.size := by
      cases hz : s.size with
      | zero => exact absurd (str_nil s (List.eq_nil_of_length_eq_zero (by rw [len_list]; exact hz))) he
      | succ n => omega
    have hpi : (0 : Int) < (s.size : Int) := by omega
    have HS : Hid (privS s.data.toList = (Tm.btw 97 122 s[0] && s.data.toList.all schB && s.data.toList.contains 46)) := by
      show _ = _
      unfold privS
      rw [h2, head_is s hp]; rfl
    have HV := hide (small_tests w s[0])
    have HA := hide (all_any s _ schB w (by omega) sch_enters sch_tests)
    have HC := hide (containsOne_any s 46 w)
    generalize Tm.btw 97 122 s[0] = t at *
    generalize s.data.toList.all schB = u at *
    generalize s.data.toList.contains 46 = v at *
    cases t <;> cases u
    all_goals
      go_enter Tryz.func87, Tryz.ntmps87
      go_wp2_with (first
        | (go_at_call 103; refine HV.out.mono ?_; rintro x w2 ⟨rfl, rfl⟩)
        | (go_at_call 68; refine HA.out.mono ?_; rintro x w2 ⟨rfl, rfl⟩)
        | (go_at_call 105; refine HC.out.mono ?_; rintro x w2 ⟨rfl, rfl⟩))
      go_ret
      exact ⟨by rw [HS.out]; rfl, rfl⟩

set_option maxRecDepth 100000 in
set_option maxHeartbeats 3200000 in
theorem privA_any (s : ByteArray) (w : World) (hs : s.size ≤ 4611686018427387900) :
    Calls Tryz.prog 71 #[.string s] w fun e w' => e = .returned (.bool (privA s.data.toList)) ∧ Below w.heap.size w w' := by
  have HSp := hide (fd.cut_any s 58 w (by omega))
  have l1 := before_le 58 s.data.toList
  have l2 := behind_le 58 s.data.toList
  rw [len_list] at l1 l2
  have HP := hide (fun W => privS_any ⟨(before 58 s.data.toList).toArray⟩ W (by rw [str_size]; omega))
  have HH := hide (fun W => hasPrefix_any ⟨(behind 58 s.data.toList).toArray⟩ ⟨#[47]⟩ W)
  have HK := hide (fun W => hasPrefix_any ⟨(behind 58 s.data.toList).toArray⟩ ⟨#[47, 47]⟩ W)
  have HQ := hide (fun W => pathQ_any ⟨(behind 58 s.data.toList).toArray⟩ W (by rw [str_size]; omega))
  have HS : Hid (privA s.data.toList = (privS (⟨(before 58 s.data.toList).toArray⟩ : ByteArray).data.toList && (⟨#[47]⟩ : ByteArray).data.toList.isPrefixOf (⟨(behind 58 s.data.toList).toArray⟩ : ByteArray).data.toList && !((⟨#[47, 47]⟩ : ByteArray).data.toList.isPrefixOf (⟨(behind 58 s.data.toList).toArray⟩ : ByteArray).data.toList) && pathQ (⟨(behind 58 s.data.toList).toArray⟩ : ByteArray).data.toList)) := rfl
  generalize privS (⟨(before 58 s.data.toList).toArray⟩ : ByteArray).data.toList = t at *
  generalize (⟨#[47]⟩ : ByteArray).data.toList.isPrefixOf (⟨(behind 58 s.data.toList).toArray⟩ : ByteArray).data.toList = u at *
  generalize (⟨#[47, 47]⟩ : ByteArray).data.toList.isPrefixOf (⟨(behind 58 s.data.toList).toArray⟩ : ByteArray).data.toList = v at *
  generalize pathQ (⟨(behind 58 s.data.toList).toArray⟩ : ByteArray).data.toList = y at *
  go_enter Tryz.func71, Tryz.ntmps71
  go_wp2_with fail
  refine HSp.out.mono ?_
  rintro x w1 ⟨rfl, hb1⟩
  have B1 := hide hb1
  clear hb1
  cases t <;> cases u <;> cases v
  all_goals
    go_wp2_with (first
      | (go_at_call 87; refine (HP.out _).mono ?_; rintro x w2 ⟨rfl, hw2⟩; obtain rfl := hw2.symm)
      | (go_at_call 88; first
        | (with_reducible refine (HH.out _).mono ?_; rintro x w2 ⟨rfl, hw2⟩; obtain rfl := hw2.symm)
        | (with_reducible refine (HK.out _).mono ?_; rintro x w2 ⟨rfl, hw2⟩; obtain rfl := hw2.symm))
      | (go_at_call 89; refine (HQ.out _).mono ?_; rintro x w3 ⟨rfl, hb3⟩; have B3 := hide (keepD B1.out hb3); clear hb3))
    go_ret
    exact ⟨by rw [HS.out]; rfl, by first | exact B3.out | exact B1.out⟩

end Go.Proofs.YtocpikgcbibcoaaGreatDoor.tm

namespace Go.Proofs.YtocpikgcbibcoaaGreatDoor.jl
open Go.Shelf
def lays153_ren : Go.Shelf.Ren := ⟨fun | 153 => 100 | 152 => 120 | 226 => 121 | 227 => 122 | 228 => 123 | 137 => 141 | 119 => 142 | 224 => 137 | 225 => 136 | 217 => 135 | 266 => 159 | n => n, fun | 9 => 9 | 3 => 3 | 4 => 4 | 5 => 5 | 21 => 21 | 117 => 148 | 116 => 147 | 0 => 0 | 46 => 112 | 124 => 159 | n => n, fun | n => n⟩
theorem lays153 : Go.Proofs.Lays.n153 Tryz.prog lays153_ren := {
  mixed := by kernel_rfl
  f119 := Tryz.func142.trans (congrArg some (by kernel_rfl))
  f137 := Tryz.func141.trans (congrArg some (by kernel_rfl))
  f152 := Tryz.func120.trans (congrArg some (by kernel_rfl))
  f153 := Tryz.func100.trans (congrArg some (by kernel_rfl))
  f217 := Tryz.func135.trans (congrArg some (by kernel_rfl))
  f224 := Tryz.func137.trans (congrArg some (by kernel_rfl))
  f225 := Tryz.func136.trans (congrArg some (by kernel_rfl))
  f226 := Tryz.func121.trans (congrArg some (by kernel_rfl))
  f227 := Tryz.func122.trans (congrArg some (by kernel_rfl))
  f228 := Tryz.func123.trans (congrArg some (by kernel_rfl))
  f266 := Tryz.func159.trans (congrArg some (by kernel_rfl))
  t0 := Tryz.underlying0
  a0 := Tryz.isAgg0
  z0 := Tryz.sizeOf0
  v0 := Tryz.zeroValue0
  t3 := Tryz.underlying3
  a3 := Tryz.isAgg3
  z3 := Tryz.sizeOf3
  v3 := Tryz.zeroValue3
  t4 := Tryz.underlying4
  a4 := Tryz.isAgg4
  z4 := Tryz.sizeOf4
  v4 := Tryz.zeroValue4
  t5 := Tryz.underlying5
  a5 := Tryz.isAgg5
  z5 := Tryz.sizeOf5
  v5 := Tryz.zeroValue5
  t9 := Tryz.underlying9
  a9 := Tryz.isAgg9
  z9 := Tryz.sizeOf9
  v9 := Tryz.zeroValue9
  t21 := Tryz.underlying21
  a21 := Tryz.isAgg21
  z21 := Tryz.sizeOf21
  v21 := Tryz.zeroValue21
  t46 := Tryz.underlying112
  a46 := Tryz.isAgg112
  z46 := Tryz.sizeOf112
  v46 := Tryz.zeroValue112
  t116 := Tryz.underlying147
  a116 := Tryz.isAgg147
  z116 := Tryz.sizeOf147
  t117 := Tryz.underlying148
  a117 := Tryz.isAgg148
  z117 := Tryz.sizeOf148
  v117 := Tryz.zeroValue148
  t124 := Tryz.underlying159
  a124 := Tryz.isAgg159
  z124 := Tryz.sizeOf159
  v124 := Tryz.zeroValue159 }
def lays119_ren : Go.Shelf.Ren := ⟨fun | 119 => 142 | n => n, fun | 21 => 21 | 4 => 4 | n => n, fun | n => n⟩
theorem lays119 : Go.Proofs.Lays.n119 Tryz.prog lays119_ren := {
  mixed := by kernel_rfl
  f119 := Tryz.func142.trans (congrArg some (by kernel_rfl))
  t4 := Tryz.underlying4
  a4 := Tryz.isAgg4
  z4 := Tryz.sizeOf4
  v4 := Tryz.zeroValue4
  t21 := Tryz.underlying21
  a21 := Tryz.isAgg21
  z21 := Tryz.sizeOf21
  v21 := Tryz.zeroValue21 }
end Go.Proofs.YtocpikgcbibcoaaGreatDoor.jl
