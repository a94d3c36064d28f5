import Derived.Test.YtmdjppjfjkgnpaaGreatDoorTmByte
import Derived.Test.YtmdjppjfjkgnpaaGreatDoorTmSplit0
import Derived.WalkMore
namespace Go.Proofs.YtmdjppjfjkgnpaaGreatDoor.tm
open Go.ChangeShapes Go.WideShapes Go.ChangeAt Go.RowKit Go.Proofs.YtmdjppjfjkgnpaaGreatDoor.common Go.Proofs.YtmdjppjfjkgnpaaGreatDoor.bk
attribute [local go_sem ↓] Go.wp_at_zero Go.wp_at_succ

/-- the two digits of an escape are there -/
def hasD (l : List UInt8) : Bool := decide (3 ≤ l.length) && ((l.drop 1).take 2).all hexB
def okB (more : List UInt8) (c : UInt8) : Bool := pthB c || more.contains c
def madeN (more : List UInt8) : Nat → List UInt8 → Bool
  | 0, l => l.isEmpty
  | _ + 1, [] => true
  | n + 1, c :: r => if c = 37 then hasD (c :: r) && madeN more n (r.drop 2) else okB more c && madeN more n r
theorem madeN_more (more : List UInt8) : ∀ (n m : Nat) (l : List UInt8), l.length ≤ n → l.length ≤ m → madeN more n l = madeN more m l
  | 0, 0, l, _, _ => rfl
  | 0, m + 1, l, h, _ => by
    obtain rfl : l = [] := List.eq_nil_of_length_eq_zero (by omega)
    rfl
  | n + 1, 0, l, _, h => by
    obtain rfl : l = [] := List.eq_nil_of_length_eq_zero (by omega)
    rfl
  | n + 1, m + 1, [], _, _ => rfl
  | n + 1, m + 1, c :: r, h, k => by
    rw [List.length_cons] at h k
    unfold madeN
    have hd : (r.drop 2).length ≤ r.length := by rw [List.length_drop]; omega
    rw [madeN_more more n m r (by omega) (by omega), madeN_more more n m (r.drop 2) (by omega) (by omega)]
/-- nothing but path bytes and these -/
def madeOf (more l : List UInt8) : Bool := madeN more l.length l
theorem made_nil (more : List UInt8) : madeOf more [] = true := rfl
theorem made_pct (more r : List UInt8) : madeOf more (37 :: r) = (hasD (37 :: r) && madeOf more (r.drop 2)) := by
  unfold madeOf
  rw [List.length_cons]
  show (if (37 : UInt8) = 37 then _ else _) = _
  rw [if_pos rfl, madeN_more more r.length (r.drop 2).length (r.drop 2) (by rw [List.length_drop]; omega) (Nat.le_refl _)]
theorem made_ok (more r : List UInt8) {c : UInt8} (h : c ≠ 37) : madeOf more (c :: r) = (okB more c && madeOf more r) := by
  unfold madeOf
  rw [List.length_cons]
  show (if c = 37 then _ else _) = _
  rw [if_neg h]

theorem drop_at2 (s : ByteArray) (k : Nat) (h : k < s.size) : s.data.toList.drop k = s[k] :: s.data.toList.drop (k + 1) := List.drop_eq_getElem_cons (by simpa using h)
theorem ext_list (s : ByteArray) (i j : Nat) : (s.extract i j).data.toList = (s.data.toList.drop i).take (j - i) := by simp

set_option maxRecDepth 100000 in
set_option maxHeartbeats 1600000 in
theorem hasDigits_any (s : ByteArray) (w : World) :
    Calls Tryz.prog 71 #[.string s] w fun e w' => e = .returned (.bool (hasD s.data.toList)) ∧ w' = w := by
  have HS : Hid (hasD s.data.toList = (decide (3 ≤ s.size) && (s.extract 1 3).data.toList.all hexB)) := by
    show _ = _
    unfold hasD
    rw [len_list, ext_list]
  have hz : (s.extract 1 3).size ≤ 4611686018427387904 := by rw [ByteArray.size_extract]; omega
  have HA := hide (all_any (s.extract 1 3) _ hexB w hz hex_enters hex_tests)
  clear hz
  generalize (s.extract 1 3).data.toList.all hexB = t at *
  by_cases h : 3 ≤ s.size
  · have hi : (3 : Int) ≤ (s.size : Int) := by omega
    have h1 : (1 : Int) ≤ (s.size : Int) := by omega
    have HR : Hid (hasD s.data.toList = t) := by show _ = _; rw [HS.out, decide_eq_true h]; rfl
    rw [HR.out]
    go_enter Tryz.func71, Tryz.ntmps71
    go_wp2_with (go_at_call 36; refine HA.out.mono ?_; rintro x w2 ⟨rfl, rfl⟩)
    go_ret
    exact ⟨rfl, rfl⟩
  · have hi : ¬ (3 : Int) ≤ (s.size : Int) := by omega
    have hd : decide ((3 : Int) ≤ (s.size : Int)) = false := decide_eq_false hi
    have HR : Hid (hasD s.data.toList = false) := by show _ = _; rw [HS.out, decide_eq_false h]; rfl
    rw [HR.out]
    go_enter Tryz.func71, Tryz.ntmps71
    go_wp2_with fail
    go_ret
    exact ⟨rfl, rfl⟩

set_option maxRecDepth 100000 in
set_option maxHeartbeats 3200000 in
theorem madeOf_any (s more : ByteArray) (w : World) (hs : s.size ≤ 4611686018427387900) :
    Calls Tryz.prog 57 #[.string s, .string more] w fun e w' => e = .returned (.bool (madeOf more.data.toList s.data.toList)) ∧ w' = w := by
  obtain ⟨R, hR⟩ : ∃ R, R = madeOf more.data.toList s.data.toList := ⟨_, rfl⟩
  have HRR := hide hR
  rw [← hR]
  clear hR
  go_enter Tryz.func57, Tryz.ntmps57
  go_wp2_with fail
  go_step3
  go_wp2_with fail
  go_step3
  go_wp2_with fail
  go_loopw [5] (fun i wr => ∃ k : Nat, k ≤ s.size ∧ i = .int .i64 k ∧ Hid (R = madeOf more.data.toList (s.data.toList.drop k)) ∧ wr = w) (fun i _ => s.size - (intOf i).toNat)
  case atStart => exact ⟨0, Nat.zero_le _, rfl, by show _ = _; rw [HRR.out, List.drop_zero], rfl⟩
  case round =>
    obtain ⟨k, hk, rfl, HK, rfl⟩ := hrel
    by_cases hlt : k < s.size
    · have hki : (k : Int) < (s.size : Int) := by omega
      have k0 : (0 : Int) ≤ (k : Int) := Int.natCast_nonneg _
      have k1 : (k : Int) ≤ (s.size : Int) := by omega
      have hne : ((k : Int) == (s.size : Int)) = false := beq_false_of_ne (by omega)
      have HD := hide (drop_at2 s k hlt)
      by_cases hp : s[k].toNat = 37
      · have hpi : (s[k].toNat : Int) = 37 := by omega
        have hp8 : s[k] = 37 := UInt8.toNat_inj.1 hp
        have HH := hide (hasDigits_any (s.extract k s.size) wr)
        have hx : (s.extract k s.size).data.toList = s.data.toList.drop k := by
          rw [ext_list]
          exact List.take_of_length_le (by rw [List.length_drop, len_list]; exact Nat.le_refl _)
        rw [hx] at HH
        have HM : Hid (R = (hasD (s.data.toList.drop k) && madeOf more.data.toList (s.data.toList.drop (k + 3)))) := by
          show _ = _
          rw [HK.out, HD.out, hp8, made_pct, List.drop_drop]
        have HL : Hid (hasD (s.data.toList.drop k) = true → k + 3 ≤ s.size) := by
          intro h
          unfold hasD at h
          have := of_decide_eq_true (Bool.and_eq_true_iff.1 h).1
          rw [List.length_drop, len_list] at this
          omega
        clear hp8 hx HK HD
        cases hd : hasD (s.data.toList.drop k) with
        | true =>
          have h3 := HL.out hd
          have HN : Hid (R = madeOf more.data.toList (s.data.toList.drop (k + 3))) := by show _ = _; rw [HM.out, hd]; rfl
          rw [hd] at HH
          clear hd HL HM
          go_wp2_with (go_at_call 71; refine HH.out.mono ?_; rintro x w2 ⟨rfl, rfl⟩)
          go_roundw
          case rel => exact ⟨k + 3, by omega, by go_num, HN, by trivial⟩
          case measure => simp [intOf]; omega
        | false =>
          have HN : Hid (R = false) := by show _ = _; rw [HM.out, hd]; rfl
          rw [hd] at HH
          clear hd HL HM
          go_wp2_with (go_at_call 71; refine HH.out.mono ?_; rintro x w2 ⟨rfl, rfl⟩)
          try rw [Exit.noGoto_ret]
          go_ret
          exact ⟨by rw [HN.out]; first | rfl | (show Ending.returned (Value.bool ((k : Int) == (s.size : Int))) = _; rw [hne]), rfl⟩
      · have hpi : ¬ (s[k].toNat : Int) = 37 := by omega
        have hp8 : s[k] ≠ 37 := fun e => hp (by rw [e]; rfl)
        have HM : Hid (R = ((pthB s[k] || more.data.toList.contains s[k]) && madeOf more.data.toList (s.data.toList.drop (k + 1)))) := by
          show _ = _
          rw [HK.out, HD.out, made_ok _ _ hp8]; rfl
        have HP := hide (pth_any s[k] wr)
        have HQ := hide (amongB_any more s[k] wr)
        generalize pthB s[k] = t at *
        generalize more.data.toList.contains s[k] = u at *
        clear hp8 HK HD
        cases t with
        | true =>
          have HN : Hid (R = madeOf more.data.toList (s.data.toList.drop (k + 1))) := by show _ = _; rw [HM.out]; rfl
          clear HM
          go_wp2_with (first
            | (go_at_call 72; refine HP.out.mono ?_; rintro x w2 ⟨rfl, rfl⟩)
            | (go_at_call 69; refine HQ.out.mono ?_; rintro x w2 ⟨rfl, rfl⟩))
          go_roundw
          case rel => exact ⟨k + 1, by omega, by go_num, HN, by trivial⟩
          case measure => simp [intOf]; omega
        | false =>
          cases u with
          | true =>
            have HN : Hid (R = madeOf more.data.toList (s.data.toList.drop (k + 1))) := by show _ = _; rw [HM.out]; rfl
            clear HM
            go_wp2_with (first
              | (go_at_call 72; refine HP.out.mono ?_; rintro x w2 ⟨rfl, rfl⟩)
              | (go_at_call 69; refine HQ.out.mono ?_; rintro x w2 ⟨rfl, rfl⟩))
            go_roundw
            case rel => exact ⟨k + 1, by omega, by go_num, HN, by trivial⟩
            case measure => simp [intOf]; omega
          | false =>
            have HN : Hid (R = false) := by show _ = _; rw [HM.out]; rfl
            clear HM
            go_wp2_with (first
              | (go_at_call 72; refine HP.out.mono ?_; rintro x w2 ⟨rfl, rfl⟩)
              | (go_at_call 69; refine HQ.out.mono ?_; rintro x w2 ⟨rfl, rfl⟩))
            try rw [Exit.noGoto_ret]
            go_ret
            exact ⟨by rw [HN.out]; first | rfl | (show Ending.returned (Value.bool ((k : Int) == (s.size : Int))) = _; rw [hne]), rfl⟩
    · obtain rfl : k = s.size := by omega
      have HN : Hid (R = true) := by show _ = _; rw [HK.out, List.drop_eq_nil_of_le (by rw [len_list]; exact Nat.le_refl _)]; rfl
      have heq : ((s.size : Int) == (s.size : Int)) = true := by simp
      clear HK
      go_wp2_with fail
      try rw [Exit.noGoto_ret]
      go_ret
      exact ⟨by rw [HN.out]; first | rfl | simp, rfl⟩

end Go.Proofs.YtmdjppjfjkgnpaaGreatDoor.tm
