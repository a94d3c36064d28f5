import Derived.Test.YtmdjppjfjkgnpaaGreatDoorTmMade
namespace Go.Proofs.YtmdjppjfjkgnpaaGreatDoor.tm
open Go.ChangeShapes Go.WideShapes Go.ChangeAt Go.RowKit Go.Proofs.YtmdjppjfjkgnpaaGreatDoor.common Go.Proofs.YtmdjppjfjkgnpaaGreatDoor.bk
open Go.Proofs.YtmdjppjfjkgnpaaGreatDoor.fd (before behind)
attribute [local go_sem ↓] Go.wp_at_zero Go.wp_at_succ

theorem pre_take (p l : List UInt8) : p.isPrefixOf l = decide (l.take p.length = p) := by
  by_cases h : l.take p.length = p
  · rw [decide_eq_true h]
    exact List.isPrefixOf_iff_prefix.2 ⟨l.drop p.length, by conv => lhs; arg 1; rw [← h]
                                                            exact List.take_append_drop _ _⟩
  · rw [decide_eq_false h]
    apply Bool.eq_false_iff.2
    intro h2
    obtain ⟨t, ht⟩ := List.isPrefixOf_iff_prefix.1 h2
    apply h
    rw [← ht]; simp
theorem pre_short (p l : List UInt8) (h : l.length < p.length) : p.isPrefixOf l = false := by
  rw [pre_take]
  apply decide_eq_false
  intro e
  have := congrArg List.length e
  rw [List.length_take] at this
  omega

set_option maxRecDepth 100000 in
set_option maxHeartbeats 400000 in
theorem slite_any (s p : ByteArray) (w : World) :
    Calls Tryz.prog 44 #[.string s, .string p] w fun e w' => e = .returned (.bool (p.data.toList.isPrefixOf s.data.toList)) ∧ w' = w := by
  by_cases hle : p.size ≤ s.size
  · have h2 : (p.size : Int) ≤ (s.size : Int) := by omega
    have hx := ext_list s 0 p.size
    rw [Nat.sub_zero, List.drop_zero] at hx
    have HX := hide hx
    have z0 : (0 : Int) ≤ (p.size : Int) := by omega
    clear hx
    go_enter Tryz.func44, Tryz.ntmps44
    go_wp2
    go_ret
    refine ⟨?_, rfl⟩
    rw [pre_take, len_list, ← HX.out]
    by_cases he : s.extract 0 p.size = p
    · rw [decide_eq_true (by rw [he])]; simp [he]
    · rw [decide_eq_false (fun h => he (ByteArray.ext (Array.toList_inj.1 h)))]
      have hb : ((s.extract 0 p.size).toList == p.toList) = false := beq_false_of_ne (fun h => he (ByteArray.ext (Array.toList_inj.1 (by rw [← ByteArray.toList_eq, ← ByteArray.toList_eq]; exact h))))
      show Ending.returned (Value.bool ((s.extract 0 p.size).toList == p.toList)) = _
      rw [hb]
  · have h2 : ¬ (p.size : Int) ≤ (s.size : Int) := by omega
    have h2d : decide ((p.size : Int) ≤ (s.size : Int)) = false := decide_eq_false h2
    rw [pre_short _ _ (by rw [len_list, len_list]; omega)]
    go_enter Tryz.func44, Tryz.ntmps44
    go_wp2
    go_ret
    exact ⟨rfl, rfl⟩
theorem hasPrefix_any (s p : ByteArray) (w : World) :
    Calls Tryz.prog 42 #[.string s, .string p] w fun e w' => e = .returned (.bool (p.data.toList.isPrefixOf s.data.toList)) ∧ w' = w := by
  generalize hp : p.data.toList.isPrefixOf s.data.toList = b
  have HC := hide (fun W => slite_any s p W)
  rw [hp] at HC
  clear hp
  go_enter Tryz.func42, Tryz.ntmps42
  go_wp2_with (go_at_call 44; refine (HC.out _).mono ?_; rintro e w' ⟨rfl, rfl⟩)
  go_ret
  exact ⟨rfl, rfl⟩

/-- what is left behind a head -/
def cutP (s p : ByteArray) : ByteArray × Bool := if p.data.toList.isPrefixOf s.data.toList then (s.extract p.size s.size, true) else (s, false)

set_option maxRecDepth 100000 in
set_option maxHeartbeats 800000 in
theorem slcut_any (s p : ByteArray) (w : World) :
    Calls Tryz.prog 28 #[.string s, .string p] w fun e w' => e = .returned (.tuple #[.string (cutP s p).1, .bool (cutP s p).2]) ∧ w' = w := by
  unfold cutP
  have HC := hide (fun W => slite_any s p W)
  cases hp : p.data.toList.isPrefixOf s.data.toList with
  | true =>
    rw [hp] at HC
    have hle : p.size ≤ s.size := by
      obtain ⟨r, hr⟩ := List.isPrefixOf_iff_prefix.1 hp
      have := congrArg List.length hr
      rw [List.length_append, len_list, len_list] at this
      omega
    have h1 : (p.size : Int) ≤ (s.size : Int) := by omega
    clear hp
    go_enter Tryz.func28, Tryz.ntmps28
    go_wp2_with (go_at_call 44; refine (HC.out _).mono ?_; rintro e w' ⟨rfl, rfl⟩)
    go_ret2
    exact ⟨rfl, rfl⟩
  | false =>
    rw [hp] at HC
    clear hp
    go_enter Tryz.func28, Tryz.ntmps28
    go_wp2_with (go_at_call 44; refine (HC.out _).mono ?_; rintro e w' ⟨rfl, rfl⟩)
    go_ret2
    exact ⟨rfl, rfl⟩
set_option maxRecDepth 100000 in
theorem cutPrefix_any (s p : ByteArray) (w : World) :
    Calls Tryz.prog 17 #[.string s, .string p] w fun e w' => e = .returned (.tuple #[.string (cutP s p).1, .bool (cutP s p).2]) ∧ w' = w := by
  have HC := hide (fun W => slcut_any s p W)
  generalize (cutP s p).1 = x at *
  generalize (cutP s p).2 = y at *
  go_enter Tryz.func17, Tryz.ntmps17
  go_wp2_with (go_at_call 28; refine (HC.out _).mono ?_; rintro e w' ⟨rfl, rfl⟩)
  go_ret2
  exact ⟨rfl, rfl⟩


theorem str_nil (s : ByteArray) (h : s.data.toList = []) : s = ⟨#[]⟩ := ba_ext h
/-- a path -/
def isPth (l : List UInt8) : Bool := l.isEmpty || (decide (l.head? = some 47) && madeOf [47] l)
/-- a path and perhaps a query -/
def pathQ (l : List UInt8) : Bool := isPth (before 63 l) && madeOf [47, 63] (behind 63 l)

set_option maxRecDepth 100000 in
set_option maxHeartbeats 1600000 in
theorem isPath_any (s : ByteArray) (w : World) (hs : s.size ≤ 4611686018427387900) :
    Calls Tryz.prog 56 #[.string s] w fun e w' => e = .returned (.bool (isPth s.data.toList)) ∧ w' = w := by
  have HM := hide (madeOf_any s ⟨#[47]⟩ w hs)
  by_cases he : s = ⟨#[]⟩
  · subst he
    go_enter Tryz.func56, Tryz.ntmps56
    go_wp2_with fail
    go_ret
    exact ⟨rfl, rfl⟩
  · obtain ⟨h1, h2, h3⟩ := word_ne he
    have hp : 0 < s.size := by
      cases hz : s.size with
      | zero => exact absurd (str_nil s (List.eq_nil_of_length_eq_zero (by rw [len_list]; exact hz))) he
      | succ n => omega
    have hpi : (0 : Int) < (s.size : Int) := by omega
    have hhd : s.data.toList.head? = some s[0] := by
      have := drop_at2 s 0 hp
      rw [List.drop_zero] at this
      rw [this]; rfl
    have HS : Hid (isPth s.data.toList = (decide (s[0].toNat = 47) && madeOf (⟨#[47]⟩ : ByteArray).data.toList s.data.toList)) := by
      show _ = _
      unfold isPth
      rw [h2, hhd, Bool.false_or]
      congr 1
      exact decide_eq_decide.2 ⟨fun h => by rw [Option.some.inj h]; rfl, fun h => congrArg some (UInt8.toNat_inj.1 h)⟩
    have H2 := is_cases 47 47 rfl s[0]
    generalize madeOf (⟨#[47]⟩ : ByteArray).data.toList s.data.toList = t at *
    generalize decide (s[0].toNat = 47) = u at *
    clear hhd
    rcases H2 with ⟨rfl, a1, a2⟩ | ⟨rfl, a1, a2⟩
    · go_enter Tryz.func56, Tryz.ntmps56
      go_wp2_with (go_at_call 57; refine HM.out.mono ?_; rintro x w2 ⟨rfl, rfl⟩)
      go_ret
      exact ⟨by rw [HS.out]; rfl, rfl⟩
    · go_enter Tryz.func56, Tryz.ntmps56
      go_wp2_with (go_at_call 57; refine HM.out.mono ?_; rintro x w2 ⟨rfl, rfl⟩)
      go_ret
      exact ⟨by rw [HS.out]; first | rfl | (show Ending.returned (Value.bool ((s[0].toNat : Int) == 47)) = _; rw [a2]; rfl), rfl⟩

theorem before_le (c : UInt8) (l : List UInt8) : (before c l).length ≤ l.length := by unfold before; exact (List.takeWhile_sublist _).length_le
theorem behind_le (c : UInt8) (l : List UInt8) : (behind c l).length ≤ l.length := by
  unfold behind
  have h1 : (l.dropWhile fun x => decide (x ≠ c)).length ≤ l.length := (List.dropWhile_sublist _).length_le
  rw [List.length_tail]; omega

set_option maxRecDepth 100000 in
set_option maxHeartbeats 1600000 in
theorem pathQ_any (s : ByteArray) (w : World) (hs : s.size ≤ 4611686018427387900) :
    Calls Tryz.prog 43 #[.string s] w fun e w' => e = .returned (.bool (pathQ s.data.toList)) ∧ Below w.heap.size w w' := by
  have HSp := hide (split_any s w (by omega))
  have l1 := before_le 63 s.data.toList
  have l2 := behind_le 63 s.data.toList
  rw [len_list] at l1 l2
  have HP := hide (fun W => isPath_any ⟨(before 63 s.data.toList).toArray⟩ W (by rw [str_size]; omega))
  have HM := hide (fun W => madeOf_any ⟨(behind 63 s.data.toList).toArray⟩ ⟨#[47, 63]⟩ W (by rw [str_size]; omega))
  have HS : Hid (pathQ s.data.toList = (isPth (⟨(before 63 s.data.toList).toArray⟩ : ByteArray).data.toList && madeOf (⟨#[47, 63]⟩ : ByteArray).data.toList (⟨(behind 63 s.data.toList).toArray⟩ : ByteArray).data.toList)) := rfl
  generalize isPth (⟨(before 63 s.data.toList).toArray⟩ : ByteArray).data.toList = t at *
  generalize madeOf (⟨#[47, 63]⟩ : ByteArray).data.toList (⟨(behind 63 s.data.toList).toArray⟩ : ByteArray).data.toList = u at *
  go_enter Tryz.func43, Tryz.ntmps43
  go_wp2_with fail
  refine HSp.out.mono ?_
  rintro x w1 ⟨rfl, hb1⟩
  have B1 := hide hb1
  clear hb1
  cases t
  all_goals
    go_wp2_with (first
      | (go_at_call 56; refine (HP.out _).mono ?_; rintro x w2 ⟨rfl, hw2⟩; obtain rfl := hw2.symm)
      | (go_at_call 57; refine (HM.out _).mono ?_; rintro x w2 ⟨rfl, hw2⟩; obtain rfl := hw2.symm))
    go_ret
    exact ⟨by rw [HS.out]; rfl, B1.out⟩

end Go.Proofs.YtmdjppjfjkgnpaaGreatDoor.tm
