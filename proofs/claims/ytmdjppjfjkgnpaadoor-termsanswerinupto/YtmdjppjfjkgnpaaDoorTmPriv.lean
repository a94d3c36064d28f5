import Derived.Test.YtmdjppjfjkgnpaaDoorTmHost
namespace Go.Proofs.YtmdjppjfjkgnpaaDoor.tm
open Go.ChangeShapes Go.WideShapes Go.ChangeAt Go.RowKit Go.Proofs.YtmdjppjfjkgnpaaDoor.common Go.Proofs.YtmdjppjfjkgnpaaDoor.bk
open Go.Proofs.YtmdjppjfjkgnpaaDoor.fd (before behind)
attribute [local go_sem ↓] Go.wp_at_zero Go.wp_at_succ

set_option maxRecDepth 100000 in
theorem containsOne_any (s : ByteArray) (c : UInt8) (w : World) :
    Calls Tryd.prog 61 #[.string s, .string ⟨#[c]⟩] w fun e w' => e = .returned (.bool (s.data.toList.contains c)) ∧ w' = w := by
  have HI := hide (fun W => tsq.index_any s c W)
  have HC := hide (contains_ix s.data.toList c)
  generalize Lib.indexByte s.data.toList c = i at *
  generalize s.data.toList.contains c = t at *
  go_enter Tryd.func61, Tryd.ntmps61
  go_wp2_with (go_at_call 70; refine (HI.out _).mono ?_; rintro x w2 ⟨rfl, rfl⟩)
  go_ret
  exact ⟨by rw [← HC.out]; rfl, rfl⟩

/-- a scheme of an own name -/
def privS (l : List UInt8) : Bool := !l.isEmpty && Tm.btw 97 122 (l.headD 0) && l.all schB && l.contains 46
/-- a scheme of an own name, a colon, a path that begins with one slash -/
def privA (l : List UInt8) : Bool := privS (before 58 l) && [47].isPrefixOf (behind 58 l) && !([47, 47].isPrefixOf (behind 58 l)) && pathQ (behind 58 l)

set_option maxRecDepth 100000 in
set_option maxHeartbeats 3200000 in
theorem privS_any (s : ByteArray) (w : World) (hs : s.size ≤ 4611686018427387900) :
    Calls Tryd.prog 45 #[.string s] w fun e w' => e = .returned (.bool (privS s.data.toList)) ∧ w' = w := by
  by_cases he : s = ⟨#[]⟩
  · subst he
    go_enter Tryd.func45, Tryd.ntmps45
    go_wp2_with fail
    go_ret
    exact ⟨rfl, rfl⟩
  · obtain ⟨h1, h2, h3⟩ := word_ne he
    have hp : 0 < s.size := by
      cases hz : s.size with
      | zero => exact absurd (str_nil s (List.eq_nil_of_length_eq_zero (by rw [len_list]; exact hz))) he
      | succ n => omega
    have hpi : (0 : Int) < (s.size : Int) := by omega
    have HS : Hid (privS s.data.toList = (Tm.btw 97 122 s[0] && s.data.toList.all schB && s.data.toList.contains 46)) := by
      show _ = _
      unfold privS
      rw [h2, head_is s hp]; rfl
    have HV := hide (small_tests w s[0])
    have HA := hide (all_any s _ schB w (by omega) sch_enters sch_tests)
    have HC := hide (containsOne_any s 46 w)
    generalize Tm.btw 97 122 s[0] = t at *
    generalize s.data.toList.all schB = u at *
    generalize s.data.toList.contains 46 = v at *
    cases t <;> cases u
    all_goals
      go_enter Tryd.func45, Tryd.ntmps45
      go_wp2_with (first
        | (go_at_call 59; refine HV.out.mono ?_; rintro x w2 ⟨rfl, rfl⟩)
        | (go_at_call 40; refine HA.out.mono ?_; rintro x w2 ⟨rfl, rfl⟩)
        | (go_at_call 61; refine HC.out.mono ?_; rintro x w2 ⟨rfl, rfl⟩))
      go_ret
      exact ⟨by rw [HS.out]; rfl, rfl⟩

set_option maxRecDepth 100000 in
set_option maxHeartbeats 3200000 in
theorem privA_any (s : ByteArray) (w : World) (hs : s.size ≤ 4611686018427387900) :
    Calls Tryd.prog 30 #[.string s] w fun e w' => e = .returned (.bool (privA s.data.toList)) ∧ Below w.heap.size w w' := by
  have HSp := hide (fd.cut_any s 58 w (by omega))
  have l1 := before_le 58 s.data.toList
  have l2 := behind_le 58 s.data.toList
  rw [len_list] at l1 l2
  have HP := hide (fun W => privS_any ⟨(before 58 s.data.toList).toArray⟩ W (by rw [str_size]; omega))
  have HH := hide (fun W => hasPrefix_any ⟨(behind 58 s.data.toList).toArray⟩ ⟨#[47]⟩ W)
  have HK := hide (fun W => hasPrefix_any ⟨(behind 58 s.data.toList).toArray⟩ ⟨#[47, 47]⟩ W)
  have HQ := hide (fun W => pathQ_any ⟨(behind 58 s.data.toList).toArray⟩ W (by rw [str_size]; omega))
  have HS : Hid (privA s.data.toList = (privS (⟨(before 58 s.data.toList).toArray⟩ : ByteArray).data.toList && (⟨#[47]⟩ : ByteArray).data.toList.isPrefixOf (⟨(behind 58 s.data.toList).toArray⟩ : ByteArray).data.toList && !((⟨#[47, 47]⟩ : ByteArray).data.toList.isPrefixOf (⟨(behind 58 s.data.toList).toArray⟩ : ByteArray).data.toList) && pathQ (⟨(behind 58 s.data.toList).toArray⟩ : ByteArray).data.toList)) := rfl
  generalize privS (⟨(before 58 s.data.toList).toArray⟩ : ByteArray).data.toList = t at *
  generalize (⟨#[47]⟩ : ByteArray).data.toList.isPrefixOf (⟨(behind 58 s.data.toList).toArray⟩ : ByteArray).data.toList = u at *
  generalize (⟨#[47, 47]⟩ : ByteArray).data.toList.isPrefixOf (⟨(behind 58 s.data.toList).toArray⟩ : ByteArray).data.toList = v at *
  generalize pathQ (⟨(behind 58 s.data.toList).toArray⟩ : ByteArray).data.toList = y at *
  go_enter Tryd.func30, Tryd.ntmps30
  go_wp2_with fail
  refine HSp.out.mono ?_
  rintro x w1 ⟨rfl, hb1⟩
  have B1 := hide hb1
  clear hb1
  cases t <;> cases u <;> cases v
  all_goals
    go_wp2_with (first
      | (go_at_call 45; refine (HP.out _).mono ?_; rintro x w2 ⟨rfl, hw2⟩; obtain rfl := hw2.symm)
      | (go_at_call 46; first
        | (with_reducible refine (HH.out _).mono ?_; rintro x w2 ⟨rfl, hw2⟩; obtain rfl := hw2.symm)
        | (with_reducible refine (HK.out _).mono ?_; rintro x w2 ⟨rfl, hw2⟩; obtain rfl := hw2.symm))
      | (go_at_call 47; refine (HQ.out _).mono ?_; rintro x w3 ⟨rfl, hb3⟩; have B3 := hide (keepD B1.out hb3); clear hb3))
    go_ret
    exact ⟨by rw [HS.out]; rfl, by first | exact B3.out | exact B1.out⟩

end Go.Proofs.YtmdjppjfjkgnpaaDoor.tm
