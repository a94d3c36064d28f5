import Derived.Test.YtmdjppjfjkgnpaaGreatDoorByteKit
import Derived.Test.YtmdjppjfjkgnpaaGreatDoorTmMath
import Derived.Shelf.Abstract
namespace Go.Proofs.YtmdjppjfjkgnpaaGreatDoor.tm
open Go.ChangeShapes Go.WideShapes Go.ChangeAt Go.RowKit Go.Proofs.YtmdjppjfjkgnpaaGreatDoor.common Go.Proofs.YtmdjppjfjkgnpaaGreatDoor.bk
attribute [local go_sem ↓] Go.wp_at_zero Go.wp_at_succ

/-- what is asked of a test of bytes -/
def Tests (g : Nat) (p : UInt8 → Bool) : Prop :=
  ∀ (W : World) (c : UInt8), Calls Tryz.prog g #[B c] W fun e W' => e = .returned (.bool (p c)) ∧ W' = W
abbrev Enters (g : Nat) : Prop := ∀ args w, (callFunc g args).run Tryz.prog w = .ok (.enter g args) w

set_option maxRecDepth 100000 in
set_option maxHeartbeats 1600000 in
theorem all_any (s : ByteArray) (g : Nat) (p : UInt8 → Bool) (w : World) (hs : s.size ≤ 4611686018427387904) (eg : Enters g) (hf : Tests g p) :
    Calls Tryz.prog 36 #[.string s, .func (.func g) #[] #[]] w fun e w' => e = .returned (.bool (s.data.toList.all p)) ∧ w' = w := by
  have HF := hide hf
  clear hf
  have eg' : ∀ args w, (callFunc g args).run Tryz.prog w = .ok (.enter g args) w := eg
  clear eg
  have HT : Hid (∀ k (_ : k < s.size), (s.data.toList.take (k + 1)).all p = ((s.data.toList.take k).all p && p s[k])) := fun k h => Tm.all_take _ p k (by simpa using h)
  have HE : Hid (s.data.toList.take s.size = s.data.toList) := take_all s
  have HA : Hid (∀ k, (s.data.toList.take k).all p = false → s.data.toList.all p = false) := fun k h => Tm.all_short _ p k h
  go_enter Tryz.func36, Tryz.ntmps36
  go_wp2_with fail
  go_loopw [8] (fun i wr => ∃ k : Nat, k ≤ s.size ∧ i = .int .i64 k ∧ (s.data.toList.take k).all p = true ∧ wr = w) (fun i _ => s.size - (intOf i).toNat)
  case atStart => exact ⟨0, Nat.zero_le _, rfl, by simp, rfl⟩
  case round =>
    obtain ⟨k, hk, rfl, ha, rfl⟩ := hrel
    have HAK := hide ha
    clear ha
    by_cases hlt : k < s.size
    · have hki : (k : Int) < (s.size : Int) := by omega
      have HTK := hide (HT.out k hlt)
      have HFK := hide (HF.out wr s[k])
      cases hp : p s[k] with
      | true =>
        have HP := hide hp
        clear hp
        go_wp2_with (go_at_fn g; refine HFK.out.mono ?_; rintro x w2 ⟨rfl, rfl⟩; rw [HP.out])
        go_roundw
        case rel => exact ⟨k + 1, by omega, by go_num, by rw [HTK.out, HAK.out, HP.out]; rfl, by trivial⟩
        case measure => simp [intOf]; omega
      | false =>
        have HP := hide hp
        clear hp
        have HR : Hid (s.data.toList.all p = false) := HA.out (k + 1) (by rw [HTK.out, HP.out, Bool.and_false])
        go_wp2_with (go_at_fn g; refine HFK.out.mono ?_; rintro x w2 ⟨rfl, rfl⟩; rw [HP.out])
        go_ret
        exact ⟨by rw [HR.out]; rfl, rfl⟩
    · obtain rfl : k = s.size := by omega
      rw [HE.out] at HAK
      go_wp2_with fail
      go_ret
      exact ⟨by rw [HAK.out]; rfl, rfl⟩

theorem word_ne {s : ByteArray} (he : s ≠ ⟨#[]⟩) : (s.toList == []) = false ∧ s.data.toList.isEmpty = false ∧ s.toList.isEmpty = false := by
  have hne : ¬ s.toList = [] := fun e => he (ba_ext (by rw [ByteArray.toList_eq] at e; rw [e]))
  have h4 : s.toList.isEmpty = false := by cases hh : s.toList with
    | nil => exact absurd hh hne
    | cons _ _ => rfl
  refine ⟨beq_false_of_ne hne, ?_, h4⟩
  rw [ByteArray.toList_eq] at h4; exact h4

set_option maxRecDepth 100000 in
set_option maxHeartbeats 1600000 in
theorem isWord_any (s : ByteArray) (most : Nat) (g : Nat) (p : UInt8 → Bool) (w : World) (hs : s.size ≤ 4611686018427387904) (eg : Enters g) (hf : Tests g p) :
    Calls Tryz.prog 67 #[.string s, .int .i64 most, .func (.func g) #[] #[]] w fun e w' => e = .returned (.bool (Tm.word most p s.data.toList)) ∧ w' = w := by
  have HA := hide (fun W => all_any s g p W hs eg hf)
  clear hf eg
  by_cases he : s = ⟨#[]⟩
  · subst he
    go_enter Tryz.func67, Tryz.ntmps67
    go_wp2_with fail
    go_ret
    exact ⟨rfl, rfl⟩
  · obtain ⟨h1, h2, h3⟩ := word_ne he
    by_cases hm : s.size ≤ most
    · have hmi : (s.size : Int) ≤ (most : Int) := by omega
      have HR : Hid (Tm.word most p s.data.toList = s.data.toList.all p) := by
        show _ = _
        unfold Tm.word
        rw [h2, len_list, decide_eq_true hm]; rfl
      rw [HR.out]
      generalize s.data.toList.all p = t at *
      go_enter Tryz.func67, Tryz.ntmps67
      go_wp2_with (go_at_call 36; refine (HA.out _).mono ?_; rintro x w2 ⟨rfl, rfl⟩)
      go_ret
      exact ⟨rfl, rfl⟩
    · have hmi : ¬ (s.size : Int) ≤ (most : Int) := by omega
      have HR : Hid (Tm.word most p s.data.toList = false) := by
        show _ = _
        unfold Tm.word
        rw [len_list, decide_eq_false hm]; simp
      rw [HR.out]
      go_enter Tryz.func67, Tryz.ntmps67
      go_wp2_with fail
      go_ret
      exact ⟨rfl, rfl⟩

end Go.Proofs.YtmdjppjfjkgnpaaGreatDoor.tm
