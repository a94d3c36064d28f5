import Derived.WalkKit
import Derived.Test.YtilhfmhjgfmejaaGreatDoorMByteKit
import Derived.Shelf.Abstract
import Derived.Test.YtilhfmhjgfmejaaGreatDoorMRgBase
import Derived.Laws.Cover1
import Derived.Sort.Walk0
import Derived.BigQuiet
namespace Go.Proofs.YtilhfmhjgfmejaaGreatDoor.Tm

/-- bytes from lo to hi -/
def btw (lo hi : Nat) (b : UInt8) : Bool := decide (lo ≤ b.toNat ∧ b.toNat ≤ hi)
/-- one byte or more, up to so many, each of which may be there -/
def word (most : Nat) (p : UInt8 → Bool) (l : List UInt8) : Bool := !l.isEmpty && decide (l.length ≤ most) && l.all p

theorem all_take (l : List UInt8) (p : UInt8 → Bool) (k : Nat) (h : k < l.length) : (l.take (k + 1)).all p = ((l.take k).all p && p l[k]) := by
  rw [List.take_succ_eq_append_getElem h, List.all_append]; simp
theorem all_short (l : List UInt8) (p : UInt8 → Bool) (k : Nat) (h : (l.take k).all p = false) : l.all p = false := by
  have e : l.all p = ((l.take k).all p && (l.drop k).all p) := by rw [← List.all_append, List.take_append_drop]
  rw [e, h]; rfl
end Go.Proofs.YtilhfmhjgfmejaaGreatDoor.Tm

namespace Go.Proofs.YtilhfmhjgfmejaaGreatDoor.tm
open Go.ChangeShapes Go.WideShapes Go.ChangeAt Go.RowKit Go.Proofs.YtilhfmhjgfmejaaGreatDoor.common Go.Proofs.YtilhfmhjgfmejaaGreatDoor.bk
attribute [local go_sem ↓] Go.wp_at_zero Go.wp_at_succ

/-- what is asked of a test of bytes -/
def Tests (g : Nat) (p : UInt8 → Bool) : Prop :=
  ∀ (W : World) (c : UInt8), Calls Tryz.prog g #[B c] W fun e W' => e = .returned (.bool (p c)) ∧ W' = W
abbrev Enters (g : Nat) : Prop := ∀ args w, (callFunc g args).run Tryz.prog w = .ok (.enter g args) w

set_option maxRecDepth 100000 in
set_option maxHeartbeats 1600000 in
theorem all_any (s : ByteArray) (g : Nat) (p : UInt8 → Bool) (w : World) (hs : s.size ≤ 4611686018427387904) (eg : Enters g) (hf : Tests g p) :
    Calls Tryz.prog 88 #[.string s, .func (.func g) #[] #[]] w fun e w' => e = .returned (.bool (s.data.toList.all p)) ∧ w' = w := by
  have HF := hide hf
  clear hf
  have eg' : ∀ args w, (callFunc g args).run Tryz.prog w = .ok (.enter g args) w := eg
  clear eg
  have HT : Hid (∀ k (_ : k < s.size), (s.data.toList.take (k + 1)).all p = ((s.data.toList.take k).all p && p s[k])) := fun k h => Tm.all_take _ p k (by simpa using h)
  have HE : Hid (s.data.toList.take s.size = s.data.toList) := take_all s
  have HA : Hid (∀ k, (s.data.toList.take k).all p = false → s.data.toList.all p = false) := fun k h => Tm.all_short _ p k h
  go_enter Tryz.func88, Tryz.ntmps88
  go_wp2_with fail
  go_loopw [8] (fun i wr => ∃ k : Nat, k ≤ s.size ∧ i = .int .i64 k ∧ (s.data.toList.take k).all p = true ∧ wr = w) (fun i _ => s.size - (intOf i).toNat)
  case atStart => exact ⟨0, Nat.zero_le _, rfl, by simp, rfl⟩
  case round =>
    obtain ⟨k, hk, rfl, ha, rfl⟩ := hrel
    have HAK := hide ha
    clear ha
    by_cases hlt : k < s.size
    · have hki : (k : Int) < (s.size : Int) := by omega
      have HTK := hide (HT.out k hlt)
      have HFK := hide (HF.out wr s[k])
      cases hp : p s[k] with
      | true =>
        have HP := hide hp
        clear hp
        go_wp2_with (go_at_fn g; refine HFK.out.mono ?_; rintro x w2 ⟨rfl, rfl⟩; rw [HP.out])
        go_roundw
        case rel => exact ⟨k + 1, by omega, by go_num, by rw [HTK.out, HAK.out, HP.out]; rfl, by trivial⟩
        case measure => simp [intOf]; omega
      | false =>
        have HP := hide hp
        clear hp
        have HR : Hid (s.data.toList.all p = false) := HA.out (k + 1) (by rw [HTK.out, HP.out, Bool.and_false])
        go_wp2_with (go_at_fn g; refine HFK.out.mono ?_; rintro x w2 ⟨rfl, rfl⟩; rw [HP.out])
        go_ret
        exact ⟨by rw [HR.out]; rfl, rfl⟩
    · obtain rfl : k = s.size := by omega
      rw [HE.out] at HAK
      go_wp2_with fail
      go_ret
      exact ⟨by rw [HAK.out]; rfl, rfl⟩

set_option maxHeartbeats 800000 in
theorem vis_tests : Tests 69 (Tm.btw 33 126) := by
  intro w c
  have hc := c.toNat_lt
  by_cases h1 : 33 ≤ c.toNat
  · have h1i : (33 : Int) ≤ (c.toNat : Int) := by omega
    by_cases h2 : c.toNat ≤ 126
    · have h2i : (c.toNat : Int) ≤ 126 := by omega
      have HR : Hid (Tm.btw 33 126 c = true) := decide_eq_true ⟨h1, h2⟩
      rw [HR.out]
      go_enter Tryz.func69, Tryz.ntmps69
      go_wp2
      go_ret
      exact ⟨rfl, rfl⟩
    · have h2i : ¬ (c.toNat : Int) ≤ 126 := by omega
      have HR : Hid (Tm.btw 33 126 c = false) := decide_eq_false fun h => h2 h.2
      rw [HR.out]
      go_enter Tryz.func69, Tryz.ntmps69
      go_wp2
      go_ret
      exact ⟨rfl, rfl⟩
  · have h1i : ¬ (33 : Int) ≤ (c.toNat : Int) := by omega
    have HR : Hid (Tm.btw 33 126 c = false) := decide_eq_false fun h => h1 h.1
    rw [HR.out]
    go_enter Tryz.func69, Tryz.ntmps69
    go_wp2
    go_ret
    exact ⟨rfl, rfl⟩
theorem vis_enters : Enters 69 := enters_of Tryz.func69 (by kernel_rfl) rfl

theorem word_ne {s : ByteArray} (he : s ≠ ⟨#[]⟩) : (s.toList == []) = false ∧ s.data.toList.isEmpty = false ∧ s.toList.isEmpty = false := by
  have hne : ¬ s.toList = [] := fun e => he (ba_ext (by rw [ByteArray.toList_eq] at e; rw [e]))
  have h4 : s.toList.isEmpty = false := by cases hh : s.toList with
    | nil => exact absurd hh hne
    | cons _ _ => rfl
  refine ⟨beq_false_of_ne hne, ?_, h4⟩
  rw [ByteArray.toList_eq] at h4; exact h4

set_option maxRecDepth 100000 in
set_option maxHeartbeats 1600000 in
theorem isWord_any (s : ByteArray) (most : Nat) (g : Nat) (p : UInt8 → Bool) (w : World) (hs : s.size ≤ 4611686018427387904) (eg : Enters g) (hf : Tests g p) :
    Calls Tryz.prog 68 #[.string s, .int .i64 most, .func (.func g) #[] #[]] w fun e w' => e = .returned (.bool (Tm.word most p s.data.toList)) ∧ w' = w := by
  have HA := hide (fun W => all_any s g p W hs eg hf)
  clear hf eg
  by_cases he : s = ⟨#[]⟩
  · subst he
    go_enter Tryz.func68, Tryz.ntmps68
    go_wp2_with fail
    go_ret
    exact ⟨rfl, rfl⟩
  · obtain ⟨h1, h2, h3⟩ := word_ne he
    by_cases hm : s.size ≤ most
    · have hmi : (s.size : Int) ≤ (most : Int) := by omega
      have HR : Hid (Tm.word most p s.data.toList = s.data.toList.all p) := by
        show _ = _
        unfold Tm.word
        rw [h2, len_list, decide_eq_true hm]; rfl
      rw [HR.out]
      generalize s.data.toList.all p = t at *
      go_enter Tryz.func68, Tryz.ntmps68
      go_wp2_with (go_at_call 88; refine (HA.out _).mono ?_; rintro x w2 ⟨rfl, rfl⟩)
      go_ret
      exact ⟨rfl, rfl⟩
    · have hmi : ¬ (s.size : Int) ≤ (most : Int) := by omega
      have HR : Hid (Tm.word most p s.data.toList = false) := by
        show _ = _
        unfold Tm.word
        rw [len_list, decide_eq_false hm]; simp
      rw [HR.out]
      go_enter Tryz.func68, Tryz.ntmps68
      go_wp2_with fail
      go_ret
      exact ⟨rfl, rfl⟩

end Go.Proofs.YtilhfmhjgfmejaaGreatDoor.tm

namespace Go.Proofs.YtilhfmhjgfmejaaGreatDoor.rc
open Go.ChangeShapes Go.WideShapes Go.ChangeAt Go.RowKit Go.Proofs.YtilhfmhjgfmejaaGreatDoor.common Go.Proofs.YtilhfmhjgfmejaaGreatDoor.bk Go.Proofs.YtilhfmhjgfmejaaGreatDoor.ss Go.Proofs.YtilhfmhjgfmejaaGreatDoor.tm
attribute [local go_sem ↓] Go.wp_at_zero Go.wp_at_succ

/-- which fields each kind names -/
def kf : List Int := [0, 131, 1, 198, 223, 1, 231, 1, 1, 231, 1, 6]
def isK (k : Int) : Bool := decide (0 < k) && decide (k < 12)
def nm (k f : Int) : Bool := isK k && !(bits .and .i64 (kf.getD k.toNat 0) f == 0)

end Go.Proofs.YtilhfmhjgfmejaaGreatDoor.rc

namespace Go.Proofs.YtilhfmhjgfmejaaGreatDoor.rc
open Go.ChangeShapes Go.WideShapes Go.ChangeAt Go.RowKit Go.Proofs.YtilhfmhjgfmejaaGreatDoor.common Go.Proofs.YtilhfmhjgfmejaaGreatDoor.bk Go.Proofs.YtilhfmhjgfmejaaGreatDoor.ss Go.Proofs.YtilhfmhjgfmejaaGreatDoor.tm
attribute [local go_sem ↓] Go.wp_at_zero Go.wp_at_succ

theorem Lies.len {w : World} {v : Value} {l : List ByteArray} (h : Lies w v l) : ∃ oa cap, v = .slice oa l.length cap := by
  obtain ⟨oa, cap, hv, _⟩ := h
  exact ⟨oa, cap, hv⟩
/-- each text below the next one -/
def ris (l : List ByteArray) (k : Nat) : Prop := ∀ i, i < k → i + 1 < l.length → (l.getD i ByteArray.empty).data.toList < (l.getD (i + 1) ByteArray.empty).data.toList
def risB (l : List ByteArray) : Bool := decide (∀ i, i < l.length → i + 1 < l.length → (l.getD i ByteArray.empty).data.toList < (l.getD (i + 1) ByteArray.empty).data.toList)
theorem lessB (a b : ByteArray) : Op.bytesLess a.toList b.toList = decide (a.data.toList < b.data.toList) := by
  rw [Go.Proofs.bytesLess_eq, ByteArray.toList_eq, ByteArray.toList_eq]
end Go.Proofs.YtilhfmhjgfmejaaGreatDoor.rc
