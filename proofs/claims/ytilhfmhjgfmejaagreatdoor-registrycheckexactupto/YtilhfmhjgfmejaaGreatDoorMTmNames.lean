import Derived.Test.YtilhfmhjgfmejaaGreatDoorMRcList
import Derived.Deep.RegionHeld3
namespace Go.Proofs.YtilhfmhjgfmejaaGreatDoor.rc
open Go.ChangeShapes Go.WideShapes Go.ChangeAt Go.RowKit Go.Proofs.YtilhfmhjgfmejaaGreatDoor.common Go.Proofs.YtilhfmhjgfmejaaGreatDoor.bk Go.Proofs.YtilhfmhjgfmejaaGreatDoor.ss Go.Proofs.YtilhfmhjgfmejaaGreatDoor.tm
attribute [local go_sem ↓] Go.wp_at_zero Go.wp_at_succ

theorem bdN' {b : Nat} {a c : World} (h : Below b a c) (n : Nat) : Below b a (c.drewN n) := ⟨h.1, h.2, h.3, h.4, h.5⟩
theorem getD_at (l : List ByteArray) (i : Nat) (h : i < l.length) : l.getD i ByteArray.empty = l[i] := by simp [List.getD, h]
set_option maxRecDepth 100000 in
set_option maxHeartbeats 1600000 in
/-- is the list just one text? -/
theorem equalOne_any (v : Value) (l : List ByteArray) (s : ByteArray) (b : Nat) (w : World) (hL : Lies w v l) (hl : l.length ≤ 4611686018427387904) (hb : w.cell? ⟨b, 0, none⟩ = some (.string s)) :
    Calls Tryz.prog 73 #[v, .slice (some ⟨b, 0, none⟩) 1 1] w fun e w' => e = .returned (.bool (decide (l = [s]))) ∧ Below w.heap.size w w' := by
  obtain ⟨oa, cap, rfl, hc⟩ := hL
  by_cases h1 : l.length = 1
  · obtain ⟨t, rfl⟩ : ∃ t, l = [t] := by
      cases l with
      | nil => cases h1
      | cons a r =>
        cases r with
        | nil => exact ⟨a, rfl⟩
        | cons c r => simp at h1
    obtain ⟨b', o', he, hb', c0⟩ := hc 0 (by simp)
    subst he
    simp only [Nat.add_zero, List.getElem_cons_zero] at c0
    clear hc h1 hl
    by_cases hst : t = s
    · subst hst
      have HR : Hid (decide ([t] = [t]) = true) := decide_eq_true rfl
      go_enter Tryz.func73, Tryz.ntmps73
      go_wp2
      go_loopw [13] (fun i wr => ∃ k : Nat, k ≤ 1 ∧ i = .int .i64 k ∧ Below w.heap.size w wr ∧ wr.cell? ⟨b', o', none⟩ = some (.string t) ∧ wr.cell? ⟨b, 0, none⟩ = some (.string t)) (fun i _ => 1 - (intOf i).toNat)
      case atStart => exact ⟨0, by decide, rfl, Below.refl _ _, c0, hb⟩
      case round =>
        obtain ⟨k, hk, rfl, hnx, d0, d1⟩ := hrel
        have HX := hide hnx
        clear hnx c0 hb
        by_cases hlt : k < 1
        · obtain rfl : k = 0 := by omega
          go_wp2_with fail
          go_quiet (fail)
          go_wp2_with fail
          go_roundw
          case rel => exact ⟨1, by decide, rfl, bdN' HX.out nq, d0, d1⟩
          case measure => simp [intOf]
        · have k1 : ¬ ((k : Int) < 1) := by omega
          clear d0 d1 HR
          go_wp2_with fail
          go_ret
          exact ⟨by simp, HX.out⟩
    · have HR : Hid (decide ([t] = [s]) = false) := decide_eq_false (fun h => hst (by simpa using h))
      have hne : (t.toList == s.toList) = false := beq_false_of_ne (fun h => hst (ba_ext (by rw [ByteArray.toList_eq, ByteArray.toList_eq] at h; exact h)))
      have hne' : (t.data.toList == s.data.toList) = false := by rw [ByteArray.toList_eq, ByteArray.toList_eq] at hne; exact hne
      clear hst
      go_enter Tryz.func73, Tryz.ntmps73
      go_wp2
      go_loopw [13] (fun i wr => i = .int .i64 0 ∧ Below w.heap.size w wr ∧ wr.cell? ⟨b', o', none⟩ = some (.string t) ∧ wr.cell? ⟨b, 0, none⟩ = some (.string s)) (fun i _ => 1 - (intOf i).toNat)
      case atStart => exact ⟨rfl, Below.refl _ _, c0, hb⟩
      case round =>
        obtain ⟨rfl, hnx, d0, d1⟩ := hrel
        have HX := hide hnx
        clear hnx c0 hb
        go_wp2_with fail
        go_quiet (fail)
        go_wp2_with fail
        go_ret
        exact ⟨by rw [HR.out]; rfl, bdN' HX.out nq⟩
  · have HR : Hid (decide (l = [s]) = false) := decide_eq_false (fun h => h1 (by rw [h]; rfl))
    have hb1 : ((l.length : Int) == 1) = false := beq_false_of_ne (by omega)
    have hb2 : ¬ (l.length : Int) = 1 := by omega
    clear hc
    go_enter Tryz.func73, Tryz.ntmps73
    go_wp2
    go_ret
    exact ⟨by rw [HR.out]; rfl, Below.refl _ _⟩
end Go.Proofs.YtilhfmhjgfmejaaGreatDoor.rc

namespace Go.Proofs.YtilhfmhjgfmejaaGreatDoor.tm
open Go.ChangeShapes Go.WideShapes Go.ChangeAt Go.RowKit Go.Proofs.YtilhfmhjgfmejaaGreatDoor.common Go.Proofs.YtilhfmhjgfmejaaGreatDoor.bk
attribute [local go_sem ↓] Go.wp_at_zero Go.wp_at_succ

set_option maxRecDepth 100000 in
set_option maxHeartbeats 1600000 in
theorem refWithin_any (s : ByteArray) (most lo hi : Nat) (w : World) (hs : s.size ≤ 4611686018427387904) :
    Calls Tryz.prog 75 #[.string s, .int .i64 most, .int .u8 lo, .int .u8 hi] w fun e w' => e = .returned (.bool (Tm.word most (Tm.btw lo hi) s.data.toList)) ∧ w' = w := by
  have HT : Hid (∀ k (_ : k < s.size), (s.data.toList.take (k + 1)).all (Tm.btw lo hi) = ((s.data.toList.take k).all (Tm.btw lo hi) && Tm.btw lo hi s[k])) := fun k h => Tm.all_take _ _ k (by simpa using h)
  have HE : Hid (s.data.toList.take s.size = s.data.toList) := take_all s
  have HA : Hid (∀ k, (s.data.toList.take k).all (Tm.btw lo hi) = false → s.data.toList.all (Tm.btw lo hi) = false) := fun k h => Tm.all_short _ _ k h
  have HW : Hid (Tm.word most (Tm.btw lo hi) s.data.toList = (!s.data.toList.isEmpty && decide (s.size ≤ most) && s.data.toList.all (Tm.btw lo hi))) := by
    show _ = _
    unfold Tm.word
    rw [len_list]
  go_enter Tryz.func75, Tryz.ntmps75
  go_wp2_with fail
  go_loopw [9] (fun i wr => ∃ k : Nat, k ≤ s.size ∧ i = .int .i64 k ∧ (s.data.toList.take k).all (Tm.btw lo hi) = true ∧ wr = w) (fun i _ => s.size - (intOf i).toNat)
  case atStart => exact ⟨0, Nat.zero_le _, rfl, by simp, rfl⟩
  case round =>
    obtain ⟨k, hk, rfl, ha, rfl⟩ := hrel
    have HAK := hide ha
    clear ha
    by_cases hlt : k < s.size
    · have hki : (k : Int) < (s.size : Int) := by omega
      have HTK := hide (HT.out k hlt)
      have eb : ∀ c : UInt8, Tm.btw lo hi c = decide (lo ≤ c.toNat ∧ c.toNat ≤ hi) := fun _ => rfl
      have HB := hide (eb s[k])
      clear eb
      by_cases h1 : s[k].toNat < lo
      · have h1i : (s[k].toNat : Int) < (lo : Int) := by omega
        have HR : Hid (s.data.toList.all (Tm.btw lo hi) = false) := HA.out (k + 1) (by rw [HTK.out, HB.out, decide_eq_false (fun h => absurd h.1 (by omega)), Bool.and_false])
        go_wp2_with fail
        go_ret
        exact ⟨by rw [HW.out, HR.out, Bool.and_false]; rfl, rfl⟩
      · have h1i : ¬ (s[k].toNat : Int) < (lo : Int) := by omega
        by_cases h2 : hi < s[k].toNat
        · have h2i : (hi : Int) < (s[k].toNat : Int) := by omega
          have HR : Hid (s.data.toList.all (Tm.btw lo hi) = false) := HA.out (k + 1) (by rw [HTK.out, HB.out, decide_eq_false (fun h => absurd h.2 (by omega)), Bool.and_false])
          go_wp2_with fail
          go_ret
          exact ⟨by rw [HW.out, HR.out, Bool.and_false]; rfl, rfl⟩
        · have h2i : ¬ (hi : Int) < (s[k].toNat : Int) := by omega
          have HR : Hid ((s.data.toList.take (k + 1)).all (Tm.btw lo hi) = true) := by
            show _ = _
            rw [HTK.out, HB.out, HAK.out, decide_eq_true ⟨by omega, by omega⟩]; rfl
          go_wp2_with fail
          go_roundw
          case rel => exact ⟨k + 1, by omega, by go_num, HR.out, by trivial⟩
          case measure => simp [intOf]; omega
    · obtain rfl : k = s.size := by omega
      rw [HE.out] at HAK
      by_cases he : s = ⟨#[]⟩
      · subst he
        go_wp2_with fail
        go_ret
        exact ⟨rfl, rfl⟩
      · obtain ⟨h1, h2, h3⟩ := word_ne he
        by_cases hm : s.size ≤ most
        · have hmi : (s.size : Int) ≤ (most : Int) := by omega
          have HR : Hid (Tm.word most (Tm.btw lo hi) s.data.toList = true) := by
            show _ = _
            rw [HW.out, HAK.out, h2, decide_eq_true hm]; rfl
          go_wp2_with fail
          go_ret
          exact ⟨by rw [HR.out]; rfl, rfl⟩
        · have hmi : ¬ (s.size : Int) ≤ (most : Int) := by omega
          have HR : Hid (Tm.word most (Tm.btw lo hi) s.data.toList = false) := by
            show _ = _
            rw [HW.out, decide_eq_false hm]; simp
          go_wp2_with fail
          go_ret
          exact ⟨by rw [HR.out]; rfl, rfl⟩

end Go.Proofs.YtilhfmhjgfmejaaGreatDoor.tm

namespace Go.Proofs.YtilhfmhjgfmejaaGreatDoor.tm
open Go.ChangeShapes Go.WideShapes Go.ChangeAt Go.RowKit Go.Proofs.YtilhfmhjgfmejaaGreatDoor.common Go.Proofs.YtilhfmhjgfmejaaGreatDoor.bk
attribute [local go_sem ↓] Go.wp_at_zero Go.wp_at_succ

set_option maxHeartbeats 800000 in
theorem name_any (s : ByteArray) (w : World) (hs : s.size ≤ 4611686018427387904) :
    Calls Tryz.prog 51 #[.string s] w fun e w' => e = .returned (.bool (Tm.word 64 (Tm.btw 33 126) s.data.toList)) ∧ w' = w := by
  have HA := hide (fun W => isWord_any s 64 _ _ W hs vis_enters vis_tests)
  generalize Tm.word 64 (Tm.btw 33 126) s.data.toList = t at *
  go_enter Tryz.func51, Tryz.ntmps51
  go_wp2_with (go_at_call 68; refine (HA.out _).mono ?_; rintro x w2 ⟨rfl, rfl⟩)
  go_ret
  exact ⟨rfl, rfl⟩
set_option maxHeartbeats 800000 in
theorem refName_any (s : ByteArray) (w : World) (hs : s.size ≤ 4611686018427387904) :
    Calls Tryz.prog 59 #[.string s] w fun e w' => e = .returned (.bool (Tm.word 64 (Tm.btw 33 126) s.data.toList)) ∧ w' = w := by
  have HA := hide (fun W => refWithin_any s 64 33 126 W hs)
  generalize Tm.word 64 (Tm.btw 33 126) s.data.toList = t at *
  go_enter Tryz.func59, Tryz.ntmps59
  go_wp2_with (go_at_call 75; refine (HA.out _).mono ?_; rintro x w2 ⟨rfl, rfl⟩)
  go_ret
  exact ⟨rfl, rfl⟩
end Go.Proofs.YtilhfmhjgfmejaaGreatDoor.tm
