import Derived.Test.YtkkkgpcdnjijbabDoorTmAll
namespace Go.Proofs.YtkkkgpcdnjijbabDoor.tm
open Go.ChangeShapes Go.WideShapes Go.ChangeAt Go.RowKit Go.Proofs.YtkkkgpcdnjijbabDoor.common Go.Proofs.YtkkkgpcdnjijbabDoor.bk
attribute [local go_sem ↓] Go.wp_at_zero Go.wp_at_succ

set_option maxRecDepth 100000 in
set_option maxHeartbeats 1600000 in
theorem refWithin_any (s : ByteArray) (most lo hi : Nat) (w : World) (hs : s.size ≤ 4611686018427387904) :
    Calls Tryd.prog 52 #[.string s, .int .i64 most, .int .u8 lo, .int .u8 hi] w fun e w' => e = .returned (.bool (Tm.word most (Tm.btw lo hi) s.data.toList)) ∧ w' = w := by
  have HT : Hid (∀ k (_ : k < s.size), (s.data.toList.take (k + 1)).all (Tm.btw lo hi) = ((s.data.toList.take k).all (Tm.btw lo hi) && Tm.btw lo hi s[k])) := fun k h => Tm.all_take _ _ k (by simpa using h)
  have HE : Hid (s.data.toList.take s.size = s.data.toList) := take_all s
  have HA : Hid (∀ k, (s.data.toList.take k).all (Tm.btw lo hi) = false → s.data.toList.all (Tm.btw lo hi) = false) := fun k h => Tm.all_short _ _ k h
  have HW : Hid (Tm.word most (Tm.btw lo hi) s.data.toList = (!s.data.toList.isEmpty && decide (s.size ≤ most) && s.data.toList.all (Tm.btw lo hi))) := by
    show _ = _
    unfold Tm.word
    rw [len_list]
  go_enter Tryd.func52, Tryd.ntmps52
  go_wp2_with fail
  go_loopw [9] (fun i wr => ∃ k : Nat, k ≤ s.size ∧ i = .int .i64 k ∧ (s.data.toList.take k).all (Tm.btw lo hi) = true ∧ wr = w) (fun i _ => s.size - (intOf i).toNat)
  case atStart => exact ⟨0, Nat.zero_le _, rfl, by simp, rfl⟩
  case round =>
    obtain ⟨k, hk, rfl, ha, rfl⟩ := hrel
    have HAK := hide ha
    clear ha
    by_cases hlt : k < s.size
    · have hki : (k : Int) < (s.size : Int) := by omega
      have HTK := hide (HT.out k hlt)
      have eb : ∀ c : UInt8, Tm.btw lo hi c = decide (lo ≤ c.toNat ∧ c.toNat ≤ hi) := fun _ => rfl
      have HB := hide (eb s[k])
      clear eb
      by_cases h1 : s[k].toNat < lo
      · have h1i : (s[k].toNat : Int) < (lo : Int) := by omega
        have HR : Hid (s.data.toList.all (Tm.btw lo hi) = false) := HA.out (k + 1) (by rw [HTK.out, HB.out, decide_eq_false (fun h => absurd h.1 (by omega)), Bool.and_false])
        go_wp2_with fail
        go_ret
        exact ⟨by rw [HW.out, HR.out, Bool.and_false]; rfl, rfl⟩
      · have h1i : ¬ (s[k].toNat : Int) < (lo : Int) := by omega
        by_cases h2 : hi < s[k].toNat
        · have h2i : (hi : Int) < (s[k].toNat : Int) := by omega
          have HR : Hid (s.data.toList.all (Tm.btw lo hi) = false) := HA.out (k + 1) (by rw [HTK.out, HB.out, decide_eq_false (fun h => absurd h.2 (by omega)), Bool.and_false])
          go_wp2_with fail
          go_ret
          exact ⟨by rw [HW.out, HR.out, Bool.and_false]; rfl, rfl⟩
        · have h2i : ¬ (hi : Int) < (s[k].toNat : Int) := by omega
          have HR : Hid ((s.data.toList.take (k + 1)).all (Tm.btw lo hi) = true) := by
            show _ = _
            rw [HTK.out, HB.out, HAK.out, decide_eq_true ⟨by omega, by omega⟩]; rfl
          go_wp2_with fail
          go_roundw
          case rel => exact ⟨k + 1, by omega, by go_num, HR.out, by trivial⟩
          case measure => simp [intOf]; omega
    · obtain rfl : k = s.size := by omega
      rw [HE.out] at HAK
      by_cases he : s = ⟨#[]⟩
      · subst he
        go_wp2_with fail
        go_ret
        exact ⟨rfl, rfl⟩
      · obtain ⟨h1, h2, h3⟩ := word_ne he
        by_cases hm : s.size ≤ most
        · have hmi : (s.size : Int) ≤ (most : Int) := by omega
          have HR : Hid (Tm.word most (Tm.btw lo hi) s.data.toList = true) := by
            show _ = _
            rw [HW.out, HAK.out, h2, decide_eq_true hm]; rfl
          go_wp2_with fail
          go_ret
          exact ⟨by rw [HR.out]; rfl, rfl⟩
        · have hmi : ¬ (s.size : Int) ≤ (most : Int) := by omega
          have HR : Hid (Tm.word most (Tm.btw lo hi) s.data.toList = false) := by
            show _ = _
            rw [HW.out, decide_eq_false hm]; simp
          go_wp2_with fail
          go_ret
          exact ⟨by rw [HR.out]; rfl, rfl⟩

end Go.Proofs.YtkkkgpcdnjijbabDoor.tm
