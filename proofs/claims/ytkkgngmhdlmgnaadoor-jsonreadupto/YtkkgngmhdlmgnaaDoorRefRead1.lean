import Derived.Test.YtkkgngmhdlmgnaaDoorReadWalk1
import Derived.Deep.QuietTactic
import Derived.BigQuiet
namespace Go.Proofs.YtkkgngmhdlmgnaaDoor.jw
open Go.ChangeShapes Go.WideShapes Go.ChangeAt Go.RowKit Go.Proofs.YtkkgngmhdlmgnaaDoor.common
attribute [local go_sem ↓] Go.wp_at_zero Go.wp_at_succ

/-! ### the document's reader: blanks and marks -/
set_option maxRecDepth 100000 in
set_option maxHeartbeats 3200000 in
theorem refBlanks_any (s : ByteArray) (a : Nat) (w : World) (ha : a ≤ s.size) (hs : s.size < 9223372036854775800) (I : Int) (hI : I = (a : Int)) :
    Calls Tryd.prog 38 #[.string s, .int .i64 I] w fun x w' => ∃ b : Nat, x = .returned (.int .i64 b) ∧ a ≤ b ∧ b ≤ s.size ∧ s.data.toList.drop b = Json.blanks (s.data.toList.drop a) ∧ w' = w := by
  subst hI
  go_enter Tryd.func38, Tryd.ntmps38
  go_wp2_with fail
  go_loopw [1] (fun i wr => ∃ k : Nat, a ≤ k ∧ k ≤ s.size ∧ i = .int .i64 k ∧ wr = w ∧ Hid (Json.blanks (s.data.toList.drop k) = Json.blanks (s.data.toList.drop a))) (fun i _ => s.size - (intOf i).toNat)
  case atStart => exact ⟨a, Nat.le_refl _, ha, rfl, rfl, rfl⟩
  case round =>
    obtain ⟨k, hak, hk, rfl, hwr, HBL⟩ := hrel
    obtain rfl : w = wr := hwr.symm
    have k0 : (0 : Int) ≤ (k : Int) := Int.natCast_nonneg _
    by_cases hlt : k < s.size
    · have hki : (k : Int) < (s.size : Int) := by omega
      have hne : ∀ q : UInt8, s[k] ≠ q → ((s[k].toNat : Int) == (q.toNat : Int)) = false := fun q h => beq_false_of_ne (fun e => h (UInt8.toNat_inj.1 (by omega)))
      by_cases n32 : s[k] = 32
      · have p32 : (s[k].toNat : Int) = 32 := by rw [n32]; rfl
        have HBS := hide (blanks_step s k hlt (by rw [n32]; rfl))
        clear hne
        go_wp2
        go_roundw
        case rel => exact ⟨k + 1, by omega, by omega, by go_num, by first | rfl | trivial, by show _ = _; rw [← HBS.out]; exact HBL.out⟩
        case measure => simp [intOf]; omega
      by_cases n9 : s[k] = 9
      · have p9 : (s[k].toNat : Int) = 9 := by rw [n9]; rfl
        have HBS := hide (blanks_step s k hlt (by rw [n9]; rfl))
        have q32 : ((s[k].toNat : Int) == 32) = false := hne 32 n32
        clear hne
        go_wp2
        go_roundw
        case rel => exact ⟨k + 1, by omega, by omega, by go_num, by first | rfl | trivial, by show _ = _; rw [← HBS.out]; exact HBL.out⟩
        case measure => simp [intOf]; omega
      by_cases n10 : s[k] = 10
      · have p10 : (s[k].toNat : Int) = 10 := by rw [n10]; rfl
        have HBS := hide (blanks_step s k hlt (by rw [n10]; rfl))
        have q32 : ((s[k].toNat : Int) == 32) = false := hne 32 n32
        have q9 : ((s[k].toNat : Int) == 9) = false := hne 9 n9
        clear hne
        go_wp2
        go_roundw
        case rel => exact ⟨k + 1, by omega, by omega, by go_num, by first | rfl | trivial, by show _ = _; rw [← HBS.out]; exact HBL.out⟩
        case measure => simp [intOf]; omega
      by_cases n13 : s[k] = 13
      · have p13 : (s[k].toNat : Int) = 13 := by rw [n13]; rfl
        have HBS := hide (blanks_step s k hlt (by rw [n13]; rfl))
        have q32 : ((s[k].toNat : Int) == 32) = false := hne 32 n32
        have q9 : ((s[k].toNat : Int) == 9) = false := hne 9 n9
        have q10 : ((s[k].toNat : Int) == 10) = false := hne 10 n10
        clear hne
        go_wp2
        go_roundw
        case rel => exact ⟨k + 1, by omega, by omega, by go_num, by first | rfl | trivial, by show _ = _; rw [← HBS.out]; exact HBL.out⟩
        case measure => simp [intOf]; omega
      have q32 : ((s[k].toNat : Int) == 32) = false := hne 32 n32
      have q9 : ((s[k].toNat : Int) == 9) = false := hne 9 n9
      have q10 : ((s[k].toNat : Int) == 10) = false := hne 10 n10
      have q13 : ((s[k].toNat : Int) == 13) = false := hne 13 n13
      have HBS := hide (blanks_stop s k hlt (by simp [Json.bl, n32, n9, n10, n13]))
      clear hne n32 n9 n10 n13
      go_wp2
      go_ret
      exact ⟨k, rfl, hak, hk, by rw [← HBL.out, HBS.out], rfl⟩
    · have HBS : Hid (Json.blanks (s.data.toList.drop k) = s.data.toList.drop k) := by show _ = _; rw [drop_end s k hlt]; rfl
      have hki : ¬ (k : Int) < (s.size : Int) := by omega
      have hkd : decide ((k : Int) < (s.size : Int)) = false := decide_eq_false hki
      have hkd2 : decide (k < s.size) = false := decide_eq_false hlt
      go_wp2
      go_ret
      exact ⟨k, rfl, hak, hk, by rw [← HBL.out, HBS.out], rfl⟩
end Go.Proofs.YtkkgngmhdlmgnaaDoor.jw
