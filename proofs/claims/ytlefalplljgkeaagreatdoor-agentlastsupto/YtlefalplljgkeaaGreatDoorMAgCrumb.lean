import Derived.Test.YtlefalplljgkeaaGreatDoorMAgWord2
import Derived.Test.YtlefalplljgkeaaGreatDoorMAgHead
import Derived.Test.YtlefalplljgkeaaGreatDoorMLookWalks
namespace Go.Proofs.YtlefalplljgkeaaGreatDoor.ag
open Go.ChangeShapes Go.WideShapes Go.ChangeAt Go.RowKit Go.Proofs.YtlefalplljgkeaaGreatDoor.common Go.Proofs.YtlefalplljgkeaaGreatDoor.bk
attribute [local go_sem ↓] Go.wp_at_zero Go.wp_at_succ

def Crumbs (l : List UInt8) : Prop := l.all Fd.ck = true
theorem ck_iff (c : UInt8) : (Fd.ck c = true ↔ (32 < c.toNat ∧ c.toNat < 127 ∧ c.toNat ≠ 34 ∧ c.toNat ≠ 44 ∧ c.toNat ≠ 59 ∧ c.toNat ≠ 92)) := by
  unfold Fd.ck Fd.ckB
  simp only [decide_eq_true_eq]
  omega
set_option maxRecDepth 100000 in
set_option maxHeartbeats 3200000 in
theorem crumb_any (s : ByteArray) (w : World) (hs : s.size ≤ reachBytes) :
    Calls Tryz.prog 7 #[.string s] w fun e w' => ∃ W : ByteArray, e = .returned (.string W) ∧ Crumbs W.data.toList ∧ W.size ≤ s.size ∧ Below w.heap.size w w' := by
  unfold reachBytes at hs
  obtain ⟨i0, hi, hz0, hz1, hz2⟩ := info_parts info8w
  go_enter Tryz.func7, Tryz.ntmps7
  go_wp2_with fail
  go_loopw [3, 4] (fun v i wr => ∃ (k : Nat) (l : List UInt8) (u : Value), k ≤ s.size ∧ i = .int .i64 k ∧ u = v ∧ wr.ownsRow w.heap.size 5 1 u l.length (l.map B) ∧ Hid (Crumbs l) ∧ l.length ≤ k ∧ Below w.heap.size w wr) (fun _ i _ => s.size - (intOf i).toNat)
  case atStart => exact ⟨0, [], _, Nat.zero_le _, rfl, rfl, World.ownsRow_nil _ _ _ _, rfl, Nat.le_refl _, Below.refl _ _⟩
  case round =>
    obtain ⟨k, l, u, hk, rfl, hu, hown, HL, hlk, hnx⟩ := hrel
    subst hu
    have hsz := hnx.size
    by_cases hlt : k < s.size
    · have hki : (k : Int) < (s.size : Int) := by omega
      have k0 : (0 : Int) ≤ (k : Int) := Int.natCast_nonneg _
      by_cases hck : Fd.ck s[k] = true
      · obtain ⟨q1, q2, q3, q4, q5, q6⟩ := (ck_iff s[k]).1 hck
        have e1 : 32 < (s[k].toNat : Int) := by omega
        have e2 : (s[k].toNat : Int) < 127 := by omega
        have d1 : decide (32 < (s[k].toNat : Int)) = true := decide_eq_true e1
        have d2 : decide ((s[k].toNat : Int) < 127) = true := decide_eq_true e2
        have d3 : ((s[k].toNat : Int) != 34) = true := by simp; omega
        have d4 : ((s[k].toNat : Int) != 44) = true := by simp; omega
        have d5 : ((s[k].toNat : Int) != 59) = true := by simp; omega
        have d6 : ((s[k].toNat : Int) != 92) = true := by simp; omega
        have n3 : ((s[k].toNat : Int) == 34) = false := beq_false_of_ne (by omega)
        have n4 : ((s[k].toNat : Int) == 44) = false := beq_false_of_ne (by omega)
        have n5 : ((s[k].toNat : Int) == 59) = false := beq_false_of_ne (by omega)
        have n6 : ((s[k].toNat : Int) == 92) = false := beq_false_of_ne (by omega)
        have HL1 : Hid (Crumbs (l ++ [s[k]])) := by
          show (l ++ [s[k]]).all Fd.ck = true
          rw [List.all_append, HL.out]; simp [hck]
        clear q1 q2 q3 q4 q5 q6 hck
        go_wp2_with (at_builtin; refine wpList_append_own _ rfl _ _ 60 rfl w.heap.size 5 i0 (.int .u8 0) 1 1 Tryz.underlying60 hi hz0 hz1 hz2 rfl (by decide) _ _ _ rfl (hown.alloc _) ⟨wr.heap.size, 0, none⟩ 1 1 [B s[k]] rfl rfl ?c1 ?c2 ?c3 ?c4 ?c5 ?_)
        case c1 => exact cell_one_new _ _ _
        case c2 => intro u hu; simp at hu; subst hu; rfl
        case c3 => unfold maxLen; omega
        case c4 => omega
        case c5 => simp; omega
        intro v' w1 hown' hgrow _
        have R1 : w1.ownsRow w.heap.size 5 1 v' (l ++ [s[k]]).length ((l ++ [s[k]]).map B) := by
          rw [List.map_append, List.length_append]; exact hown'
        have R2 : Below w.heap.size w w1 := by
          refine (hnx.alloc hsz _).grown hgrow (by simp; omega) ?_
          exact own_ge hown
        clear hown' hgrow hown
        have H1 := hide R1
        have H2 := hide R2
        clear R1 R2
        go_wp2
        go_roundw
        case rel => exact ⟨k + 1, l ++ [s[k]], _, by omega, by go_num, rfl, H1.out, HL1, by simp; omega, H2.out⟩
        case measure => simp [intOf]; omega
      · have H1 := hide hown
        have H2 := hide hnx
        clear hown hnx
        have hcase : ¬ 32 < (s[k].toNat : Int) ∨ (32 < (s[k].toNat : Int) ∧ ¬ (s[k].toNat : Int) < 127) ∨ (32 < (s[k].toNat : Int) ∧ (s[k].toNat : Int) < 127 ∧ (s[k].toNat = 34 ∨ s[k].toNat = 44 ∨ s[k].toNat = 59 ∨ s[k].toNat = 92)) := by
          have := (ck_iff s[k]).2
          by_cases a1 : 32 < s[k].toNat <;> by_cases a2 : s[k].toNat < 127 <;> by_cases a3 : s[k].toNat = 34 <;> by_cases a4 : s[k].toNat = 44 <;> by_cases a5 : s[k].toNat = 59 <;> by_cases a6 : s[k].toNat = 92 <;> first | omega | (exact absurd (this ⟨a1, a2, a3, a4, a5, a6⟩) hck)
        clear hck
        rcases hcase with e1 | ⟨e1, e2⟩ | ⟨e1, e2, e3⟩
        · have d1 : decide (32 < (s[k].toNat : Int)) = false := decide_eq_false e1
          go_wp2_with fail
          go_roundw
          case rel => exact ⟨k + 1, l, _, by omega, by go_num, rfl, H1.out, HL, by omega, H2.out⟩
          case measure => simp [intOf]; omega
        · have d1 : decide (32 < (s[k].toNat : Int)) = true := decide_eq_true e1
          have d2 : decide ((s[k].toNat : Int) < 127) = false := decide_eq_false e2
          go_wp2_with fail
          go_roundw
          case rel => exact ⟨k + 1, l, _, by omega, by go_num, rfl, H1.out, HL, by omega, H2.out⟩
          case measure => simp [intOf]; omega
        · have d1 : decide (32 < (s[k].toNat : Int)) = true := decide_eq_true e1
          have d2 : decide ((s[k].toNat : Int) < 127) = true := decide_eq_true e2
          rcases e3 with e3 | e3 | e3 | e3
          all_goals
            have e4 : (s[k].toNat : Int) = _ := congrArg Nat.cast e3
            clear e3
            go_wp2_with fail
            go_roundw
            case rel => exact ⟨k + 1, l, _, by omega, by go_num, rfl, H1.out, HL, by omega, H2.out⟩
            case measure => simp [intOf]; omega
    · obtain rfl : k = s.size := by omega
      obtain ⟨oa, cap, rfl⟩ : ∃ oa cap, u = .slice oa l.length cap := by
        rcases hown.2 with ⟨rfl, h0⟩ | ⟨g, cap, cur, rfl, _⟩
        · exact ⟨none, 0, by rw [h0]⟩
        · exact ⟨_, cap, rfl⟩
      have H2 := hide hnx
      have hconv := conv_own hown rfl
      clear hown hnx
      go_wp2_with fail
      go_ret
      exact ⟨_, rfl, HL.out, by show l.toArray.size ≤ _; simp; omega, H2.out⟩
end Go.Proofs.YtlefalplljgkeaaGreatDoor.ag
