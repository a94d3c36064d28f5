import Derived.Test.YtcpflfpgnbihiaaGreatDoorMLookName
import Derived.Test.YtcpflfpgnbihiaaGreatDoorMBfMath
namespace Go.Proofs.YtcpflfpgnbihiaaGreatDoor.fd
open Go.ChangeShapes Go.WideShapes Go.ChangeAt Go.RowKit Go.Proofs.YtcpflfpgnbihiaaGreatDoor.common Go.Proofs.YtcpflfpgnbihiaaGreatDoor.bk
attribute [local go_sem ↓] Go.wp_at_zero Go.wp_at_succ

set_option maxHeartbeats 800000 in
theorem refSmall_any (c : UInt8) (w : World) : Calls Tryz.prog 57 #[B c] w fun e w' => e = .returned (B (Fd.low c)) ∧ w' = w := by
  have HC := hide (lnm.low_cases c)
  have hc := c.toNat_lt
  show Calls _ _ _ _ fun e w' => e = .returned (.int .u8 ((Fd.low c).toNat : Int)) ∧ w' = w
  generalize (Fd.low c).toNat = v at *
  go_enter Tryz.func57, Tryz.ntmps57
  go_wp2
  all_goals (go_ret; refine ⟨?_, rfl⟩; have := HC.out)
  all_goals first
    | (exfalso; omega)
    | (simp; omega)

set_option maxRecDepth 100000 in
set_option maxHeartbeats 1600000 in
theorem lower_any (s : ByteArray) (w : World) (hs : s.size ≤ 140737488355328) :
    Calls Tryz.prog 36 #[.string s] w fun e w' => e = .returned (.string ⟨(Fd.lows s.data.toList).toArray⟩) ∧ Below w.heap.size w w' := by
  obtain ⟨i0, hi, hz0, hz1, hz2⟩ := info_parts bk.info8
  show Calls _ _ _ _ fun e w' => e = .returned (.string ⟨(lnm.lowB s).toArray⟩) ∧ Below w.heap.size w w'
  have HLEN : Hid ((lnm.lowB s).length = s.size) := lnm.lowB_len s
  have HTK : Hid (∀ k (_ : k < s.size), (lnm.lowB s).take (k + 1) = (lnm.lowB s).take k ++ [Fd.low s[k]]) := lnm.lowB_take s
  generalize lnm.lowB s = L at *
  go_enter Tryz.func36, Tryz.ntmps36
  go_wp2_with fail
  go_loopw [3, 4] (fun v i wr => ∃ k : Nat, k ≤ s.size ∧ i = .int .i64 k ∧ wr.ownsRow w.heap.size 5 1 v k ((L.take k).map bk.B) ∧ Below w.heap.size w wr) (fun _ i _ => s.size - (intOf i).toNat)
  case atStart => exact ⟨0, Nat.zero_le _, rfl, World.ownsRow_nil _ _ _ _, Below.refl _ _⟩
  case round =>
    obtain ⟨k, hk, rfl, hown, hnx⟩ := hrel
    have hsz := hnx.size
    by_cases hlt : k < s.size
    · have hki : (k : Int) < (s.size : Int) := by omega
      have HSN := hide (HTK.out k hlt)
      go_wp2_with (first
        | (go_at_call 57; refine (refSmall_any _ _).mono ?_; rintro x w2 ⟨rfl, rfl⟩)
        | (at_builtin; refine wpList_append_own _ rfl _ _ 80 rfl w.heap.size 5 i0 (.int .u8 0) 1 1 Tryz.underlying80 hi hz0 hz1 hz2 rfl (by decide) _ _ _ rfl (hown.alloc _) ⟨_, 0, none⟩ 1 1 [_] rfl rfl (bk.cell_one_new _ _ _) ?c2 ?c3 ?c4 ?c5 ?_))
      case c2 => first | rfl | (intro u hu; simp at hu; subst hu; rfl)
      case c3 => unfold maxLen; omega
      case c4 => omega
      case c5 => first | omega | (simp; omega)
      intro v' w1 hown' hgrow _
      have R1 : w1.ownsRow w.heap.size 5 1 v' (k + 1) ((L.take (k + 1)).map bk.B) := by
        rw [HSN.out, List.map_append, List.map_take]; exact hown'
      have R2 : Below w.heap.size w w1 := (hnx.alloc hsz _).grown hgrow (by simp; omega) (own_ge hown)
      clear hown' hgrow hown hnx
      have H1 := hide R1
      have H2 := hide R2
      clear R1 R2
      go_wp2_with fail
      go_roundw
      case rel => exact ⟨k + 1, by omega, by go_num, H1.out, H2.out⟩
      case measure => simp [intOf]; omega
    · obtain rfl : k = s.size := by omega
      rw [List.take_of_length_le (by rw [HLEN.out]; exact Nat.le_refl _)] at hown
      have hcv := bk.conv_own hown HLEN.out
      have H2 := hide hnx
      clear hown hnx
      go_wp2_with fail
      go_ret
      exact ⟨rfl, H2.out⟩

theorem span_at {p : UInt8 → Bool} {l : List UInt8} {k : Nat} (h1 : ∀ x ∈ l.take k, p x = true) (h2 : l.length ≤ k ∨ p (l.getD k 0) = false) : l.takeWhile p = l.take k ∧ l.dropWhile p = l.drop k := by
  have e : l = l.take k ++ l.drop k := (List.take_append_drop _ _).symm
  have hd : (l.drop k).takeWhile p = [] ∧ (l.drop k).dropWhile p = l.drop k := by
    by_cases hk : l.length ≤ k
    · rw [List.drop_of_length_le hk]; exact ⟨rfl, rfl⟩
    · rcases h2 with h | h
      · exact absurd h hk
      · have hk' : k < l.length := by omega
        rw [List.getD_eq_getElem?_getD, List.getElem?_eq_getElem hk'] at h
        rw [List.drop_eq_getElem_cons hk']
        simp only [Option.getD_some] at h
        exact ⟨List.takeWhile_cons_of_neg (by simp [h]), List.dropWhile_cons_of_neg (by simp [h])⟩
  constructor
  · conv => lhs; rw [e]
    rw [List.takeWhile_append_of_pos h1, hd.1, List.append_nil]
  · conv => lhs; rw [e]
    rw [List.dropWhile_append_of_pos h1, hd.2]

/-- the place of a byte, or the end -/
def Fnd (c : UInt8) (l : List UInt8) (n k : Nat) : Prop := before c l = l.take k ∧ ((k < n ∧ behind c l = l.drop (k + 1) ∧ l.contains c = true) ∨ (k = n ∧ l.contains c = false))

end Go.Proofs.YtcpflfpgnbihiaaGreatDoor.fd
