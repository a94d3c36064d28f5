import Derived.Test.YthhkhpgffamdhaaDoorSetW
namespace Go.Proofs.YthhkhpgffamdhaaDoor.fd
open Go.ChangeShapes Go.WideShapes Go.ChangeAt Go.RowKit Go.Proofs.YthhkhpgffamdhaaDoor.common Go.Proofs.YthhkhpgffamdhaaDoor.bk
attribute [local go_sem ↓] Go.wp_at_zero Go.wp_at_succ

/-- a number's last digit -/
def dg (m : Nat) : UInt8 := UInt8.ofNat (48 + m % 10)
theorem dec_small {m : Nat} (h : m / 10 = 0) : Lib.decDigits m = [dg m] := by
  have h1 : m < 10 := by omega
  unfold dg
  rw [Lib.decDigits_one h1, Nat.mod_eq_of_lt h1]
theorem dec_big {m : Nat} (h : m / 10 ≠ 0) : Lib.decDigits m = Lib.decDigits (m / 10) ++ [dg m] := by
  unfold dg
  have h1 : ¬ m < 10 := by omega
  rw [Lib.decDigits, dif_neg h1]

theorem conv_dig (w : World) (m : Nat) : (convert 64 9 (.slice (some ⟨w.heap.size, 0, none⟩) 1 1)).run Tryd.prog (w.alloc (.cells #[.int .u8 (48 + (m : Int) % 10)] 5)) = .ok (S [dg m]) (w.alloc (.cells #[.int .u8 (48 + (m : Int) % 10)] 5)) := by
  refine run_convert_bytes_back (P := Tryd.prog) _ 64 9 5 ⟨w.heap.size, 0, none⟩ 1 [dg m] Tryd.underlying64 Tryd.underlying5 Tryd.underlying9 ?_
  intro j hj
  have hj0 : j = 0 := by simpa using hj
  subst hj0
  have := cell_one_new w (.int .u8 (48 + (m : Int) % 10)) 5 0 _ rfl
  rw [this]
  congr 2
  have h2 : (dg m).toNat = 48 + m % 10 := by unfold dg; simp; omega
  show 48 + (m : Int) % 10 = (((dg m).toNat : Nat) : Int)
  rw [h2]; omega

/-- what is left of a number, and the digits behind it -/
structure Dig (N m k : Nat) (L : List UInt8) : Prop where
  len : L.length = k + 1
  le : m * 10 ^ (k + 1) ≤ N
  none : m = 0 → L = Lib.decDigits N
  some : m ≠ 0 → Lib.decDigits m ++ L = Lib.decDigits N
theorem Dig.start (N : Nat) : Dig N (N / 10) 0 [dg N] :=
  ⟨rfl, by rw [Nat.zero_add, Nat.pow_one]; omega, fun h => (dec_small h).symm, fun h => (dec_big h).symm⟩
theorem Dig.next {N m k : Nat} {L : List UInt8} (h : Dig N m k L) (hm : m ≠ 0) : Dig N (m / 10) (k + 1) (dg m :: L) := by
  refine ⟨by rw [List.length_cons, h.len], ?_, fun h0 => ?_, fun h0 => ?_⟩
  · have h1 := h.le
    have h2 : m / 10 * 10 ≤ m := by omega
    calc m / 10 * 10 ^ (k + 1 + 1) = m / 10 * 10 * 10 ^ (k + 1) := by rw [Nat.pow_succ 10 (k + 1), Nat.mul_comm (10 ^ (k + 1)) 10, Nat.mul_assoc]
      _ ≤ m * 10 ^ (k + 1) := Nat.mul_le_mul_right _ h2
      _ ≤ N := h1
  · have := h.some hm
    rw [dec_small h0] at this
    exact this
  · have := h.some hm
    rw [dec_big h0, List.append_assoc] at this
    exact this
theorem Dig.over {N m : Nat} {L : List UInt8} (h : Dig N m 18 L) (hN : N ≤ 9223372036854775807) : m = 0 := by
  have := h.le
  have h2 : (10 : Nat) ^ (18 + 1) = 10000000000000000000 := by decide
  rw [h2] at this
  omega

def decB (N : Nat) : ByteArray := ⟨(Lib.decDigits N).toArray⟩
theorem cons_str (c : UInt8) (L : List UInt8) : (⟨[c].toArray⟩ : ByteArray) ++ ⟨L.toArray⟩ = ⟨(c :: L).toArray⟩ := by
  apply ba_ext; simp

set_option maxRecDepth 100000 in
set_option maxHeartbeats 1600000 in
theorem decimal_any (N : Nat) (w : World) (hN : N ≤ 9223372036854775807) :
    Calls Tryd.prog 77 #[.int .i64 (N : Int)] w fun e w' => e = .returned (.string (decB N)) ∧ Below w.heap.size w w' := by
  have hcv := conv_dig w N
  have HS := hide (Dig.start N)
  go_enter Tryd.func77, Tryd.ntmps77
  go_wp2_with fail
  go_loopw [0, 3, 4] (fun n s i wr => ∃ (m k : Nat) (L : List UInt8), k ≤ 18 ∧ i = .int .i64 k ∧ n = .int .i64 m ∧ s = S L ∧ m ≤ 9223372036854775807 ∧ Dig N m k L ∧ Below w.heap.size w wr) (fun _ _ i _ => 18 - (intOf i).toNat)
  case atStart => exact ⟨N / 10, 0, _, by omega, rfl, by go_num, rfl, by omega, HS.out, (Below.refl _ _).alloc (Nat.le_refl _) _⟩
  case round =>
    obtain ⟨m, k, L, hk, rfl, rfl, rfl, hm, hd, hnx⟩ := hrel
    have HD := hide hd
    have hl := hd.len
    have HX := hide hnx
    clear hd hnx hcv
    by_cases hgo : k < 18 ∧ 0 < m
    · obtain ⟨hlt, hpos⟩ := hgo
      have hki : (k : Int) < 18 := by omega
      have hmi : (0 : Int) < (m : Int) := by omega
      have hcv := conv_dig wr m
      have hsz : (⟨L.toArray⟩ : ByteArray).size ≤ 19 := by rw [str_size]; omega
      have HN := hide (HD.out.next (by omega))
      have HC := hide (cons_str (dg m) L)
      have hone : (⟨[dg m].toArray⟩ : ByteArray).size = 1 := rfl
      go_wp2_with fail
      go_roundw
      case rel => exact ⟨m / 10, k + 1, _, by omega, by go_num, by go_num, congrArg Value.string HC.out, by omega, HN.out, HX.out.alloc HX.out.size _⟩
      case measure => simp [intOf]; omega
    · have h0 : m = 0 := by
        by_cases h : k < 18
        · omega
        · obtain rfl : k = 18 := by omega
          exact HD.out.over hN
      subst h0
      have HE := hide (HD.out.none rfl)
      by_cases h : k < 18
      · have hki : (k : Int) < 18 := by omega
        go_wp2_with fail
        go_ret
        exact ⟨by rw [show decB N = ⟨L.toArray⟩ from by unfold decB; rw [← HE.out]]; rfl, HX.out⟩
      · have hki : ¬ (k : Int) < 18 := by omega
        go_wp2_with fail
        go_ret
        exact ⟨by rw [show decB N = ⟨L.toArray⟩ from by unfold decB; rw [← HE.out]]; rfl, HX.out⟩

end Go.Proofs.YthhkhpgffamdhaaDoor.fd
