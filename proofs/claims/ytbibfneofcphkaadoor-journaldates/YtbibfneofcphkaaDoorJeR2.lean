import Derived.Test.YtbibfneofcphkaaDoorJeR1
namespace Go.Proofs.YtbibfneofcphkaaDoor.je
open Go.ChangeShapes Go.WideShapes Go.ChangeAt Go.RowKit Go.Proofs.YtbibfneofcphkaaDoor.common Go.Proofs.YtbibfneofcphkaaDoor.Jc Go.Proofs.YtbibfneofcphkaaDoor.jc
attribute [local go_sem ↓] Go.wp_at_zero Go.wp_at_succ

theorem nmF_most : ∀ (l : List UInt8) (n : Int) (m : Nat), -(m : Int) ≤ n → n ≤ (m : Int) → ∃ M : Nat, M + 23 = (m + 23) * 10 ^ l.length ∧ -(M : Int) ≤ nmF n l ∧ nmF n l ≤ (M : Int)
  | [], n, m, h1, h2 => ⟨m, by simp, h1, h2⟩
  | a :: t, n, m, h1, h2 => by
    have ha := a.toNat_lt
    obtain ⟨M, e, k1, k2⟩ := nmF_most t (10 * n + (a.toNat : Int) - 48) (10 * m + 207) (by omega) (by omega)
    refine ⟨M, ?_, k1, k2⟩
    rw [e, List.length_cons, Nat.pow_succ]
    have : 10 * m + 207 + 23 = (m + 23) * 10 := by omega
    rw [this, Nat.mul_assoc, Nat.mul_comm 10]
theorem nmS_most (s : List UInt8) (p k : Nat) (hk : k ≤ 4) : -230000 ≤ nmS s p k ∧ nmS s p k ≤ 230000 := by
  obtain ⟨M, e, k1, k2⟩ := nmF_most ((s.drop p).take k) 0 0 (by decide) (by decide)
  have hl : ((s.drop p).take k).length ≤ 4 := by rw [List.length_take]; omega
  have h10 : 10 ^ ((s.drop p).take k).length ≤ 10 ^ 4 := Nat.pow_le_pow_right (by decide) hl
  have : M ≤ 230000 := by omega
  unfold nmS
  omega
theorem nmS_succ {s : List UInt8} {p j : Nat} (h : p + j < s.length) : nmS s p (j + 1) = 10 * nmS s p j + ((s[p + j]'h).toNat : Int) - 48 := by
  unfold nmS
  rw [List.take_add_one]
  have e : (s.drop p)[j]? = some (s[p + j]'h) := by rw [List.getElem?_drop, List.getElem?_eq_getElem h]
  rw [e, Option.toList_some, nmF_snoc]
theorem nmS_end {s : List UInt8} {p j k : Nat} (h : s.length ≤ p + j) (hk : j ≤ k) : nmS s p k = nmS s p j := by
  unfold nmS
  have hl : (s.drop p).length ≤ j := by rw [List.length_drop]; omega
  rw [List.take_of_length_le hl, List.take_of_length_le (Nat.le_trans hl hk)]

set_option maxRecDepth 100000 in
set_option maxHeartbeats 3200000 in
theorem number_any (l : List UInt8) (p k : Nat) (hp : p ≤ 1000) (hk : k ≤ 4) (w : World) :
    Calls Tryd.prog 35 #[.string (tx l), .int .i64 (p : Int), .int .i64 (k : Int)] w fun e w' => e = .returned (.int .i64 (nmS l p k)) ∧ w' = w := by
  have HS : Hid (∀ j, p + j < l.length → ∃ a : UInt8, (∀ hh, (tx l)[p + j]'hh = a) ∧ nmS l p (j + 1) = 10 * nmS l p j + (a.toNat : Int) - 48) := fun j hj => ⟨l[p + j]'hj, fun hh => rfl, nmS_succ hj⟩
  have HE : Hid (∀ j, l.length ≤ p + j → j ≤ k → nmS l p k = nmS l p j) := fun j hj h => nmS_end hj h
  have HM : Hid (∀ j, j ≤ 4 → -230000 ≤ nmS l p j ∧ nmS l p j ≤ 230000) := fun j hj => nmS_most l p j hj
  have H0 : Hid (nmS l p 0 = 0) := by show _ = _; unfold nmS; rw [List.take_zero]; rfl
  have hs : (tx l).size = l.length := tx_size l
  obtain ⟨N, hN⟩ : ∃ N : Nat → Int, N = nmS l p := ⟨_, rfl⟩
  rw [← hN] at HS HE HM H0 ⊢
  generalize tx l = S at *
  generalize l.length = n at *
  have wpk : wrap64 ((p : Int) + (k : Int)) = (p : Int) + (k : Int) := wrp _ ⟨by omega, by omega⟩
  clear hN
  go_enter Tryd.func35, Tryd.ntmps35
  go_wp2_with fail
  go_loopw [7, 8] (fun u v wr => ∃ j : Nat, u = .int .i64 (N j) ∧ v = .int .i64 ((p + j : Nat) : Int) ∧ j ≤ k ∧ wr = w) (fun _ v _ => 2000 - (intOf v).toNat)
  case atStart => exact ⟨0, by rw [H0.out], rfl, by omega, rfl⟩
  case round =>
    obtain ⟨j, rfl, rfl, jk, rfl⟩ := hrel
    have hb := HM.out j (by omega)
    have ecast : ((p + j : Nat) : Int) = (p : Int) + (j : Int) := by omega
    by_cases hjk : j < k
    · have hii : (p : Int) + (j : Int) < (p : Int) + (k : Int) := by omega
      by_cases hn : p + j < n
      · obtain ⟨a, ha, hs1⟩ := HS.out j hn
        have hlt := a.toNat_lt
        have h1 := HM.out (j + 1) (by omega)
        have hin : (p : Int) + (j : Int) < (n : Int) := by omega
        have w1 : wrap64 (10 * N j) = 10 * N j := wrp _ ⟨by omega, by omega⟩
        have w2 : wrap64 (10 * N j + (a.toNat : Int)) = 10 * N j + (a.toNat : Int) := wrp _ ⟨by omega, by omega⟩
        have w3 : wrap64 (10 * N j + (a.toNat : Int) - 48) = 10 * N j + (a.toNat : Int) - 48 := wrp _ ⟨by omega, by omega⟩
        have Hv : Hid (Value.int .i64 (wrap64 ((p : Int) + (j : Int) + 1)) = .int .i64 ((p + (j + 1) : Nat) : Int)) := by show _ = _; rw [wrp _ ⟨by omega, by omega⟩]; congr 1
        have Hn : Hid (Value.int .i64 (10 * N j + (a.toNat : Int) - 48) = .int .i64 (N (j + 1))) := by show _ = _; rw [hs1]
        have hx : p + j < S.size := by omega
        have HA := ha hx
        rw [ecast]
        clear HS HE hs1 ha
        generalize N j = q at *
        go_wp2_with fail
        go_roundw
        case rel => exact ⟨j + 1, by first | exact Hn.out | go_num, by first | exact Hv.out | go_num, by omega, by first | trivial | rfl⟩
        case measure => simp [intOf]; omega
      · have hin : ¬ ((p : Int) + (j : Int) < (n : Int)) := by omega
        have HX : Hid (N k = N j) := HE.out j (by omega) jk
        rw [ecast]
        clear HS HE HM
        generalize N j = q at *
        go_wp2_with fail
        go_ret
        exact ⟨by rw [HX.out]; rfl, rfl⟩
    · have ej : j = k := by omega
      have HX : Hid (N k = N j) := by rw [ej]; rfl
      have hii : ¬ ((p : Int) + (j : Int) < (p : Int) + (k : Int)) := by omega
      rw [ecast]
      clear HS HE HM hjk ej
      generalize N j = q at *
      go_wp2_with fail
      go_ret
      exact ⟨by rw [HX.out]; rfl, rfl⟩
end Go.Proofs.YtbibfneofcphkaaDoor.je
