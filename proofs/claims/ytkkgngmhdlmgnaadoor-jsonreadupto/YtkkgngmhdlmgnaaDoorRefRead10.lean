import Derived.Test.YtkkgngmhdlmgnaaDoorRefRead9
namespace Go.Proofs.YtkkgngmhdlmgnaaDoor.jw
open Go.ChangeShapes Go.WideShapes Go.ChangeAt Go.RowKit Go.Proofs.YtkkgngmhdlmgnaaDoor.common
attribute [local go_sem ↓] Go.wp_at_zero Go.wp_at_succ

theorem dig_bounds {c : UInt8} (h : Json.isDig c = true) : 48 ≤ c.toNat ∧ c.toNat ≤ 57 := by simpa [Json.isDig] using h
theorem down_no {n : Int} {c : UInt8} {r : List UInt8} (h : n < -922337203685477580 ∨ (n = -922337203685477580 ∧ 8 < (c.toNat : Int) - 48)) : Json.down n (c :: r) = none := by
  simp only [Json.down, if_pos h]
theorem down_step {n : Int} {c : UInt8} {r : List UInt8} (h : ¬ (n < -922337203685477580 ∨ (n = -922337203685477580 ∧ 8 < (c.toNat : Int) - 48))) : Json.down n (c :: r) = Json.down (10 * n - ((c.toNat : Int) - 48)) r := by
  simp only [Json.down, if_neg h]
/-- a number and whether it fits -/
def belowV (o : Option Int) : Value := match o with
  | none => .tuple #[.int .i64 0, .bool false]
  | some v => .tuple #[.int .i64 v, .bool true]
theorem below_minus {ds : List UInt8} {n : Int} (h : Json.down 0 ds = some n) : Json.below ds true = some n := by unfold Json.below; rw [h]; rfl
theorem below_none {ds : List UInt8} {b : Bool} (h : Json.down 0 ds = none) : Json.below ds b = none := by unfold Json.below; rw [h]
theorem below_plus {ds : List UInt8} {n : Int} (h : Json.down 0 ds = some n) (hn : n ≠ -9223372036854775808) : Json.below ds false = some (-n) := by
  unfold Json.below; rw [h]; simp only [Bool.false_eq_true, if_false]; rw [if_neg hn]
theorem below_last {ds : List UInt8} {n : Int} (h : Json.down 0 ds = some n) (hn : n = -9223372036854775808) : Json.below ds false = none := by
  unfold Json.below; rw [h]; simp only [Bool.false_eq_true, if_false]; rw [if_pos hn]

set_option maxRecDepth 100000 in
set_option maxHeartbeats 3200000 in
theorem refBelow_any (s : ByteArray) (minus : Bool) (w : World) (hs : s.size < 9223372036854775000) (hd : ∀ c ∈ s.data.toList, Json.isDig c = true) :
    Calls Tryd.prog 88 #[.string s, .bool minus] w fun x w' => x = .returned (belowV (Json.below s.data.toList minus)) ∧ w' = w := by
  have HD := hide hd
  obtain ⟨D, hD⟩ : ∃ D, Json.down 0 s.data.toList = D := ⟨_, rfl⟩
  have H0 := hide hD
  clear hd hD
  go_enter Tryd.func88, Tryd.ntmps88
  go_wp2_with fail
  go_loopw [4, 5, 6, 7] (fun r4 r5 nv iv wr => ∃ (k : Nat) (n : Int), k ≤ s.size ∧ iv = .int .i64 k ∧ nv = .int .i64 n ∧ r4 = .int .i64 0 ∧ r5 = .bool false ∧ -9223372036854775808 ≤ n ∧ n ≤ 0 ∧ wr = w ∧ Hid (Json.down n (s.data.toList.drop k) = D)) (fun _ _ _ iv _ => s.size - (intOf iv).toNat)
  case atStart => exact ⟨0, 0, by omega, rfl, rfl, by first | rfl | trivial, by first | rfl | trivial, by omega, by omega, rfl, H0⟩
  case round =>
    obtain ⟨k, n, hk, rfl, rfl, rfl, rfl, hn1, hn2, hwr, HX⟩ := hrel
    obtain rfl : w = wr := hwr.symm
    by_cases hlt : k < s.size
    · have k1 : (k : Int) < (s.size : Int) := by omega
      have k0 : (0 : Int) ≤ (k : Int) := by omega
      have HDC := hide (drop_cons s k hlt)
      have hdig := dig_bounds (HD.out s[k] (by
        have : s[k] = s.data.toList[k]'(by simpa using hlt) := rfl
        rw [this]; exact List.getElem_mem _))
      have d1 : (48 : Int) ≤ (s[k].toNat : Int) := by omega
      have d2 : (s[k].toNat : Int) ≤ 57 := by omega
      clear hdig
      by_cases c1 : n < -922337203685477580
      · have HN : Hid (D = none) := by show _ = _; rw [← HX.out, HDC.out, down_no (Or.inl c1)]
        go_wp2
        go_ret2
        exact ⟨by rw [below_none (H0.out.trans HN.out)]; rfl, rfl⟩
      · by_cases c2 : n = -922337203685477580
        · have HC2 := hide c2
          have c2b : (n == -922337203685477580) = true := by simpa using c2
          by_cases c3 : 8 < (s[k].toNat : Int) - 48
          · have HN : Hid (D = none) := by show _ = _; rw [← HX.out, HDC.out, down_no (Or.inr ⟨c2, c3⟩)]
            clear c2
            go_wp2
            go_ret2
            exact ⟨by rw [below_none (H0.out.trans HN.out)]; rfl, rfl⟩
          · have HN : Hid (Json.down (10 * n - ((s[k].toNat : Int) - 48)) (s.data.toList.drop (k + 1)) = D) := by
              show _ = _; rw [← HX.out, HDC.out, down_step (by rintro (h | ⟨_, h⟩); exact c1 h; exact c3 h)]
            clear c2
            have q1 : -9223372036854775808 ≤ 10 * n - ((s[k].toNat : Int) - 48) := by have := HC2.out; omega
            have q2 : 10 * n - ((s[k].toNat : Int) - 48) ≤ 0 := by omega
            have q3 : -9223372036854775808 ≤ 10 * n := by have := HC2.out; omega
            go_wp2
            go_roundw
            case rel => exact ⟨k + 1, _, by omega, by go_num, rfl, by first | rfl | trivial, by first | rfl | trivial, q1, q2, by first | rfl | trivial, HN⟩
            case measure => simp [intOf]; omega
        · have c2b : (n == -922337203685477580) = false := beq_false_of_ne c2
          have HN : Hid (Json.down (10 * n - ((s[k].toNat : Int) - 48)) (s.data.toList.drop (k + 1)) = D) := by
            show _ = _; rw [← HX.out, HDC.out, down_step (by rintro (h | ⟨h, _⟩); exact c1 h; exact c2 h)]
          have q1 : -9223372036854775808 ≤ 10 * n - ((s[k].toNat : Int) - 48) := by omega
          have q2 : 10 * n - ((s[k].toNat : Int) - 48) ≤ 0 := by omega
          have q3 : -9223372036854775808 ≤ 10 * n := by omega
          clear c2
          go_wp2
          go_roundw
          case rel => exact ⟨k + 1, _, by omega, by go_num, rfl, by first | rfl | trivial, by first | rfl | trivial, q1, q2, by first | rfl | trivial, HN⟩
          case measure => simp [intOf]; omega
    · have k1 : ¬ (k : Int) < (s.size : Int) := by omega
      have HN : Hid (Json.down 0 s.data.toList = some n) := by show _ = _; rw [H0.out, ← HX.out, drop_end s k hlt]; rfl
      cases minus with
      | true =>
        go_wp2
        go_ret2
        exact ⟨by rw [below_minus HN.out]; rfl, rfl⟩
      | false =>
        by_cases c1 : n = -9223372036854775808
        · have HB := hide (below_last HN.out c1)
          have c1b : (n == -9223372036854775808) = true := by simpa using c1
          clear c1
          go_wp2
          go_ret2
          exact ⟨by rw [HB.out]; rfl, rfl⟩
        · have HB := hide (below_plus HN.out c1)
          have c1b : (n == -9223372036854775808) = false := beq_false_of_ne c1
          have q4 : -9223372036854775807 ≤ n := by omega
          clear c1
          go_wp2
          go_ret2
          exact ⟨by rw [HB.out]; rfl, rfl⟩
end Go.Proofs.YtkkgngmhdlmgnaaDoor.jw
