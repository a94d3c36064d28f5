import Derived.Test.YtlbhiefamnpphaaDoorJeM2
import Derived.Test.YtlbhiefamnpphaaDoorJdR6
namespace Go.Proofs.YtlbhiefamnpphaaDoor.jf
open Go.ChangeShapes Go.WideShapes Go.ChangeAt Go.RowKit Go.Proofs.YtlbhiefamnpphaaDoor.common Go.Proofs.YtlbhiefamnpphaaDoor.Jc Go.Proofs.YtlbhiefamnpphaaDoor.jc Go.Proofs.YtlbhiefamnpphaaDoor.je
attribute [local go_sem ↓] Go.wp_at_zero Go.wp_at_succ

abbrev decB : ByteArray := ⟨#[48, 49, 50, 51, 52, 53, 54, 55, 56, 57]⟩
theorem dec_cut (k : Nat) (h : k < 10) : decB.extract k (k + 1) = tx [UInt8.ofNat (48 + k)] := by
  match k, h with
  | 0, _ | 1, _ | 2, _ | 3, _ | 4, _ | 5, _ | 6, _ | 7, _ | 8, _ | 9, _ => exact ByteArray.ext rfl
theorem d_wraps (a : Nat) (h : a < 10) : IntKind.i64.wrap ((a : Int) + 1) = (a : Int) + 1 ∧ wrap64 ((a : Int) + 1) = (a : Int) + 1 := by
  have h64 : wrap64 ((a : Int) + 1) = (a : Int) + 1 := wrp _ ⟨by omega, by omega⟩
  have hm : ((a : Int) + 1) % 18446744073709551616 = (a : Int) + 1 := by omega
  refine ⟨?_, h64⟩
  unfold IntKind.wrap
  simp only [IntKind.bits, IntKind.signed, Int.reducePow, Nat.reduceSub, hm]
  rw [if_neg (by simp; omega)]
theorem d_facts (a : Nat) (h : a < 10) : (0 : Int) ≤ (a : Int) ∧ (a : Int) ≤ (a : Int) + 1 ∧ (a : Int) + 1 ≤ 10 ∧ ((a : Int) + 1).toNat = a + 1 := ⟨by omega, by omega, by omega, by omega⟩
theorem c_wrap (n : Nat) (h : n < 100) : wrap64 ((n / 10 : Nat) : Int) = ((n / 10 : Nat) : Int) := wrp _ ⟨by omega, by omega⟩
set_option maxRecDepth 100000 in
set_option maxHeartbeats 1600000 in
theorem two_any (n : Nat) (hn : n < 100) (w : World) :
    Calls Tryd.prog 13 #[.int .i64 (n : Int)] w fun e w' => e = .returned (.string (tx (dg 2 n))) ∧ Below w.heap.size w w' := by
  have e1 : (n : Int).tdiv 10 = ((n / 10 : Nat) : Int) := tdivN n 10
  have e2 : ((n / 10 : Nat) : Int).tmod 10 = ((n / 10 % 10 : Nat) : Int) := tmodN (n / 10) 10
  have e3 : (n : Int).tmod 10 = ((n % 10 : Nat) : Int) := tmodN n 10
  have ed : dg 2 n = [UInt8.ofNat (48 + n / 10 % 10), UInt8.ofNat (48 + n % 10)] := rfl
  have HR : Hid (tx [UInt8.ofNat (48 + n / 10 % 10)] ++ tx [UInt8.ofNat (48 + n % 10)] = tx (dg 2 n)) := by rw [ed]; exact tx_app [_] [_]
  clear ed
  have u1 := sum_tx _ _ _ HR.out (by rw [tx_size, tx_size]; simp)
  have x1 := dec_cut (n / 10 % 10) (Nat.mod_lt _ (by decide))
  have x2 := dec_cut (n % 10) (Nat.mod_lt _ (by decide))
  have wc := c_wrap n hn
  have b1 : n / 10 % 10 < 10 := Nat.mod_lt _ (by decide)
  have b2 : n % 10 < 10 := Nat.mod_lt _ (by decide)
  generalize n / 10 % 10 = a at *
  generalize n / 10 = c at *
  generalize n % 10 = b at *
  obtain ⟨w1, w3⟩ := d_wraps a b1
  obtain ⟨w2, w4⟩ := d_wraps b b2
  obtain ⟨i1, i2, i3, n1⟩ := d_facts a b1
  obtain ⟨j1, j2, j3, n2⟩ := d_facts b b2
  generalize tx [UInt8.ofNat (48 + a)] = A at *
  generalize tx [UInt8.ofNat (48 + b)] = Bt at *
  generalize tx (dg 2 n) = R at *
  obtain ⟨fc, hf, hg⟩ := rc.class_of w
  have HD : Hid (w.drew = fc w.drew) := (hg _ (Below.refl _ _).drew).symm
  have HB0 := hide hf
  haveI : Nonempty World := ⟨w⟩
  clear hn hf hg
  go_enter Tryd.func13, Tryd.ntmps13
  go_wp2_with fail
  try simp only [List.append_eq, List.cons_append, List.nil_append]
  refine rc.wp_region_cls fc (by kernel_rfl) (by kernel_rfl) _ HD.out ?_
  repeat (go_big_quiet_step (fail))
  refine wpQuiet_nil ?_
  rintro _ ⟨nq, rfl⟩
  go_wp2_with fail
  go_ret
  exact ⟨by rw [← HR.out]; rfl, HB0.out nq⟩
end Go.Proofs.YtlbhiefamnpphaaDoor.jf
