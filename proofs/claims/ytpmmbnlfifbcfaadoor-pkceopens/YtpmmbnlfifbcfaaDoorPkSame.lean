import Derived.Test.YtpmmbnlfifbcfaaDoorPkBase
namespace Go.Proofs.YtpmmbnlfifbcfaaDoor.pk
open Go.ChangeShapes Go.WideShapes Go.ChangeAt Go.RowKit Go.Proofs.YtpmmbnlfifbcfaaDoor.common

set_option maxRecDepth 100000 in
set_option maxHeartbeats 1600000 in
theorem same_any (a b : ByteArray) (w : World) (ha : a.size ≤ 4611686018427387904) :
    Calls Tryd.prog 12 #[.string a, .string b] w fun e w' => e = .returned (.bool (sm a b)) ∧ ∃ m, w' = w.drewN m := by
  by_cases hz : a.size = b.size
  case neg =>
    have hzi : ¬ (a.size : Int) = (b.size : Int) := by omega
    have hzb : ((a.size : Int) == (b.size : Int)) = false := beq_false_of_ne hzi
    have HR := hide (sm_ne (a := a) (b := b) fun e => hz (by rw [e]))
    rw [HR.out]
    go_enter Tryd.func12, Tryd.ntmps12
    go_wp2
    go_ret
    exact ⟨rfl, 0, rfl⟩
  have HB : Hid (∀ k, k < a.size → k < b.size) := fun k h => by omega
  have HS : Hid (Pk.diff a.data.toList b.data.toList a.size = 0 ↔ a = b) := by
    have := Pk.diff_same a.data.toList b.data.toList (by simpa using hz)
    rw [plen] at this
    exact this.trans ⟨fun h => pext h, fun h => by rw [h]⟩
  have HD : Hid (∀ k (h1 : k < a.size) (h2 : k < b.size), bits .or .u8 (Pk.diff a.data.toList b.data.toList k : Int) (bits .xor .u8 (a[k].toNat : Int) (b[k].toNat : Int)) = (Pk.diff a.data.toList b.data.toList (k + 1) : Int)) := fun k h1 h2 => by
    rw [u8_xor_nat _ _ a[k].toNat_lt b[k].toNat_lt, u8_or_nat _ _ (Pk.diff_lt _ _ _) (Nat.xor_lt_two_pow (n := 8) a[k].toNat_lt b[k].toNat_lt)]
    show _ = ((Pk.diff _ _ k ||| _ : Nat) : Int)
    rw [pgetD a k h1, pgetD b k h2]
  have hzb : ((a.size : Int) == (b.size : Int)) = true := by rw [hz]; simp
  have HZ := hide hz
  clear hz
  go_enter Tryd.func12, Tryd.ntmps12
  go_wp2_with fail
  go_loopw [14, 5] (fun i x wr => ∃ k : Nat, k ≤ a.size ∧ i = .int .i64 k ∧ x = .int .u8 (Pk.diff a.data.toList b.data.toList k : Int) ∧ wr = w.drewN k) (fun i _ _ => a.size - (intOf i).toNat)
  case atStart => exact ⟨0, Nat.zero_le _, rfl, rfl, rfl⟩
  case round =>
    obtain ⟨k, hk, rfl, rfl, rfl⟩ := hrel
    by_cases hlt : k < a.size
    · have hki : (k : Int) < (a.size : Int) := by omega
      have hlb := HB.out k hlt
      have hkb : (k : Int) < (b.size : Int) := by omega
      have e1 := HD.out k hlt hlb
      obtain ⟨D', hD'⟩ : ∃ D' : Nat, D' = Pk.diff a.data.toList b.data.toList (k + 1) := ⟨_, rfl⟩
      rw [← hD'] at e1
      have HD' : Hid (Value.int .u8 (D' : Int) = .int .u8 (Pk.diff a.data.toList b.data.toList (k + 1) : Int)) := by show _ = _; rw [hD']
      clear hD'
      go_wp2_with fail
      go_region
      go_wp2
      go_roundw
      case rel => exact ⟨k + 1, by omega, by go_num, HD'.out, rfl⟩
      case measure => simp [intOf]; omega
    · obtain rfl : k = a.size := by omega
      by_cases he : a = b
      · have h0 := HS.out.2 he
        have HR := hide (sm_eq he)
        have h0i : ((Pk.diff a.data.toList b.data.toList a.size : Int) == 0) = true := by rw [h0]; rfl
        clear h0
        go_wp2
        go_ret
        exact ⟨by rw [HR.out]; simp_all, _, rfl⟩
      · have h0 : ¬ Pk.diff a.data.toList b.data.toList a.size = 0 := fun h => he (HS.out.1 h)
        have h0i : ((Pk.diff a.data.toList b.data.toList a.size : Int) == 0) = false := beq_false_of_ne (by omega)
        have HR := hide (sm_ne he)
        go_wp2
        go_ret
        exact ⟨by rw [HR.out]; simp_all, _, rfl⟩

end Go.Proofs.YtpmmbnlfifbcfaaDoor.pk
