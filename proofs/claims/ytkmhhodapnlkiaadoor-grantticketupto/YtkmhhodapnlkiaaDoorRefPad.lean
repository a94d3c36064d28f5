import Derived.Test.YtkmhhodapnlkiaaDoorRefSha
import Derived.Test.YtkmhhodapnlkiaaDoorPadWalks
namespace Go.Proofs.YtkmhhodapnlkiaaDoor.refw
open Go.ChangeShapes Go.WideShapes Go.ChangeAt Go.RowKit Go.Proofs.YtkmhhodapnlkiaaDoor.common Go.Proofs.YtkmhhodapnlkiaaDoor.shaw

/-- the padded text -/
def full (l : List UInt8) : List UInt8 := l ++ Sha.pad l.length

theorem full_length (l : List UInt8) : (full l).length = l.length + Sha.padSize l.length := by
  unfold full Sha.pad
  rw [List.length_append, Sha.padTo_length]

theorem full_left (l : List UInt8) (i : Nat) (h : i < l.length) : (full l).getD i 0 = l.getD i 0 := by
  unfold full
  rw [List.getD_eq_getElem?_getD, List.getElem?_append_left h, ← List.getD_eq_getElem?_getD]

theorem full_right (l : List UInt8) (i : Nat) (h : l.length ≤ i) (h2 : i < l.length + Sha.padSize l.length) : (full l).getD i 0 = Sha.padByte l.length (i - l.length) := by
  unfold full
  rw [List.getD_eq_getElem?_getD, List.getElem?_append_right h, ← List.getD_eq_getElem?_getD]
  exact Sha.padTo_get _ _ _ (by omega)

theorem and255 (x : Nat) (h : x < 18446744073709551616) : bits .and .u64 (x : Int) 255 % 4294967296 = ((UInt8.ofNat x).toNat : Int) := by
  have h1 := bits_and_u64_nat x 255 h (by decide)
  rw [show ((255 : Nat) : Int) = 255 from rfl] at h1
  rw [h1, show x &&& 255 = x % 256 from Nat.and_two_pow_sub_one_eq_mod x 8, UInt8.toNat_ofNat']
  omega

theorem amt (M at_ k : Nat) (hM : M < 1125899906842624) (ha : at_ < M) (hk : M - 1 - at_ = k) (hk8 : k < 8) : min (IntKind.u64.wrap (wrap64 (8 * wrap64 (wrap64 ((M : Int) - 1) - (at_ : Int))))).toNat 64 = 8 * k := by
  rw [IntKind.wrap_u64]
  unfold wrap64
  omega

theorem last_byte (n M at_ k : Nat) (hn : n ≤ 562949953421312) (hM : M < 1125899906842624) (ha : at_ < M) (hk : M - 1 - at_ = k) (hk8 : k < 8) :
    bits .and .u64 ((n : Int) * 8 / 2 ^ min (IntKind.u64.wrap (wrap64 (8 * wrap64 (wrap64 ((M : Int) - 1) - (at_ : Int))))).toNat 64) 255 % 4294967296 = ((UInt8.ofNat (8 * n / 2 ^ (8 * k))).toNat : Int) := by
  rw [amt M at_ k hM ha hk hk8]
  have e : ((n : Int) * 8 / 2 ^ (8 * k)) = ((8 * n / 2 ^ (8 * k) : Nat) : Int) := by
    rw [Nat.mul_comm 8 n]; push_cast; rfl
  rw [e]
  exact and255 _ (Nat.lt_of_le_of_lt (Nat.div_le_self _ _) (by omega))

set_option maxHeartbeats 400000 in
theorem byteAt_any (s : ByteArray) (at_ : Nat) (w : World) (hs : s.size ≤ 562949953421312) (ha : at_ < s.size + Sha.padSize s.size) :
    Calls Tryd.prog 35 #[.string s, .int .i64 ((s.size + Sha.padSize s.size : Nat) : Int), .int .i64 (at_ : Int)] w fun e w' => e = .returned (.int .u32 (((full s.data.toList).getD at_ 0).toNat : Int)) ∧ w' = w := by
  have hpb := Sha.padSize_bounds s.size
  have hsl : s.data.toList.length = s.size := rfl
  by_cases h1 : at_ < s.size
  · have hv := full_left s.data.toList at_ h1
    obtain ⟨c, hc⟩ : ∃ c, (full s.data.toList).getD at_ 0 = c := ⟨_, rfl⟩
    rw [hc] at hv
    rw [hc]
    go_enter Tryd.func35, Tryd.ntmps35
    go_wp2_with fail
    have hg : c = s[at_] := by
      rw [hv, List.getD_eq_getElem?_getD, List.getElem?_eq_getElem (by rw [hsl]; exact h1)]; rfl
    go_ret
    refine ⟨?_, rfl⟩
    rw [hg]
    have := (s[at_]).toNat_lt
    rw [show ((s[at_].toNat : Int) % 4294967296) = (s[at_].toNat : Int) by omega]
    rfl
  · have hv := full_right s.data.toList at_ (by omega) (by rw [hsl]; exact ha)
    rw [hsl] at hv
    obtain ⟨c, hc⟩ : ∃ c, (full s.data.toList).getD at_ 0 = c := ⟨_, rfl⟩
    rw [hc] at hv
    rw [hc]
    clear hc
    obtain ⟨M, hM⟩ : ∃ M, s.size + Sha.padSize s.size = M := ⟨_, rfl⟩
    rw [hM] at ha
    rw [hM]
    obtain ⟨P, hP⟩ : ∃ P, Sha.padSize s.size = P := ⟨_, rfl⟩
    unfold Sha.padByte at hv
    rw [hP] at hv hM hpb
    have HV := hide hv
    have HP := hide hP
    have HM := hide hM
    clear hv hP hM
    by_cases h2 : at_ = s.size
    · subst h2
      have e : Hid (c = 0x80) := by have := HV.out; show _ = _; simpa using this
      go_enter Tryd.func35, Tryd.ntmps35
      go_wp2_with fail
      go_ret
      exact ⟨by rw [e.out]; rfl, rfl⟩
    · have h1' : ¬ (at_ : Int) < (s.size : Int) := by omega
      have h2' : ¬ (at_ : Int) = (s.size : Int) := by omega
      have m0 : IntKind.i64.wrap ((M : Int) - 8) = (M : Int) - 8 := wrap_small _ (by have := HM.out; omega) (by have := HM.out; omega)
      by_cases h3 : at_ < M - 8
      · have e : Hid (c = 0) := by
          show _ = _
          have := HV.out
          rw [if_neg (by omega), if_pos (by have := HM.out; omega)] at this
          exact this
        have h3' : (at_ : Int) < (M : Int) - 8 := by omega
        go_enter Tryd.func35, Tryd.ntmps35
        go_wp2_with fail
        go_ret
        exact ⟨by rw [e.out]; rfl, rfl⟩
      · have h3' : ¬ (at_ : Int) < (M : Int) - 8 := by have := HM.out; omega
        obtain ⟨k, hk⟩ : ∃ k, M - 1 - at_ = k := ⟨_, rfl⟩
        have e : Hid (c = UInt8.ofNat (8 * s.size / 2 ^ (8 * k))) := by
          show _ = _
          have := HV.out
          rw [if_neg (by omega), if_neg (by have := HM.out; omega)] at this
          rw [this, show P - 1 - (at_ - s.size) = k by have := HM.out; omega]
        go_enter Tryd.func35, Tryd.ntmps35
        go_wp2_with fail
        have hlast := last_byte s.size M at_ k hs (by have := HM.out; omega) ha hk (by omega)
        rw [hlast, ← e.out]
        go_ret
        exact ⟨rfl, rfl⟩
end Go.Proofs.YtkmhhodapnlkiaaDoor.refw
