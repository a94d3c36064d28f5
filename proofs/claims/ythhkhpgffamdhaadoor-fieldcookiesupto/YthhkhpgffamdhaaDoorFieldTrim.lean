import Derived.Test.YthhkhpgffamdhaaDoorFieldTok
import Derived.Test.YthhkhpgffamdhaaDoorFieldLays
import Derived.Shelf.Strings.SlTrimAscii
namespace Go.Proofs.YthhkhpgffamdhaaDoor.fd
open Go.ChangeShapes Go.WideShapes Go.ChangeAt Go.RowKit Go.Proofs.YthhkhpgffamdhaaDoor.common Go.Proofs.YthhkhpgffamdhaaDoor.bk
attribute [local go_sem ↓] Go.wp_at_zero Go.wp_at_succ

theorem strTrim_any (s : ByteArray) (w : World) (hs : s.size ≤ 9223372036854775807) :
    Calls Tryd.prog 88 #[.string s, .string ⟨#[32, 9]⟩] w fun e w' => e = .returned (S (Fd.trim s.data.toList)) ∧ Below w.heap.size w w' :=
  Any.strings_Trim_laid jl.lays160 (by kernel_rfl) s ⟨#[32, 9]⟩ w hs (by decide) (ascii_of_all (by decide))

theorem trim_any (s : ByteArray) (w : World) (hs : s.size ≤ 9223372036854775807) :
    Calls Tryd.prog 70 #[.string s] w fun e w' => e = .returned (S (Fd.trim s.data.toList)) ∧ Below w.heap.size w w' := by
  have HT := hide (strTrim_any s w hs)
  generalize S (Fd.trim s.data.toList) = t at *
  go_enter Tryd.func70, Tryd.ntmps70
  go_wp2_with (go_at_call 88; refine HT.out.mono ?_; rintro x w2 ⟨rfl, hb⟩)
  go_ret
  exact ⟨rfl, hb⟩

theorem extract_str (s : ByteArray) (lo hi : Nat) (_h : hi ≤ s.size) : s.extract lo hi = ⟨((s.data.toList.take hi).drop lo).toArray⟩ := by
  apply ba_ext
  rw [Lib.extract_data, str_list, List.drop_take]

set_option maxRecDepth 100000 in
set_option maxHeartbeats 1600000 in
theorem refTrim_any (s : ByteArray) (w : World) (hs : s.size ≤ 4611686018427387904) :
    Calls Tryd.prog 74 #[.string s] w fun e w' => e = .returned (S (Fd.trim s.data.toList)) ∧ w' = w := by
  obtain ⟨R, hR⟩ : ∃ R, R = Fd.trim s.data.toList := ⟨_, rfl⟩
  rw [← hR]
  have HRR := hide hR
  clear hR
  go_enter Tryd.func74, Tryd.ntmps74
  go_wp2_with fail
  go_loopw [3] (fun i wr => ∃ k : Nat, k ≤ s.size ∧ i = .int .i64 k ∧ (∀ j (h : j < s.size), j < k → Fd.white s[j] = true) ∧ wr = w) (fun i _ => s.size - (intOf i).toNat)
  case atStart => exact ⟨0, Nat.zero_le _, rfl, fun _ _ h => absurd h (Nat.not_lt_zero _), rfl⟩
  case round =>
    obtain ⟨k, hk, rfl, ha, rfl⟩ := hrel
    have HAK := hide ha
    clear ha
    by_cases hlt : k < s.size ∧ Fd.white (s[k]?.getD 0) = true
    · obtain ⟨hlt, hw⟩ := hlt
      have hki : (k : Int) < (s.size : Int) := by omega
      have hwk : Fd.white s[k] = true := by simpa [hlt] using hw
      clear hw
      have HN : Hid (∀ j (h : j < s.size), j < k + 1 → Fd.white s[j] = true) := by
        intro j h h2
        by_cases e : j < k
        · exact HAK.out j h e
        · obtain rfl : j = k := by omega
          exact hwk
      rcases (Fd.white_iff _).1 hwk with h | h
      · have hi : (s[k].toNat : Int) = 32 := by omega
        clear hwk h
        go_wp2_with fail
        go_roundw
        case rel => exact ⟨k + 1, by omega, by go_num, HN.out, by trivial⟩
        case measure => simp [intOf]; omega
      · have hi : (s[k].toNat : Int) = 9 := by omega
        clear hwk h
        go_wp2_with fail
        go_roundw
        case rel => exact ⟨k + 1, by omega, by go_num, HN.out, by trivial⟩
        case measure => simp [intOf]; omega
    · have HNW : Hid (∀ (h : k < s.size), Fd.white s[k] = false) := by
        intro h
        cases hw : Fd.white s[k] with
        | false => rfl
        | true => exact absurd ⟨h, by simpa [h] using hw⟩ hlt
      have hex : ¬ (k : Int) < (s.size : Int) ∨ ((k : Int) < (s.size : Int) ∧ ∃ h : k < s.size, ¬ (s[k].toNat : Int) = 32 ∧ ¬ (s[k].toNat : Int) = 9) := by
        by_cases h : k < s.size
        · refine Or.inr ⟨by omega, h, ?_⟩
          have h1 := HNW.out h
          rcases white_cases s[k] with ⟨h2, _⟩ | ⟨_, h2⟩
          · rw [h1] at h2; cases h2
          · omega
        · exact Or.inl (by omega)
      clear hlt
      have HXX : Hid (∀ m : Nat, k ≤ m → m ≤ s.size → (∀ j (h : j < s.size), m ≤ j → Fd.white s[j] = true) → (k < m → ∀ (h : m - 1 < s.size), Fd.white s[m - 1] = false) → s.extract k m = ⟨R.toArray⟩) := by
        intro m h1 h2 h3 h4
        rw [HRR.out, extract_str s k m h2, Fd.trim_eq s.data.toList k m h1 (by rw [len_list]; exact h2) (fun j h hj => HAK.out j (by simpa using h) hj) (fun h _ => HNW.out (by simpa using h)) (fun j h hj => h3 j (by simpa using h) hj) (fun h1 h => h4 h1 (by simpa using h))]
      rcases hex with hex | ⟨hex, hks, hex1, hex2⟩
      · obtain rfl : k = s.size := by omega
        have HR := hide (HXX.out s.size (Nat.le_refl _) (Nat.le_refl _) (fun j h h2 => absurd h (by omega)) (fun h => absurd h (Nat.lt_irrefl _)))
        go_wp2_with fail
        go_loopw [4] (fun i w2 => i = .int .i64 s.size ∧ w2 = wr) (fun _ _ => 0)
        case atStart => exact ⟨rfl, rfl⟩
        case round =>
          obtain ⟨rfl, rfl⟩ := hrel
          go_wp2_with fail
          go_ret
          have hE : (⟨R.toArray⟩ : ByteArray) = ByteArray.empty := by
            rw [← HR.out]
            apply ba_ext
            rw [Lib.extract_data]
            simp
          exact ⟨by rw [show S R = Value.string ByteArray.empty from congrArg Value.string hE]; rfl, rfl⟩
      · have hq1 : ((s[k].toNat : Int) == 32) = false := beq_false_of_ne hex1
        have hq2 : ((s[k].toNat : Int) == 9) = false := beq_false_of_ne hex2
        go_wp2_with fail
        go_loopw [4] (fun i w2 => ∃ m : Nat, k ≤ m ∧ m ≤ s.size ∧ i = .int .i64 m ∧ (∀ j (h : j < s.size), m ≤ j → Fd.white s[j] = true) ∧ w2 = wr) (fun i _ => (intOf i).toNat)
        case atStart => exact ⟨s.size, hk, Nat.le_refl _, rfl, fun j h h2 => absurd h (by omega), rfl⟩
        case round =>
          obtain ⟨m, hkm, hm, rfl, hb, rfl⟩ := hrel
          have HBM := hide hb
          clear hb
          by_cases hgt : k < m ∧ Fd.white (s[m - 1]?.getD 0) = true
          · obtain ⟨hgt, hw⟩ := hgt
            have hm1 : m - 1 < s.size := by omega
            have hgi : (k : Int) < (m : Int) := by omega
            have hwk : Fd.white s[m - 1] = true := by simpa [hm1] using hw
            clear hw
            have e1 : (m : Int) - 1 = ((m - 1 : Nat) : Int) := by omega
            have hmi : ((m - 1 : Nat) : Int) < (s.size : Int) := by omega
            have HN : Hid (∀ j (h : j < s.size), m - 1 ≤ j → Fd.white s[j] = true) := by
              intro j h h2
              by_cases e : m ≤ j
              · exact HBM.out j h e
              · obtain rfl : j = m - 1 := by omega
                exact hwk
            rcases (Fd.white_iff _).1 hwk with h | h
            · have hi : (s[m - 1].toNat : Int) = 32 := by omega
              clear hwk h
              go_wp2_with fail
              go_roundw
              case rel => exact ⟨m - 1, by omega, by omega, by go_num, HN.out, by trivial⟩
              case measure => simp [intOf]; omega
            · have hi : (s[m - 1].toNat : Int) = 9 := by omega
              clear hwk h
              go_wp2_with fail
              go_roundw
              case rel => exact ⟨m - 1, by omega, by omega, by go_num, HN.out, by trivial⟩
              case measure => simp [intOf]; omega
          · have HNM : Hid (k < m → ∀ (h : m - 1 < s.size), Fd.white s[m - 1] = false) := by
              intro h1 h
              cases hw : Fd.white s[m - 1] with
              | false => rfl
              | true => exact absurd ⟨h1, by simpa [h] using hw⟩ hgt
            clear hgt
            have HR := hide (HXX.out m hkm hm HBM.out HNM.out)
            have hkmi : (k : Int) ≤ (m : Int) := by omega
            have hmsi : (m : Int) ≤ (s.size : Int) := by omega
            by_cases hgt : k < m
            · have hm1 : m - 1 < s.size := by omega
              have hgi : (k : Int) < (m : Int) := by omega
              have e1 : (m : Int) - 1 = ((m - 1 : Nat) : Int) := by omega
              have hmi : ((m - 1 : Nat) : Int) < (s.size : Int) := by omega
              have h3 : ¬ (s[m - 1].toNat : Int) = 32 ∧ ¬ (s[m - 1].toNat : Int) = 9 := by
                have h1 := HNM.out hgt hm1
                rcases white_cases s[m - 1] with ⟨h2, _⟩ | ⟨_, h2⟩
                · rw [h1] at h2; cases h2
                · omega
              obtain ⟨h3, h4⟩ := h3
              have hq3 : ((s[m - 1].toNat : Int) == 32) = false := beq_false_of_ne h3
              have hq4 : ((s[m - 1].toNat : Int) == 9) = false := beq_false_of_ne h4
              go_wp2_with fail
              go_ret
              exact ⟨by simp [HR.out], rfl⟩
            · have hgi : ¬ (k : Int) < (m : Int) := by omega
              go_wp2_with fail
              go_ret
              exact ⟨by simp [HR.out], rfl⟩

end Go.Proofs.YthhkhpgffamdhaaDoor.fd
