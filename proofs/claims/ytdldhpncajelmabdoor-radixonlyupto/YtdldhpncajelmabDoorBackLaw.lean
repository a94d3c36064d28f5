import Derived.Test.YtdldhpncajelmabDoorUnStdWalks
import Derived.Test.YtdldhpncajelmabDoorUnHexWalks
import Derived.Stop.LaidErr
namespace Go.Proofs.YtdldhpncajelmabDoor.radw
open Go.ChangeShapes Go.WideShapes Go.ChangeAt Go.RowKit Go.Proofs.YtdldhpncajelmabDoor.common

theorem trimN_eq (l : List UInt8) (m k : Nat) (hm : m ≤ k) (h1 : ∀ i, m ≤ i → i < k → l.getD i 0 = 61) (h2 : m = 0 ∨ l.getD (m - 1) 0 ≠ 61) : trimN l k = m := by
  induction k with
  | zero => unfold trimN; omega
  | succ k ih =>
    by_cases h : m = k + 1
    · subst h
      unfold trimN
      have h3 : ¬ l.getD k 0 = 61 := by
        rcases h2 with h | h
        · omega
        · simpa using h
      rw [if_neg h3]
    · unfold trimN
      rw [if_pos (h1 k (by omega) (by omega))]
      exact ih (by omega) (fun i a b => h1 i a (by omega))

theorem app_getD (a b : List UInt8) (i : Nat) : (a ++ b).getD i 0 = if i < a.length then a.getD i 0 else b.getD (i - a.length) 0 := by
  rw [List.getD_eq_getElem?_getD, List.getElem?_append]
  split <;> rw [List.getD_eq_getElem?_getD]

theorem trim_std (l : List UInt8) : trimN (Rad.std l) (Rad.std l).length = (Rad.b64 Rad.stdT l).length := by
  have hv := Rad.valid_b64 Rad.stdGood l
  have hlen : (Rad.std l).length = (Rad.b64 Rad.stdT l).length + (Rad.pad (Rad.n6 l.length)).length := by unfold Rad.std; rw [List.length_append]
  apply trimN_eq
  · omega
  · intro i h1 h2
    unfold Rad.std
    rw [app_getD, if_neg (by omega)]
    have hi : i - (Rad.b64 Rad.stdT l).length < (Rad.pad (Rad.n6 l.length)).length := by omega
    rw [List.getD_eq_getElem?_getD, List.getElem?_eq_getElem hi]
    exact Rad.pad_all _ _ (List.getElem_mem _)
  · by_cases h : (Rad.b64 Rad.stdT l).length = 0
    · exact Or.inl h
    · refine Or.inr ?_
      unfold Rad.std
      rw [app_getD, if_pos (by omega)]
      intro he
      have := hv ((Rad.b64 Rad.stdT l).length - 1) (by omega)
      rw [he] at this
      exact this Rad.stdGood.eqs

theorem lets_std (l : List UInt8) : lets0 (Rad.std l) = Rad.b64 Rad.stdT l := by
  unfold lets0; rw [trim_std]; unfold Rad.std; rw [List.take_left]
theorem tail_std (l : List UInt8) : tail0 (Rad.std l) = Rad.pad (Rad.n6 l.length) := by
  unfold tail0; rw [trim_std]; unfold Rad.std; rw [List.drop_left]
theorem ok_std (l : List UInt8) : okStd (Rad.std l) := by
  unfold okStd
  rw [lets_std, tail_std, Rad.b64_len]
  exact ⟨rfl, Rad.valid_b64 Rad.stdGood l, Rad.rest_b64 Rad.stdGood l⟩

theorem safe_ways : ∀ v : Fin 64, (65 ≤ (Rad.urlT.getD v.val 0).toNat ∧ (Rad.urlT.getD v.val 0).toNat ≤ 90) ∨ (97 ≤ (Rad.urlT.getD v.val 0).toNat ∧ (Rad.urlT.getD v.val 0).toNat ≤ 122) ∨ (48 ≤ (Rad.urlT.getD v.val 0).toNat ∧ (Rad.urlT.getD v.val 0).toNat ≤ 57) ∨ (Rad.urlT.getD v.val 0).toNat = 45 ∨ (Rad.urlT.getD v.val 0).toNat = 95 := by decide +kernel

set_option maxHeartbeats 800000 in
theorem safe_any (c : Nat) (h : (65 ≤ c ∧ c ≤ 90) ∨ (97 ≤ c ∧ c ≤ 122) ∨ (48 ≤ c ∧ c ≤ 57) ∨ c = 45 ∨ c = 95) (w : World) :
    Calls Tryd.prog 16 #[.int .u8 (c : Int)] w fun e w' => e = .returned (.bool true) ∧ w' = w := by
  rcases h with h | h | h | h | h
  · have h1 : (65 : Int) ≤ (c : Int) := by omega
    have h2 : (c : Int) ≤ 90 := by omega
    go_enter Tryd.func16, Tryd.ntmps16
    go_wp2
    go_ret
    exact ⟨rfl, rfl⟩
  · have h1 : (97 : Int) ≤ (c : Int) := by omega
    have h2 : (c : Int) ≤ 122 := by omega
    go_enter Tryd.func16, Tryd.ntmps16
    go_wp2
    go_ret
    exact ⟨rfl, rfl⟩
  · have h1 : (48 : Int) ≤ (c : Int) := by omega
    have h2 : (c : Int) ≤ 57 := by omega
    go_enter Tryd.func16, Tryd.ntmps16
    go_wp2
    go_ret
    exact ⟨rfl, rfl⟩
  · subst h
    go_enter Tryd.func16, Tryd.ntmps16
    go_wp2
    go_ret
    exact ⟨rfl, rfl⟩
  · subst h
    go_enter Tryd.func16, Tryd.ntmps16
    go_wp2
    go_ret
    exact ⟨rfl, rfl⟩

theorem str_at (l : List UInt8) (i : Nat) (h : i < (⟨l.toArray⟩ : ByteArray).size) : (⟨l.toArray⟩ : ByteArray)[i] = l.getD i 0 := by
  rw [← getD_list _ i h]

theorem sz (l : List UInt8) : (⟨l.toArray⟩ : ByteArray).size = l.length := by
  show l.toArray.size = _; simp

set_option maxRecDepth 100000 in
set_option maxHeartbeats 1600000 in
theorem back_any (s : ByteArray) (w : World) (hs : s.size ≤ 1048576) (ea : Addr) (he : Txt w ea) (ht : Tabs w) :
    Calls Tryd.prog 5 #[.string s] w fun e w' => e = .returned (.bool true) ∧ Below w.heap.size w w' := by
  have HS : Hid (s.size ≤ reachBytes) := by show _ ≤ _; unfold reachBytes; omega
  have HE := hide he
  have HT := hide ht
  clear he ht
  go_enter Tryd.func5, Tryd.ntmps5
  go_wp2_with fail
  refine (url_any s w HS.out HT.out.url).mono ?_
  rintro e w1 ⟨rfl, h1⟩
  have K1 := hide h1
  clear h1
  go_wp2_with fail
  refine (std_any s w1 HS.out (HT.out.below K1.out (Nat.le_refl _)).std).mono ?_
  rintro e w2 ⟨rfl, h2⟩
  have K2 := hide (K1.out.trans (h2.mono K1.out.size))
  clear h2 K1
  go_wp2_with fail
  refine (hex_any s w2 HS.out (HT.out.below K2.out (Nat.le_refl _)).hex).mono ?_
  rintro e w3 ⟨rfl, h3⟩
  have K3 := hide (K2.out.trans (h3.mono K2.out.size))
  clear h3 K2
  have u1 : (⟨(Rad.b64 Rad.urlT s.data.toList).toArray⟩ : ByteArray).size = Rad.n6 s.size := by rw [sz, Rad.b64_len, len_list]
  have u2 : (⟨(Rad.std s.data.toList).toArray⟩ : ByteArray).size = (s.size + 2) / 3 * 4 := by rw [sz, Rad.std_len, len_list]
  have u3 : (⟨(Rad.hex s.data.toList).toArray⟩ : ByteArray).size = 2 * s.size := by rw [sz, Rad.hex_len, len_list]
  have v1 := n6_val s
  have v2 : ((s.size : Int) + 2) / 3 * 4 = (((s.size + 2) / 3 * 4 : Nat) : Int) := by omega
  have hN : Rad.n6 s.size ≤ 2097152 := by unfold Rad.n6; omega
  have hM : (s.size + 2) / 3 * 4 ≤ 2097152 := by omega
  have UA : Hid (∀ i, i < Rad.n6 s.size → (Rad.b64 Rad.urlT s.data.toList).getD i 0 = Rad.urlT.getD (Rad.six s.data.toList i) 0) := fun i hi => by
    unfold Rad.b64; rw [Rad.getD_map, if_pos (by rw [len_list]; exact hi)]
  have UL : Hid ((⟨(Rad.b64 Rad.urlT s.data.toList).toArray⟩ : ByteArray).data.toList = Rad.b64 Rad.urlT s.data.toList) := rfl
  have SL : Hid ((⟨(Rad.std s.data.toList).toArray⟩ : ByteArray).data.toList = Rad.std s.data.toList) := rfl
  have XL : Hid ((⟨(Rad.hex s.data.toList).toArray⟩ : ByteArray).data.toList = Rad.hex s.data.toList) := rfl
  generalize (⟨(Rad.b64 Rad.urlT s.data.toList).toArray⟩ : ByteArray) = U at *
  generalize (⟨(Rad.std s.data.toList).toArray⟩ : ByteArray) = S at *
  generalize (⟨(Rad.hex s.data.toList).toArray⟩ : ByteArray) = H at *
  generalize Rad.n6 s.size = N at *
  generalize (s.size + 2) / 3 * 4 = M at *
  go_wp2_with fail
  have U1 := hide u1
  have U2 := hide u2
  have U3 := hide u3
  clear u1 u2 u3 v1 v2
  go_loop [7] (fun i => ∃ k : Nat, k ≤ N ∧ i = .int .i64 k) (fun i => N - (intOf i).toNat)
  case atStart => exact ⟨0, Nat.zero_le _, rfl⟩
  case round =>
    obtain ⟨k, hk, rfl⟩ := hrel
    by_cases hlt : k < N
    · have hkU : k < U.size := by have := U1.out; omega
      have hki : (k : Int) < (U.size : Int) := by omega
      have hat : U[k] = Rad.urlT.getD (Rad.six s.data.toList k) 0 := by
        rw [← getD_list U k hkU, UL.out]; exact UA.out k hlt
      have HW := safe_ways ⟨Rad.six s.data.toList k, Rad.six_lt s.data.toList k⟩
      simp only at HW
      rw [← hat] at HW
      have HSF := hide (safe_any U[k].toNat HW)
      clear HW hat
      go_wp2_with (go_at_call 16; refine (HSF.out _).mono ?_; rintro e w' ⟨rfl, rfl⟩)
      go_round
      case rel => exact ⟨k + 1, by omega, by go_num⟩
      case measure => simp [intOf]; omega
    · obtain rfl : k = N := by omega
      have B1 : Hid (U.size ≤ reachBytes) := by show _ ≤ _; have := U1.out; unfold reachBytes; omega
      have B2 : Hid (S.size ≤ reachBytes) := by show _ ≤ _; have := U2.out; unfold reachBytes; omega
      have B3 : Hid (H.size ≤ reachBytes) := by show _ ≤ _; have := U3.out; unfold reachBytes; omega
      have hki : ¬ (k : Int) < (U.size : Int) := by have := U1.out; omega
      go_wp2_with fail
      refine (unurl_any U w3 B1.out ea (HE.out.below K3.out) (HT.out.below K3.out (Nat.le_refl _)).url).mono ?_
      rintro x w4 ⟨h4, ⟨_, rfl⟩ | ⟨hno, _⟩⟩
      · have K4 := hide (K3.out.trans (h4.mono K3.out.size))
        clear h4
        rw [UL.out, Rad.un64_b64 Rad.urlGood]
        go_wp2_with fail
        refine (unstd_any S w4 B2.out ea (HE.out.below K4.out) (HT.out.below K4.out (Nat.le_refl _)).std).mono ?_
        rintro x w5 ⟨h5, ⟨_, rfl⟩ | ⟨hno, _⟩⟩
        · have K5 := hide (K4.out.trans (h5.mono K4.out.size))
          clear h5
          rw [SL.out, lets_std, Rad.un64_b64 Rad.stdGood]
          go_wp2_with fail
          refine (unhex_any H w5 B3.out ea (HE.out.below K5.out) (HT.out.below K5.out (Nat.le_refl _)).hex).mono ?_
          rintro x w6 ⟨h6, ⟨_, _, rfl⟩ | ⟨hno, _⟩⟩
          · have K6 := hide (K5.out.trans (h6.mono K5.out.size))
            clear h6
            rw [XL.out, Rad.unhex_hex]
            have hss : (⟨s.data.toList.toArray⟩ : ByteArray) = s := rfl
            rw [hss]
            go_wp2_with fail
            go_ret
            exact ⟨by simp, K6.out⟩
          · exact absurd ⟨by rw [XL.out]; exact Rad.valid_hex _, by rw [XL.out, Rad.hex_len]; omega⟩ hno
        · exact absurd (by rw [SL.out]; exact ok_std _) hno
      · exact absurd ⟨by rw [UL.out]; exact Rad.valid_b64 Rad.urlGood _, by rw [UL.out]; exact Rad.rest_b64 Rad.urlGood _⟩ hno

end Go.Proofs.YtdldhpncajelmabDoor.radw
