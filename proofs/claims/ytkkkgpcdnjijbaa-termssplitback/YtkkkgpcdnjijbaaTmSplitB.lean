import Derived.Test.YtkkkgpcdnjijbaaTmSplit
namespace Go.Proofs.Ytkkkgpcdnjijbaa.tm
open Go.ChangeShapes Go.WideShapes Go.ChangeAt Go.RowKit Go.Proofs.Ytkkkgpcdnjijbaa.common Go.Proofs.Ytkkkgpcdnjijbaa.bk Go.Proofs.Ytkkkgpcdnjijbaa.fd
attribute [local go_sem ↓] Go.wp_at_zero Go.wp_at_succ

set_option maxRecDepth 100000 in
set_option maxHeartbeats 1600000 in
theorem lawSplitBack (s : ByteArray) (w : World) (hs : s.size ≤ 4611686018427387904) :
    Calls Try.prog 6 #[.string s] w fun e w' => e = .returned (.bool true) ∧ Below w.heap.size w w' := by
  have hb : ∀ x ∈ before 63 s.data.toList, x ≠ (63 : UInt8) := ba_none s
  have hl : (before 63 s.data.toList).length ≤ s.data.toList.length := by unfold before; exact (List.takeWhile_sublist _).length_le
  rw [len_list] at hl
  obtain ⟨a, ha⟩ : ∃ a : ByteArray, a = ⟨(before 63 s.data.toList).toArray⟩ := ⟨_, rfl⟩
  obtain ⟨b, hbb⟩ : ∃ b : ByteArray, b = ⟨(behind 63 s.data.toList).toArray⟩ := ⟨_, rfl⟩
  obtain ⟨f, hf⟩ : ∃ f : Bool, f = s.data.toList.contains 63 := ⟨_, rfl⟩
  have H1 : Hid (∀ W, Calls Try.prog 20 #[.string s] W fun e w' => e = .returned (.tuple #[.string a, .string b, .bool f]) ∧ Below W.heap.size W w') := by
    intro W; rw [ha, hbb, hf]; exact split_any s W hs
  have HP : Hid (f = true → a ++ ⟨#[63]⟩ ++ b = s) := by
    intro h
    rw [ha, hbb]
    apply ba_ext
    have := ba_parts s (hf ▸ h)
    simpa using this
  have HQ : Hid (f = false → a = s ∧ b = ⟨#[]⟩) := by
    intro h
    obtain ⟨e1, e2⟩ := ba_whole s (hf ▸ h)
    rw [ha, hbb]
    exact ⟨ba_ext (by rw [str_list, e1]), by rw [e2]⟩
  have HN : Hid (∀ k (h : k < a.size), (a[k]'h).toNat ≠ 63) := by
    subst ha
    intro k h e
    have hk : k < (before 63 s.data.toList).length := by rw [str_size] at h; exact h
    exact hb _ (List.getElem_mem hk) (UInt8.toNat_inj.1 e)
  have hz : a.size ≤ s.size := by rw [ha, str_size]; exact hl
  clear hb hl ha hbb hf
  go_enter Try.func6, Try.ntmps6
  go_wp2_with fail
  refine (H1.out _).mono ?_
  rintro e w1 ⟨rfl, hb1⟩
  have HB1 := hide hb1
  clear hb1
  go_wp2_with fail
  go_loopw [6] (fun i wr => ∃ k : Nat, k ≤ a.size ∧ i = .int .i64 k ∧ wr = w1) (fun i _ => a.size - (intOf i).toNat)
  case atStart => exact ⟨0, Nat.zero_le _, rfl, rfl⟩
  case round =>
    obtain ⟨k, hk, rfl, rfl⟩ := hrel
    by_cases hlt : k < a.size
    · have hki : (k : Int) < (a.size : Int) := by omega
      have hq : ¬ a[k].toNat = 63 := HN.out k hlt
      have hqi : ¬ (a[k].toNat : Int) = 63 := by omega
      go_wp2_with fail
      go_roundw
      case rel => exact ⟨k + 1, by omega, by go_num, by trivial⟩
      case measure => simp [intOf]; omega
    · obtain rfl : k = a.size := by omega
      cases f with
      | true =>
        have e := HP.out rfl
        clear HP HQ
        have he : ((a ++ ⟨#[63]⟩ ++ b).toList == s.toList) = true := eq_list e
        have hsz : (a ++ ⟨#[63]⟩ ++ b).size = s.size := by rw [e]
        have hsz1 : a.size + 1 + b.size = s.size := by rw [← hsz, ByteArray.size_append, ByteArray.size_append]; rfl
        go_wp2_with fail
        go_ret
        first | exact ⟨rfl, HB1.out⟩ | (refine ⟨?_, HB1.out⟩; rw [e]; simp)
      | false =>
        obtain ⟨rfl, rfl⟩ := HQ.out rfl
        go_wp2_with fail
        go_ret
        first | exact ⟨rfl, HB1.out⟩ | exact ⟨by simp, HB1.out⟩

end Go.Proofs.Ytkkkgpcdnjijbaa.tm
