import Derived.Test.YtgppnklildhmbaaPkSame
namespace Go.Proofs.Ytgppnklildhmbaa.pk
open Go.ChangeShapes Go.WideShapes Go.ChangeAt Go.RowKit Go.Proofs.Ytgppnklildhmbaa.common

theorem cellsTwo : Try.prog.cellsOf 23 = 2 := by kernel_rfl
theorem long_ne (a : ByteArray) : a ≠ a ++ ⟨#[0]⟩ := fun e => by
  have h := congrArg ByteArray.size e
  rw [ByteArray.size_append] at h
  have : (⟨#[0]⟩ : ByteArray).size = 1 := rfl
  omega

set_option maxRecDepth 100000 in
set_option maxHeartbeats 3200000 in
theorem lawSame (a b : ByteArray) (w : World) (ha : a.size ≤ reachBytes) (hb : b.size ≤ reachBytes) :
    Calls Try.prog 3 #[.agg #[.string a, .string b]] w fun e w' => e = .returned (.bool true) ∧ Below w.heap.size w w' := by
  unfold reachBytes at ha hb
  have H1 := hide (fun W => same_any a b W (by omega))
  have H2 := hide (fun W => same_any b a W (by omega))
  have H3 := hide (fun W => same_any a a W (by omega))
  have H4 := hide (fun W => same_any a (a ++ ⟨#[0]⟩) W (by omega))
  rw [sm_ne (long_ne a)] at H4
  rw [sm_self a] at H3
  rw [sm_comm b a] at H2
  have HW : Hid (Below w.heap.size w (w.alloc (.cells #[.string a, .string b] 23))) := (Below.refl _ _).alloc (Nat.le_refl _) _
  have a1 : (w.alloc (.cells #[.string a, .string b] 23)).cell? ⟨w.heap.size, 0, none⟩ = some (.string a) := by simp
  have b1 : (w.alloc (.cells #[.string a, .string b] 23)).cell? ⟨w.heap.size, 1, none⟩ = some (.string b) := by simp
  obtain ⟨t, ht⟩ : ∃ t, sm a b = t := ⟨_, rfl⟩
  rw [ht] at H1 H2
  have hts : (a.toList == b.toList) = t := ht
  clear ht
  go_enter Try.func3, Try.ntmps3
  go_wp2_with fail
  refine (H1.out _).mono ?_
  rintro x w1 ⟨rfl, m1, rfl⟩
  generalize w.alloc (.cells #[.string a, .string b] 23) = V at *
  have a2 : (V.drewN m1).cell? ⟨w.heap.size, 0, none⟩ = some (.string a) := a1
  have b2 : (V.drewN m1).cell? ⟨w.heap.size, 1, none⟩ = some (.string b) := b1
  have HT := hide hts
  clear hts
  go_wp2_with fail
  refine (H2.out _).mono ?_
  rintro x w2 ⟨rfl, m2, rfl⟩
  have a3 : ((V.drewN m1).drewN m2).cell? ⟨w.heap.size, 0, none⟩ = some (.string a) := a1
  go_wp2_with fail
  refine (H3.out _).mono ?_
  rintro x w3 ⟨rfl, m3, rfl⟩
  have a4 : (((V.drewN m1).drewN m2).drewN m3).cell? ⟨w.heap.size, 0, none⟩ = some (.string a) := a1
  go_wp2_with fail
  refine (H4.out _).mono ?_
  rintro x w4 ⟨rfl, m4, rfl⟩
  go_wp2
  go_ret
  exact ⟨rfl, bdN HW.out _⟩

end Go.Proofs.Ytgppnklildhmbaa.pk
