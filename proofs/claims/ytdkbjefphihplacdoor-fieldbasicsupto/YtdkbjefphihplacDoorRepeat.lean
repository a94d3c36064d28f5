import Derived.Test.YtdkbjefphihplacDoorRadixKit
namespace Go.Proofs.YtdkbjefphihplacDoor.radw
open Go.ChangeShapes Go.WideShapes Go.ChangeAt Go.RowKit Go.Proofs.YtdkbjefphihplacDoor.common
attribute [local go_sem ↓] Go.wp_at_zero Go.wp_at_succ

set_option maxHeartbeats 400000 in
theorem mul64_two (w : World) : Calls Tryd.prog 104 #[.int .u64 1, .int .u64 2] w fun e w' => e = .returned (.tuple #[.int .u64 0, .int .u64 2]) ∧ w' = w := by
  go_enter Tryd.func104, Tryd.ntmps104
  go_wp2
  go_ret2
  exact ⟨rfl, rfl⟩
set_option maxHeartbeats 400000 in
theorem mul64_three (w : World) : Calls Tryd.prog 104 #[.int .u64 1, .int .u64 3] w fun e w' => e = .returned (.tuple #[.int .u64 0, .int .u64 3]) ∧ w' = w := by
  go_enter Tryd.func104, Tryd.ntmps104
  go_wp2
  go_ret2
  exact ⟨rfl, rfl⟩
set_option maxHeartbeats 400000 in
theorem mul_two (w : World) : Calls Tryd.prog 80 #[.int .u64 1, .int .u64 2] w fun e w' => e = .returned (.tuple #[.int .u64 0, .int .u64 2]) ∧ w' = w := by
  go_enter Tryd.func80, Tryd.ntmps80
  go_wp2_with (go_at_call 104; refine (mul64_two _).mono ?_; rintro e w' ⟨rfl, rfl⟩)
  go_ret2
  exact ⟨rfl, rfl⟩
set_option maxHeartbeats 400000 in
theorem mul_three (w : World) : Calls Tryd.prog 80 #[.int .u64 1, .int .u64 3] w fun e w' => e = .returned (.tuple #[.int .u64 0, .int .u64 3]) ∧ w' = w := by
  go_enter Tryd.func80, Tryd.ntmps80
  go_wp2_with (go_at_call 104; refine (mul64_three _).mono ?_; rintro e w' ⟨rfl, rfl⟩)
  go_ret2
  exact ⟨rfl, rfl⟩

set_option maxHeartbeats 400000 in
theorem slite_any (A : ByteArray) (h1 : 1 ≤ A.size) (hx : A.extract 0 1 = ⟨#[61]⟩) (w : World) : Calls Tryd.prog 105 #[.string A, .string ⟨#[61]⟩] w fun e w' => e = .returned (.bool true) ∧ w' = w := by
  have h2 : (1 : Int) ≤ (A.size : Int) := by omega
  go_enter Tryd.func105, Tryd.ntmps105
  go_wp2
  go_ret
  exact ⟨rfl, rfl⟩
set_option maxHeartbeats 400000 in
theorem slite_no (A : ByteArray) (h1 : 1 ≤ A.size) (hx : ((A.extract 0 1).toList == [61]) = false) (w : World) : Calls Tryd.prog 105 #[.string A, .string ⟨#[61]⟩] w fun e w' => e = .returned (.bool false) ∧ w' = w := by
  have h2 : (1 : Int) ≤ (A.size : Int) := by omega
  go_enter Tryd.func105, Tryd.ntmps105
  go_wp2
  go_ret
  exact ⟨rfl, rfl⟩
theorem prefix_any (A : ByteArray) (h1 : 1 ≤ A.size) (hx : A.extract 0 1 = ⟨#[61]⟩) (w : World) : Calls Tryd.prog 81 #[.string A, .string ⟨#[61]⟩] w fun e w' => e = .returned (.bool true) ∧ w' = w := by
  have H1 := hide h1
  have H2 := hide hx
  clear h1 hx
  go_enter Tryd.func81, Tryd.ntmps81
  go_wp2_with (go_at_call 105; refine (slite_any _ H1.out H2.out _).mono ?_; rintro e w' ⟨rfl, rfl⟩)
  go_ret
  exact ⟨rfl, rfl⟩

theorem prefix_no (A : ByteArray) (h1 : 1 ≤ A.size) (hx : ((A.extract 0 1).toList == [61]) = false) (w : World) : Calls Tryd.prog 81 #[.string A, .string ⟨#[61]⟩] w fun e w' => e = .returned (.bool false) ∧ w' = w := by
  have H1 := hide h1
  have H2 := hide hx
  clear h1 hx
  go_enter Tryd.func81, Tryd.ntmps81
  go_wp2_with (go_at_call 105; refine (slite_no _ H1.out H2.out _).mono ?_; rintro e w' ⟨rfl, rfl⟩)
  go_ret
  exact ⟨rfl, rfl⟩

set_option maxRecDepth 100000 in
theorem repeat_zero (w : World) : Calls Tryd.prog 69 #[.string ⟨#[61]⟩, .int .i64 0] w fun e w' => e = .returned (.string ⟨#[]⟩) ∧ w' = w := by
  go_enter Tryd.func69, Tryd.ntmps69
  go_wp2
  go_ret
  exact ⟨rfl, rfl⟩
set_option maxRecDepth 100000 in
theorem repeat_one (w : World) : Calls Tryd.prog 69 #[.string ⟨#[61]⟩, .int .i64 1] w fun e w' => e = .returned (.string ⟨#[61]⟩) ∧ w' = w := by
  go_enter Tryd.func69, Tryd.ntmps69
  go_wp2
  go_ret
  exact ⟨rfl, rfl⟩
set_option maxRecDepth 100000 in
set_option maxHeartbeats 800000 in
theorem repeat_two (w : World) : Calls Tryd.prog 69 #[.string ⟨#[61]⟩, .int .i64 2] w fun e w' => e = .returned (.string ⟨#[61, 61]⟩) ∧ w' = w := by
  go_enter Tryd.func69, Tryd.ntmps69
  go_wp2_with (first | (go_at_call 80; refine (mul_two _).mono ?_; rintro e w' ⟨rfl, rfl⟩) | (go_at_call 81; refine (prefix_any _ (by decide +kernel) (by decide +kernel) _).mono ?_; rintro e w' ⟨rfl, rfl⟩) | (go_at_call 81; refine (prefix_no _ (by decide +kernel) (by decide +kernel) _).mono ?_; rintro e w' ⟨rfl, rfl⟩))
  go_ret
  exact ⟨by kernel_rfl, rfl⟩
set_option maxRecDepth 100000 in
set_option maxHeartbeats 800000 in
theorem repeat_three (w : World) : Calls Tryd.prog 69 #[.string ⟨#[61]⟩, .int .i64 3] w fun e w' => e = .returned (.string ⟨#[61, 61, 61]⟩) ∧ w' = w := by
  go_enter Tryd.func69, Tryd.ntmps69
  go_wp2_with (first | (go_at_call 80; refine (mul_three _).mono ?_; rintro e w' ⟨rfl, rfl⟩) | (go_at_call 81; refine (prefix_any _ (by decide +kernel) (by decide +kernel) _).mono ?_; rintro e w' ⟨rfl, rfl⟩) | (go_at_call 81; refine (prefix_no _ (by decide +kernel) (by decide +kernel) _).mono ?_; rintro e w' ⟨rfl, rfl⟩))
  go_ret
  exact ⟨by kernel_rfl, rfl⟩

end Go.Proofs.YtdkbjefphihplacDoor.radw
