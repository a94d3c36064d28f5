import Derived.Test.YtdkbjefphihplacDoorRepeat
import Derived.Test.YtdkbjefphihplacDoorStdTab
import Derived.Deep.RegionWith
namespace Go.Proofs.YtdkbjefphihplacDoor.radw
open Go.ChangeShapes Go.WideShapes Go.ChangeAt Go.RowKit Go.Proofs.YtdkbjefphihplacDoor.common
attribute [local go_sem ↓] Go.wp_at_zero Go.wp_at_succ

theorem pad_of (n r : Nat) (h : n % 4 = r) : Rad.pad n = List.replicate ((4 - r) % 4) 61 := by unfold Rad.pad; rw [h]

theorem pad_any (n : Nat) (w : World) (hn : n ≤ 187649984468316) :
    Calls Tryd.prog 53 #[.int .i64 (n : Int)] w fun e w' => e = .returned (.string ⟨(Rad.pad n).toArray⟩) ∧ w' = w := by
  have hr : n % 4 = 0 ∨ n % 4 = 1 ∨ n % 4 = 2 ∨ n % 4 = 3 := by omega
  rcases hr with h | h | h | h
  · have e0 : (n : Int) % 4 = 0 := by omega
    rw [pad_of n 0 h]
    clear h
    go_enter Tryd.func53, Tryd.ntmps53
    go_wp2_with (go_at_call 69; refine (repeat_zero _).mono ?_; rintro e w' ⟨rfl, rfl⟩)
    go_ret
    exact ⟨rfl, rfl⟩
  · have e0 : (n : Int) % 4 = 1 := by omega
    rw [pad_of n 1 h]
    clear h
    go_enter Tryd.func53, Tryd.ntmps53
    go_wp2_with (go_at_call 69; refine (repeat_three _).mono ?_; rintro e w' ⟨rfl, rfl⟩)
    go_ret
    exact ⟨rfl, rfl⟩
  · have e0 : (n : Int) % 4 = 2 := by omega
    rw [pad_of n 2 h]
    clear h
    go_enter Tryd.func53, Tryd.ntmps53
    go_wp2_with (go_at_call 69; refine (repeat_two _).mono ?_; rintro e w' ⟨rfl, rfl⟩)
    go_ret
    exact ⟨rfl, rfl⟩
  · have e0 : (n : Int) % 4 = 3 := by omega
    rw [pad_of n 3 h]
    clear h
    go_enter Tryd.func53, Tryd.ntmps53
    go_wp2_with (go_at_call 69; refine (repeat_one _).mono ?_; rintro e w' ⟨rfl, rfl⟩)
    go_ret
    exact ⟨rfl, rfl⟩

abbrev StdTab (w : World) : Prop := TabAt 13 Rad.stdT w

end Go.Proofs.YtdkbjefphihplacDoor.radw
