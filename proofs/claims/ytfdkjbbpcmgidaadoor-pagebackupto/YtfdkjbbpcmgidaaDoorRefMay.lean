import Derived.Test.YtfdkjbbpcmgidaaDoorPageAll
namespace Go.Proofs.YtfdkjbbpcmgidaaDoor.pg
open Go.ChangeShapes Go.WideShapes Go.ChangeAt Go.RowKit Go.Proofs.YtfdkjbbpcmgidaaDoor.common Go.Maps
attribute [local go_sem ↓] Go.wp_at_zero Go.wp_at_succ

set_option maxRecDepth 100000 in
set_option maxHeartbeats 1600000 in
theorem refMayBe_any (x : Inp) (w : World) :
    Calls Tryd.prog 56 #[inV x] w fun e w' => e = .returned (.bool (mayB x)) ∧ Below w.heap.size w w' := by
  obtain ⟨kd, nm, vl, lb⟩ := x
  have HB1 : Hid (Below w.heap.size w (w.alloc (.cells #[.int .i64 kd, .string nm, .string vl, .string lb] 38))) := (Below.refl _ _).alloc (Nat.le_refl _) _
  unfold inV
  by_cases hk0 : kd < 1
  · have HM : Hid (mayB ⟨kd, nm, vl, lb⟩ = false) := by
      show _ = _
      unfold mayB
      simp only
      rw [if_neg (by omega), if_neg (by omega), if_neg (by omega), if_neg (by omega), Bool.and_false]
    go_enter Tryd.func56, Tryd.ntmps56
    go_wp2_with fail
    go_ret
    exact ⟨by rw [HM.out]; rfl, HB1.out⟩
  by_cases hk5 : 4 < kd
  · have HM : Hid (mayB ⟨kd, nm, vl, lb⟩ = false) := by
      show _ = _
      unfold mayB
      simp only
      rw [if_neg (by omega), if_neg (by omega), if_neg (by omega), if_neg (by omega), Bool.and_false]
    go_enter Tryd.func56, Tryd.ntmps56
    go_wp2_with fail
    go_ret
    exact ⟨by rw [HM.out]; rfl, HB1.out⟩
  obtain ⟨en, hen⟩ : ∃ en, nm.toList.isEmpty = en := ⟨_, rfl⟩
  obtain ⟨el, hel⟩ : ∃ el, lb.toList.isEmpty = el := ⟨_, rfl⟩
  obtain ⟨ev, hev⟩ : ∃ ev, vl.toList.isEmpty = ev := ⟨_, rfl⟩
  have hk : kd = 1 ∨ kd = 2 ∨ kd = 3 ∨ kd = 4 := by omega
  have HM : Hid (mayB ⟨kd, nm, vl, lb⟩ = (!en && (if kd = 1 then el else if kd = 2 then true else if kd = 3 then ev else if kd = 4 then true else false))) := by
    show _ = _
    unfold mayB emp
    simp only [hen, hel, hev]
  clear hk0 hk5
  rcases hk with rfl | rfl | rfl | rfl <;> cases en <;> cases el <;> cases ev
  all_goals
    go_enter Tryd.func56, Tryd.ntmps56
    go_wp2_with fail
    go_ret
    exact ⟨by rw [HM.out]; rfl, HB1.out⟩

end Go.Proofs.YtfdkjbbpcmgidaaDoor.pg
