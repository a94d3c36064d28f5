import Derived.Test.YtdkbjefphihplabDoorFieldTrim
namespace Go.Proofs.YtdkbjefphihplabDoor.fd
open Go.ChangeShapes Go.WideShapes Go.ChangeAt Go.RowKit Go.Proofs.YtdkbjefphihplabDoor.common Go.Proofs.YtdkbjefphihplabDoor.bk
attribute [local go_sem ↓] Go.wp_at_zero Go.wp_at_succ

theorem tests_val (w : World) : Tests0 44 Fd.val w := fun W c _ => isValueByte_any c W
theorem enters_val : ∀ args w, (callFunc 44 args).run Tryd.prog w = .ok (.enter 44 args) w := enters_of Tryd.func44 (by kernel_rfl) rfl

set_option maxRecDepth 100000 in
set_option maxHeartbeats 800000 in
theorem value_any (s : ByteArray) (w : World) (hs : s.size ≤ 4611686018427387904) :
    Calls Tryd.prog 14 #[.string s] w fun e w' => e = .returned (.bool (Fd.value s.data.toList)) ∧ Below w.heap.size w w' := by
  have HA := hide (all_p s _ Fd.val w hs enters_val (tests_val w))
  have HT := hide (trim_any s w (by omega))
  have HV : Hid (Fd.value s.data.toList = (s.data.toList.all Fd.val && decide (Fd.trim s.data.toList = s.data.toList))) := rfl
  rw [HV.out]
  clear HV
  generalize s.data.toList.all Fd.val = a at *
  cases a with
  | false =>
    go_enter Tryd.func14, Tryd.ntmps14
    go_wp2_with (go_at_call 43; refine HA.out.mono ?_; rintro x w2 ⟨rfl, rfl⟩)
    go_ret
    exact ⟨rfl, Below.refl _ _⟩
  | true =>
    by_cases ht : Fd.trim s.data.toList = s.data.toList
    · rw [decide_eq_true ht]
      have e : S (Fd.trim s.data.toList) = .string s := by rw [ht]
      rw [e] at HT
      go_enter Tryd.func14, Tryd.ntmps14
      go_wp2_with (first
        | (go_at_call 43; refine HA.out.mono ?_; rintro x w2 ⟨rfl, rfl⟩)
        | (go_at_call 45; refine HT.out.mono ?_; rintro x w2 ⟨rfl, hb⟩))
      go_ret
      exact ⟨by simp, hb⟩
    · rw [decide_eq_false ht]
      have hne : ((⟨(Fd.trim s.data.toList).toArray⟩ : ByteArray).toList == s.toList) = false := ne_list fun e => ht (congrArg (fun x : ByteArray => x.data.toList) e)
      change Hid (Calls _ _ _ _ fun e w' => e = .returned (.string ⟨(Fd.trim s.data.toList).toArray⟩) ∧ Below w.heap.size w w') at HT
      generalize (⟨(Fd.trim s.data.toList).toArray⟩ : ByteArray) = t at *
      go_enter Tryd.func14, Tryd.ntmps14
      go_wp2_with (first
        | (go_at_call 43; refine HA.out.mono ?_; rintro x w2 ⟨rfl, rfl⟩)
        | (go_at_call 45; refine HT.out.mono ?_; rintro x w2 ⟨rfl, hb⟩))
      go_ret
      exact ⟨by simp, hb⟩

end Go.Proofs.YtdkbjefphihplabDoor.fd
