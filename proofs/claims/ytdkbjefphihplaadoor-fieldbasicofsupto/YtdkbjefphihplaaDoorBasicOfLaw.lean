import Derived.Test.YtdkbjefphihplaaDoorBasicOfW
import Derived.Test.YtdkbjefphihplaaDoorPctTab
import Derived.Test.YtdkbjefphihplaaDoorStdTab
import Derived.Stop.LaidErr
namespace Go.Proofs.YtdkbjefphihplaaDoor.fd
open Go.ChangeShapes Go.WideShapes Go.ChangeAt Go.RowKit Go.Proofs.YtdkbjefphihplaaDoor.common
attribute [local go_sem ↓] Go.wp_at_zero Go.wp_at_succ

theorem cellsTwo : Tryd.prog.cellsOf 23 = 2 := by kernel_rfl

set_option maxRecDepth 100000 in
set_option maxHeartbeats 1600000 in
theorem lawBasicOfs (u p : ByteArray) (w : World) (hs : u.size + p.size ≤ 1048576) (ht : pctw.Tab w) (hr : radw.StdTab w) :
    Calls Tryd.prog 3 #[.agg #[.string u, .string p]] w fun e w' => e = .returned (.bool true) ∧ Below w.heap.size w w' := by
  have hg1 : 7 < w.heap.size := hr.lt (by decide)
  have hbl : Below w.heap.size w (w.alloc (.cells #[.string u, .string p] 23)) := (Below.refl _ _).alloc (Nat.le_refl _) _
  have hlt : w.heap.size < (w.alloc (.cells #[.string u, .string p] 23)).heap.size := by simp
  have x0 : ∀ X, Below (w.alloc (.cells #[.string u, .string p] 23)).heap.size (w.alloc (.cells #[.string u, .string p] 23)) X → X.cell? ⟨w.heap.size, 0, none⟩ = some (.string u) := fun X hX => (hX.cell hlt).trans (range_new w #[.string u, .string p] _ 0 _ rfl)
  have x1 : ∀ X, Below (w.alloc (.cells #[.string u, .string p] 23)).heap.size (w.alloc (.cells #[.string u, .string p] 23)) X → X.cell? ⟨w.heap.size, 1, none⟩ = some (.string p) := fun X hX => (hX.cell hlt).trans (range_new w #[.string u, .string p] _ 1 _ rfl)
  have H1 : Hid (∀ W, Below w.heap.size w W → Calls Tryd.prog 7 #[.string u, .string p] W fun e w' => e = .returned (.string (basicB u p)) ∧ Below W.heap.size W w') := fun W hW => basicOf_any u p W hs (ht.below hW (Nat.le_refl _)) (hr.below hW hg1)
  have H2 : Hid (∀ W, Calls Tryd.prog 8 #[.string u, .string p] W fun e w' => e = .returned (.string (basicB u p)) ∧ Below W.heap.size W w') := fun W => refBasicOf_any u p W hs
  clear ht hr hg1 hlt
  generalize basicB u p = R at *
  have HBL := hide hbl
  clear hbl
  go_enter Tryd.func3, Tryd.ntmps3
  go_wp2_with fail
  generalize w.alloc (.cells #[.string u, .string p] 23) = W0 at *
  go_region_held3 (fun X => Below W0.heap.size W0 X)
    (first
      | exact Below.refl _ _
      | assumption
      | exact bk.keepD (by assumption) (by assumption)
      | exact Below.drew (by assumption)
      | exact (Below.refl _ _).drew)
    (first
      | (go_at_call 7; refine (H1.out _ (bk.keepD HBL.out (by assumption))).mono ?_; rintro x w1 ⟨rfl, hb1⟩)
      | (go_at_call 8; refine (H2.out _).mono ?_; rintro x w2 ⟨rfl, hb2⟩))
  all_goals
    have HB2 : Hid (Below W0.heap.size W0 w2) := by assumption
    go_wp2_with fail
    go_ret
    exact ⟨by simp, bk.keepD HBL.out HB2.out⟩

end Go.Proofs.YtdkbjefphihplaaDoor.fd
