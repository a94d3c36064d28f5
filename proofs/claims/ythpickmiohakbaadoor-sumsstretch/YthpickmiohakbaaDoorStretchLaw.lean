import Derived.Test.YthpickmiohakbaaDoorRefStretch
namespace Go.Proofs.YthpickmiohakbaaDoor.refw
open Go.ChangeShapes Go.WideShapes Go.ChangeAt Go.RowKit Go.Proofs.YthpickmiohakbaaDoor.common Go.Proofs.YthpickmiohakbaaDoor.shaw
open Go.Proofs.YthpickmiohakbaaDoor.errw (Errs E)
attribute [local go_sem ↓] Go.wp_at_zero Go.wp_at_succ

theorem cellsStretching : Tryd.prog.cellsOf 39 = 3 := by kernel_rfl

set_option maxRecDepth 100000 in
set_option maxHeartbeats 1600000 in
theorem lawWith (a b T : ByteArray) (n f : Int) (ev : Value) (w : World)
    (h1 : ∀ W, Below w.heap.size w W → Calls Tryd.prog 16 #[.string a, .string b, .int .i64 n] W fun x w' => x = .returned (.tuple #[.string T, ev]) ∧ Below W.heap.size W w')
    (h2 : ∀ W, Below w.heap.size w W → Calls Tryd.prog 20 #[.string a, .string b, .int .i64 n] W fun x w' => x = .returned (.tuple #[.string T, .int .i64 f]) ∧ Below W.heap.size W w')
    (h3 : ∀ W, Below w.heap.size w W → Calls Tryd.prog 17 #[ev] W fun x w' => x = .returned (.int .i64 f) ∧ w' = W) :
    Calls Tryd.prog 8 #[.agg #[.string a, .string b, .int .i64 n]] w fun e w' => e = .returned (.bool true) ∧ Below w.heap.size w w' := by
  have H1 := hide h1
  have H2 := hide h2
  have H3 := hide h3
  have HW : Hid (Below w.heap.size w (w.alloc (.cells #[.string a, .string b, .int .i64 n] 39))) := (Below.refl _ _).alloc (Nat.le_refl _) _
  have a1 : (w.alloc (.cells #[.string a, .string b, .int .i64 n] 39)).cell? ⟨w.heap.size, 0, none⟩ = some (.string a) := by simp
  have b1 : (w.alloc (.cells #[.string a, .string b, .int .i64 n] 39)).cell? ⟨w.heap.size, 1, none⟩ = some (.string b) := by simp
  have c1 : (w.alloc (.cells #[.string a, .string b, .int .i64 n] 39)).cell? ⟨w.heap.size, 2, none⟩ = some (.int .i64 n) := by simp
  have HL1 : Hid (w.heap.size < (w.alloc (.cells #[.string a, .string b, .int .i64 n] 39)).heap.size) := by show _ < _; simp
  clear h1 h2 h3
  go_enter Tryd.func8, Tryd.ntmps8
  go_wp2_with fail
  refine (H1.out _ HW.out).mono ?_
  rintro x w1 ⟨rfl, hb1⟩
  have a2 := (hb1.cell (p := ⟨w.heap.size, 0, none⟩) HL1.out).trans a1
  have b2 := (hb1.cell (p := ⟨w.heap.size, 1, none⟩) HL1.out).trans b1
  have c2 := (hb1.cell (p := ⟨w.heap.size, 2, none⟩) HL1.out).trans c1
  have K1 := hide (HW.out.trans (hb1.mono HW.out.size))
  clear hb1 a1 b1 c1
  go_wp2_with fail
  refine (H2.out _ K1.out).mono ?_
  rintro x w2 ⟨rfl, hb2⟩
  have K2 := hide (K1.out.trans (hb2.mono K1.out.size))
  clear hb2 a2 b2 c2
  go_wp2_with fail
  refine (H3.out _ K2.out).mono ?_
  rintro x w3 ⟨rfl, rfl⟩
  go_wp2
  go_ret
  exact ⟨by simp, K2.out⟩

theorem lawStretch (a b : ByteArray) (n : Int) (w : World) (ha : a.size ≤ reachBytes) (hb : b.size ≤ reachBytes) (ht : Tabs w) (e : Nat → Addr) (he : Errs w e) :
    Calls Tryd.prog 8 #[.agg #[.string a, .string b, .int .i64 n]] w fun e w' => e = .returned (.bool true) ∧ Below w.heap.size w w' := by
  unfold reachBytes at ha hb
  by_cases hn : 1 ≤ n ∧ n ≤ 1000
  · obtain ⟨m, rfl, hm⟩ : ∃ m : Nat, n = (m : Int) + 1 ∧ m ≤ 999 := ⟨(n - 1).toNat, by omega, by omega⟩
    exact lawWith a b _ _ 0 .nilIface w (fun W hW => stretch_good a b m W hm (by omega) (by omega) (ht.below hW).rw (ht.below hW).fw) (fun W hW => refStretch_good a b m W hm (by omega) (by omega) (ht.below hW)) (fun W _ => errw.num_nil W)
  · exact lawWith a b _ n 1 _ w (fun W hW => stretch_bad a b n W hn e (he.below hW)) (fun W _ => refStretch_bad a b n W hn) (fun W hW => errw.num_0 W e (he.below hW))

end Go.Proofs.YthpickmiohakbaaDoor.refw
