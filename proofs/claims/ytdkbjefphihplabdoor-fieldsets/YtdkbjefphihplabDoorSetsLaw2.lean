import Derived.Test.YtdkbjefphihplabDoorSetsLaw
namespace Go.Proofs.YtdkbjefphihplabDoor.fd
open Go.ChangeShapes Go.WideShapes Go.ChangeAt Go.RowKit Go.Proofs.YtdkbjefphihplabDoor.common Go.Proofs.YtdkbjefphihplabDoor.bk
attribute [local go_sem ↓] Go.wp_at_zero Go.wp_at_succ

theorem cellsCookie : Tryd.prog.cellsOf 31 = 3 := by kernel_rfl

set_option maxRecDepth 100000 in
set_option maxHeartbeats 3200000 in
theorem lawSets (n v : ByteArray) (m : Int) (w : World) (hm : inR m) (hs : n.size + v.size ≤ 4611686018427387000) (hp : Pow w.heap.size w) (e : Nat → Addr) (he : errw.Errs w e) :
    Calls Tryd.prog 4 #[.agg #[.string n, .string v, .int .i64 m]] w fun x w' => x = .returned (.bool true) ∧ Below w.heap.size w w' := by
  obtain ⟨x0, x1, x2, hbl⟩ := box3 w (.string n) (.string v) (.int .i64 m) 31
  have hx : Ev 1 w (errw.E e 1) := he.cell 1 (by decide)
  have HBL := hide hbl
  have HP := hide (pow_below hp hbl)
  have HX := hide (hx.below hbl)
  have HE := hide (he.below hbl)
  clear hbl hp hx he
  have y0 := x0 _ (Below.refl _ _)
  have y1 := x1 _ (Below.refl _ _)
  have y2 := x2 _ (Below.refl _ _)
  go_enter Tryd.func4, Tryd.ntmps4
  go_wp2_with fail
  generalize w.alloc (.cells #[.string n, .string v, .int .i64 m] 31) = W at *
  refine (setCookie_any n v m W hm hs HP.out _ HX.out).mono ?_
  rintro x w1 ⟨rfl, hb1⟩
  have HB1 := hide hb1
  have z0 := x0 _ hb1
  have z1 := x1 _ hb1
  have z2 := x2 _ hb1
  clear hb1 y0 y1 y2
  cases hck : isCk n v with
  | true =>
    rw [if_pos rfl]
    have HCK := hide hck
    clear hck
    go_wp2_with fail
    refine (refSet_any n v m w1 hm hs).mono ?_
    rintro x w2 ⟨rfl, hb2⟩
    rw [HCK.out, if_pos rfl]
    have HB2 := hide (keepD HB1.out hb2)
    clear hb2
    go_wp2_with (go_at_call 11; refine (errw.num_nil _).mono ?_; rintro x w3 ⟨rfl, rfl⟩)
    go_ret
    exact ⟨by simp, HBL.out.trans (HB2.out.mono HBL.out.size)⟩
  | false =>
    rw [if_neg (by decide)]
    have HCK := hide hck
    clear hck
    go_wp2_with fail
    refine (refSet_any n v m w1 hm hs).mono ?_
    rintro x w2 ⟨rfl, hb2⟩
    rw [HCK.out, if_neg (by decide)]
    have HB2 := hide (keepD HB1.out hb2)
    clear hb2
    go_wp2_with (go_at_call 11; refine (errw.num_1 _ e (HE.out.below HB2.out)).mono ?_; rintro x w3 ⟨rfl, rfl⟩)
    go_ret
    exact ⟨by simp, HBL.out.trans (HB2.out.mono HBL.out.size)⟩

theorem cells64 : Tryd.prog.cellsOf 145 = 1 := by kernel_rfl
theorem powG : Tryd.prog.globalNamed "internal/strconv.uint64pow10" = some 19 := by kernel_rfl
theorem powT : (Tryd.prog.globals[19]?).map (·.type) = some 176 := by kernel_rfl
theorem powC : Tryd.prog.cellsOf 176 = 20 := by kernel_rfl
theorem pow_is : (Rows.laid_internal_strconv_uint64pow10 : DataW Unit) = .agg (Lib.pow10Tab.map fun z => .lit (.int .u64 z)) := by kernel_rfl
theorem pow_head {w : World} {rest : List (String × DataW Unit)} (h : laidMet Tryd.prog (("internal/strconv.uint64pow10", Rows.laid_internal_strconv_uint64pow10) :: rest) w) : Pow w.heap.size w := by
  rw [pow_is] at h
  exact Lib.tabBelow_of_tabIs (Lib.tabIs_of_head (rest := rest) powG powT Tryd.underlying176 Tryd.underlying145 cells64 powC h)

end Go.Proofs.YtdkbjefphihplabDoor.fd
