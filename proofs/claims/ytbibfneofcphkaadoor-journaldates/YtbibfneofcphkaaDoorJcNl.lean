import Derived.Test.YtbibfneofcphkaaDoorJcNa
import Derived.Test.YtbibfneofcphkaaDoorPickWalk
import Derived.Test.YtbibfneofcphkaaDoorErrWalks
namespace Go.Proofs.YtbibfneofcphkaaDoor.jc
open Go.ChangeShapes Go.WideShapes Go.ChangeAt Go.RowKit Go.Proofs.YtbibfneofcphkaaDoor.common Go.Proofs.YtbibfneofcphkaaDoor.Jc

abbrev ob (x : Dt) : Obj := .cells #[.int .i64 (x.y : Int), .int .i64 (x.m : Int), .int .i64 (x.d : Int), .int .i64 (x.h : Int), .int .i64 (x.i : Int), .int .i64 (x.s : Int), .int .i64 (x.w : Int)] 24
theorem obc {w : World} {b : Nat} {x : Dt} (h : w.heap[b]? = some (ob x)) : w.cell? ⟨b, 0, none⟩ = some (.int .i64 (x.y : Int)) ∧ w.cell? ⟨b, 1, none⟩ = some (.int .i64 (x.m : Int)) ∧ w.cell? ⟨b, 2, none⟩ = some (.int .i64 (x.d : Int)) ∧ w.cell? ⟨b, 3, none⟩ = some (.int .i64 (x.h : Int)) ∧ w.cell? ⟨b, 4, none⟩ = some (.int .i64 (x.i : Int)) ∧ w.cell? ⟨b, 5, none⟩ = some (.int .i64 (x.s : Int)) ∧ w.cell? ⟨b, 6, none⟩ = some (.int .i64 (x.w : Int)) := by
  refine ⟨?_, ?_, ?_, ?_, ?_, ?_, ?_⟩ <;> simp [World.cell?, h]
theorem obr {w : World} {b : Nat} {x : Dt} (h : w.heap[b]? = some (ob x)) : w.rangeAt b 0 [.int .i64 (x.y : Int), .int .i64 (x.m : Int), .int .i64 (x.d : Int), .int .i64 (x.h : Int), .int .i64 (x.i : Int), .int .i64 (x.s : Int), .int .i64 (x.w : Int)] := range_of (t := 24) h
theorem ob_lt {w : World} {b : Nat} {x : Dt} (h : w.heap[b]? = some (ob x)) : b < w.heap.size := (Array.getElem?_eq_some_iff.1 h).1
theorem ob_fr {w w' : World} {b : Nat} {x : Dt} (h : w.heap[b]? = some (ob x)) (hb : Below w.heap.size w w') : w'.heap[b]? = some (ob x) := (hb.block _ (ob_lt h)).trans h
theorem ob_al {w : World} {b : Nat} {x : Dt} (h : w.heap[b]? = some (ob x)) (o : Obj) : (w.alloc o).heap[b]? = some (ob x) := ob_fr h ((Below.refl _ _).alloc (Nat.le_refl _) _)

set_option maxRecDepth 100000 in
set_option maxHeartbeats 6400000 in
theorem lawNext (k : Int) (w : World) (hT : MTab w) (hL : LTab w) (e : Nat → Addr) (hE : errw.Errs w e) : Calls Tryd.prog 3 #[.int .i64 k] w fun q w' => q = .returned (.bool true) ∧ Below w.heap.size w w' := by
  obtain ⟨s, hs, hp⟩ : ∃ s : Nat, s < 253402300799 ∧ kitw.pick k 253402300799 = (s : Int) := by
    have h := kitw.pick_bounds k 253402300799
    exact ⟨(kitw.pick k 253402300799).toNat, by have := h.2 (by omega); omega, by omega⟩
  have HP := hide (kitw.pick_all k 253402300799 w (by omega) (by omega))
  rw [hp] at HP
  have HC0 := hide (civil_ok 0 w hT (by omega))
  have HT := hide hT
  have HL := hide hL
  have HE := hide hE
  have ws : wrap64 ((s : Int) + 1) = (s : Int) + 1 := wrp _ ⟨by omega, by omega⟩
  clear hp hT hL hE
  go_enter Tryd.func3, Tryd.ntmps3
  go_wp2_with fail
  refine HP.out.mono ?_
  rintro q w0 ⟨rfl, rfl⟩
  go_wp2_with fail
  refine HC0.out.mono ?_
  rintro q w1 ⟨x0, rfl, i0, b1⟩
  obtain rfl := i0.one is_first
  have B1 : Below w0.heap.size w0 (w1.alloc (ob ⟨1970, 1, 1, 0, 0, 0, 4⟩)) := b1.alloc b1.size _
  have o1 := heap_new w1 (ob ⟨1970, 1, 1, 0, 0, 0, 4⟩)
  have HC1 := hide (civil_ok s (w1.alloc (ob ⟨1970, 1, 1, 0, 0, 0, 4⟩)) (HT.out.fr B1) (by omega))
  have HB1 := hide B1
  have HO1 := hide o1
  clear B1 o1 b1 i0 HP HC0
  unfold dv
  go_wp2_with fail
  refine HC1.out.mono ?_
  rintro q w2 ⟨x, rfl, i1, b2⟩
  have B2 : Below w0.heap.size w0 (w2.alloc (ob x)) := (keepW HB1.out b2 HB1.out.size).alloc (Nat.le_trans HB1.out.size b2.size) _
  have o2 := heap_new w2 (ob x)
  have o1 := ob_al (ob_fr HO1.out b2) (ob x)
  have HC2 := hide (civil_ok (s + 1) (w2.alloc (ob x)) (HT.out.fr B2) (by omega))
  have HB2 := hide B2
  have HO2 := hide o2
  have HI1 := hide i1
  have HO12 := hide o1
  clear HO1 HB1 B2 o2 o1 b2 i1 HC1
  unfold dv
  have es : ((s + 1 : Nat) : Int) = (s : Int) + 1 := by omega
  rw [es] at HC2
  clear es
  go_wp2_with fail
  refine HC2.out.mono ?_
  rintro q w3 ⟨y, rfl, i2, b3⟩
  have ey := i2.one HI1.out.next
  have B3 : Below w0.heap.size w0 (w3.alloc (ob y)) := (keepW HB2.out b3 HB2.out.size).alloc (Nat.le_trans HB2.out.size b3.size) _
  have o3 := heap_new w3 (ob y)
  have o1 := ob_al (ob_fr HO12.out b3) (ob y)
  have o2 := ob_al (ob_fr HO2.out b3) (ob y)
  obtain ⟨dx1, dx2⟩ := date_is HI1.out (by omega)
  have HS1 := hide (seconds_ok (x.y : Int) (x.m : Int) (x.d : Int) (x.h : Int) (x.i : Int) (x.s : Int) (x.w : Int) (w3.alloc (ob y)) (HT.out.fr B3) dx1)
  rw [dx2] at HS1
  obtain ⟨_, r2, _, _, _, _, r7⟩ := obc o2
  have hm0 : 1 ≤ x.m := HI1.out.ok.m0
  have hm1 : x.m ≤ 12 := HI1.out.ok.m1
  have m0 : decide ((x.m : Int) < 1) = false := decide_eq_false (by omega)
  have m1 : decide (12 < (x.m : Int)) = false := decide_eq_false (by omega)
  have HR2 := hide (obr o2)
  have HB3 := hide B3
  have HO1 := hide o1
  have HO2b := hide o2
  have HO3 := hide o3
  have HEY := hide ey
  clear HO12 HO2 HB2 B3 o1 o2 o3 b3 i2 dx1 dx2 ey HC2 hm0 hm1 r7
  unfold dv
  go_wp2_with (refine wpList_load_mid rfl 24 (.tmp 6) rfl w2.heap.size 0 rfl _ _ HR2.out Tryd.underlying24 rfl sizeD ?_)
  refine HS1.out.mono ?_
  rintro q w4 ⟨rfl, b4⟩
  obtain ⟨kk, hkk⟩ : ∃ kk, kk = (x.w + 1) % 7 := ⟨_, rfl⟩
  obtain ⟨z, hz⟩ : ∃ z : Dt, z = { x with w := kk } := ⟨_, rfl⟩
  have B4 : Below w0.heap.size w0 (w4.alloc (.cells #[.int .i64 (x.y : Int), .int .i64 (x.m : Int), .int .i64 (x.d : Int), .int .i64 (x.h : Int), .int .i64 (x.i : Int), .int .i64 (x.s : Int), .int .i64 (kk : Int)] 24)) := (keepW HB3.out b4 HB3.out.size).alloc (Nat.le_trans HB3.out.size b4.size) _
  have o2 := ob_fr HO2b.out b4
  have o1 := ob_al (ob_fr HO1.out b4) (.cells #[.int .i64 (x.y : Int), .int .i64 (x.m : Int), .int .i64 (x.d : Int), .int .i64 (x.h : Int), .int .i64 (x.i : Int), .int .i64 (x.s : Int), .int .i64 (kk : Int)] 24)
  have o22 := ob_al o2 (.cells #[.int .i64 (x.y : Int), .int .i64 (x.m : Int), .int .i64 (x.d : Int), .int .i64 (x.h : Int), .int .i64 (x.i : Int), .int .i64 (x.s : Int), .int .i64 (kk : Int)] 24)
  have o3 := ob_al (ob_fr HO3.out b4) (.cells #[.int .i64 (x.y : Int), .int .i64 (x.m : Int), .int .i64 (x.d : Int), .int .i64 (x.h : Int), .int .i64 (x.i : Int), .int .i64 (x.s : Int), .int .i64 (kk : Int)] 24)
  have dn := date_not HI1.out
  rw [← hkk] at dn
  have HS2 := hide (seconds_no (x.y : Int) (x.m : Int) (x.d : Int) (x.h : Int) (x.i : Int) (x.s : Int) (kk : Int) (errw.E e 0) (w4.alloc (.cells #[.int .i64 (x.y : Int), .int .i64 (x.m : Int), .int .i64 (x.d : Int), .int .i64 (x.h : Int), .int .i64 (x.i : Int), .int .i64 (x.s : Int), .int .i64 (kk : Int)] 24)) (HT.out.fr B4) ((HE.out.below B4).cell 0 (by omega)) dn)
  have e7 : ((x.w : Int) + 1).tmod 7 = (kk : Int) := by rw [hkk, ← tmodN]; rfl
  have hw7 : x.w < 7 := by rw [HI1.out.w]; omega
  have ww : wrap64 ((x.w : Int) + 1) = (x.w : Int) + 1 := wrp _ ⟨by omega, by omega⟩
  have HR3 := hide (obr o2)
  have HB4 := hide B4
  have HO1c := hide o1
  have HO2c := hide o22
  have HO3c := hide o3
  have r7 : (w4.alloc (.cells #[.int .i64 (x.y : Int), .int .i64 (x.m : Int), .int .i64 (x.d : Int), .int .i64 (x.h : Int), .int .i64 (x.i : Int), .int .i64 (x.s : Int), .int .i64 (x.w : Int)] 24)).cell? ⟨w2.heap.size, 6, none⟩ = some (.int .i64 (x.w : Int)) := (obc (ob_al o2 _)).2.2.2.2.2.2
  have hlt := hide (ob_lt o2)
  clear HO1 HO2b HO3 HB3 B4 o1 o2 o3 o22 b4 dn HS1 HR2 hkk hz r2
  go_wp2_with (refine wpList_load_mid rfl 24 (.tmp 6) rfl w2.heap.size 0 rfl _ _ HR3.out Tryd.underlying24 rfl sizeD ?_)
  refine HS2.out.mono ?_
  rintro q w5 ⟨rfl, b5⟩
  have HB5 := hide (keepW HB4.out b5 HB4.out.size)
  have o1 := ob_fr HO1c.out b5
  have o2 := ob_fr HO2c.out b5
  have o3 := ob_fr HO3c.out b5
  obtain ⟨fc, hf, hg⟩ := rc.class_of w5
  have HR1 := hide (obr o1)
  obtain ⟨_, _, _, _, _, _, _⟩ := obc (ob_fr o2 (hf w5))
  have xa := fun n => (obc (ob_fr o2 (hf n))).1
  have xb := fun n => (obc (ob_fr o2 (hf n))).2.1
  have xc := fun n => (obc (ob_fr o2 (hf n))).2.2.1
  have xd := fun n => (obc (ob_fr o2 (hf n))).2.2.2.1
  have xe := fun n => (obc (ob_fr o2 (hf n))).2.2.2.2.1
  have xf := fun n => (obc (ob_fr o2 (hf n))).2.2.2.2.2.1
  have xg := fun n => (obc (ob_fr o2 (hf n))).2.2.2.2.2.2
  have ya := fun n => (obc (ob_fr o3 (hf n))).1
  have yb := fun n => (obc (ob_fr o3 (hf n))).2.1
  have yc := fun n => (obc (ob_fr o3 (hf n))).2.2.1
  have yd := fun n => (obc (ob_fr o3 (hf n))).2.2.2.1
  have ye := fun n => (obc (ob_fr o3 (hf n))).2.2.2.2.1
  have yf := fun n => (obc (ob_fr o3 (hf n))).2.2.2.2.2.1
  have yg := fun n => (obc (ob_fr o3 (hf n))).2.2.2.2.2.2
  have HD : Hid (w5.drew = fc w5.drew) := (hg _ (Below.refl _ _).drew).symm
  haveI : Nonempty World := ⟨w5⟩
  have hy9 := HI1.out.year (by omega)
  have HN : Hid (∀ n, Calls Tryd.prog 10 #[.agg #[.int .i64 (x.y : Int), .int .i64 (x.m : Int), .int .i64 (x.d : Int), .int .i64 (x.h : Int), .int .i64 (x.i : Int), .int .i64 (x.s : Int), .int .i64 (x.w : Int)]] (fc n) fun q w' => q = .returned (.agg #[.int .i64 (y.y : Int), .int .i64 (y.m : Int), .int .i64 (y.d : Int), .int .i64 (y.h : Int), .int .i64 (y.i : Int), .int .i64 (y.s : Int), .int .i64 (y.w : Int)]) ∧ ∃ m, w' = fc m) := fun n => (next_any x HI1.out.ok hw7 hy9 (fc n) ((HL.out.fr HB5.out).fr (hf n))).mono (fun _ w1 h => ⟨by rw [h.1, HEY.out]; rfl, w1, (hg _ (keepW (hf n) h.2 (hf n).size)).symm⟩)
  have HM : Hid (∀ n, Calls Tryd.prog 11 #[errw.E e 0] (fc n) fun q w' => q = .returned (.int .i64 1) ∧ ∃ m, w' = fc m) := fun n => (errw.num_0 (fc n) e ((HE.out.below HB5.out).below (hf n))).mono (fun _ w1 h => ⟨h.1, n, h.2⟩)
  have HBE : Hid (∀ n, Below w0.heap.size w0 (fc n)) := fun n => keepW HB5.out (hf n) HB5.out.size
  clear HO1c HO2c HO3c o1 o2 o3 b5 HS2 hf hg HR3 r7 hy9
  go_wp2_with (refine wpList_load_mid rfl 24 (.tmp 4) rfl w1.heap.size 0 rfl _ _ HR1.out Tryd.underlying24 rfl sizeD ?_)
  try simp only [List.append_eq, List.cons_append, List.nil_append]
  refine rc.wp_region_cls fc (by kernel_rfl) (by kernel_rfl) _ HD.out ?_
  repeat (go_big_quiet_step (first | with_reducible exact HN.out _ | with_reducible exact HM.out _))
  refine wpQuiet_nil ?_
  rintro _ ⟨nq, rfl⟩
  go_wp2_with fail
  go_ret
  exact ⟨rfl, HBE.out nq⟩
end Go.Proofs.YtbibfneofcphkaaDoor.jc
