import Derived.Test.YtlbhiefamnpphaaDoorJfW3
import Derived.Test.YtlbhiefamnpphaaDoorJeW8
namespace Go.Proofs.YtlbhiefamnpphaaDoor.jf
open Go.ChangeShapes Go.WideShapes Go.ChangeAt Go.RowKit Go.Proofs.YtlbhiefamnpphaaDoor.common Go.Proofs.YtlbhiefamnpphaaDoor.Jc Go.Proofs.YtlbhiefamnpphaaDoor.jc Go.Proofs.YtlbhiefamnpphaaDoor.je
attribute [local go_sem ↓] Go.wp_at_zero Go.wp_at_succ

set_option maxRecDepth 100000 in
set_option maxHeartbeats 3200000 in
theorem near_any (x : Dt) (k : Int) (h0 : 1970 ≤ x.y) (h1 : x.y ≤ 9999) (w : World) :
    Calls Tryd.prog 9 #[dv x, .int .i64 k] w fun e w' => e = .returned (.int .i64 ((86400 * yb (nearY x.y k) : Nat) : Int)) ∧ Below w.heap.size w w' := by
  obtain ⟨V, hV⟩ : ∃ V, V = w.alloc (ob x) := ⟨_, rfl⟩
  have BA : Below w.heap.size w V := by rw [hV]; exact (Below.refl _ _).alloc (Nat.le_refl _) _
  have hsz : w.heap.size < V.heap.size := by rw [hV, World.size_alloc]; omega
  have o0 : V.heap[w.heap.size]? = some (ob x) := by rw [hV]; exact heap_new w _
  obtain ⟨fc, hf, hg⟩ := rc.class_of V
  have r0 := fun n => (obc (ob_fr o0 (hf n))).1
  have HB0 := hide (fun n => keepW BA (hf n) (Nat.le_of_lt hsz))
  have HV := hide hV
  have HD : Hid (V.drew = fc V.drew) := (hg _ (Below.refl _ _).drew).symm
  have hpb := kitw.pick_bounds k 100
  have hp1 := hpb.1
  have hp2 := hpb.2 (by omega)
  have HP : Hid (∀ n, Calls Tryd.prog 4 #[.int .i64 k, .int .i64 100] (fc n) fun e w' => e = .returned (.int .i64 (kitw.pick k 100)) ∧ ∃ m, w' = fc m) := fun n => (kitw.pick_all k 100 (fc n) (by omega) (by omega)).mono (fun _ _ hh => ⟨hh.1, n, hh.2⟩)
  obtain ⟨n0, n1, _, _⟩ := nearY_is x.y k h0 h1
  have HY1 := fun p (hp : kitw.pick k 100 = p) => nearY_in (y := x.y) hp
  have HY2 := fun p (hp : kitw.pick k 100 = p) => nearY_out (y := x.y) hp
  have HYI := hide (HY1 _ rfl)
  have HYO := hide (HY2 _ rfl)
  have HST := hide (fun W => start_any (nearY x.y k) W n0 n1)
  have mw := m_wrap (yb (nearY x.y k)) (yb_most _ n1 n0)
  obtain ⟨a1, a2⟩ := n_wraps x.y (kitw.pick k 100) h1 hp1 hp2
  haveI : Nonempty World := ⟨w⟩
  generalize kitw.pick k 100 = p at *
  generalize nearY x.y k = Y at *
  generalize hyb : yb Y = S at *
  generalize 86400 * S = R at *
  have MW := hide mw
  clear mw hyb HY1 HY2 hpb hV BA hf hg hsz o0 n0 n1 hp1 hp2
  unfold dv
  by_cases hin : (x.y : Int) - 50 + p < 1970 ∨ 9999 < (x.y : Int) - 50 + p
  · have hY := HYO.out hin
    have HYe := hide hY
    clear hY HYI HYO
    rcases hin with hlo | hhi
    · have d1 : decide ((x.y : Int) - 50 + p < 1970) = true := decide_eq_true hlo
      go_enter Tryd.func9, Tryd.ntmps9
      go_wp2_with fail
      rw [← HV.out]
      try simp only [List.append_eq, List.cons_append, List.nil_append]
      refine rc.wp_region_cls fc (by kernel_rfl) (by kernel_rfl) _ HD.out ?_
      repeat (go_big_quiet_step (first | with_reducible exact HP.out _))
      refine wpQuiet_nil ?_
      rintro _ ⟨n1, rfl⟩
      go_wp2_with fail
      rw [← HYe.out]
      refine (HST.out _).mono ?_
      rintro e w1 ⟨rfl, h2⟩
      subst h2
      go_wp2_with fail
      go_ret
      exact ⟨congrArg (fun v => Ending.returned (Value.int .i64 v)) MW.out, HB0.out n1⟩
    · have hnl : ¬ (x.y : Int) - 50 + p < 1970 := by omega
      have d1 : decide ((x.y : Int) - 50 + p < 1970) = false := decide_eq_false hnl
      have d2 : decide (9999 < (x.y : Int) - 50 + p) = true := decide_eq_true hhi
      go_enter Tryd.func9, Tryd.ntmps9
      go_wp2_with fail
      rw [← HV.out]
      try simp only [List.append_eq, List.cons_append, List.nil_append]
      refine rc.wp_region_cls fc (by kernel_rfl) (by kernel_rfl) _ HD.out ?_
      repeat (go_big_quiet_step (first | with_reducible exact HP.out _))
      refine wpQuiet_nil ?_
      rintro _ ⟨n1, rfl⟩
      go_wp2_with fail
      rw [← HYe.out]
      refine (HST.out _).mono ?_
      rintro e w1 ⟨rfl, h2⟩
      subst h2
      go_wp2_with fail
      go_ret
      exact ⟨congrArg (fun v => Ending.returned (Value.int .i64 v)) MW.out, HB0.out n1⟩
  · have hY := HYI.out hin
    have HYe := hide hY
    have hnl : ¬ (x.y : Int) - 50 + p < 1970 := by omega
    have hnh : ¬ 9999 < (x.y : Int) - 50 + p := by omega
    have d1 : decide ((x.y : Int) - 50 + p < 1970) = false := decide_eq_false hnl
    have d2 : decide (9999 < (x.y : Int) - 50 + p) = false := decide_eq_false hnh
    clear hY HYI HYO hin
    go_enter Tryd.func9, Tryd.ntmps9
    go_wp2_with fail
    rw [← HV.out]
    try simp only [List.append_eq, List.cons_append, List.nil_append]
    refine rc.wp_region_cls fc (by kernel_rfl) (by kernel_rfl) _ HD.out ?_
    repeat (go_big_quiet_step (first | with_reducible exact HP.out _))
    refine wpQuiet_nil ?_
    rintro _ ⟨n1, rfl⟩
    go_wp2_with fail
    rw [← HYe.out]
    refine (HST.out _).mono ?_
    rintro e w1 ⟨rfl, h2⟩
    subst h2
    go_wp2_with fail
    go_ret
    exact ⟨congrArg (fun v => Ending.returned (Value.int .i64 v)) MW.out, HB0.out n1⟩

/-- all that lies in the variables -/
structure Fv (w : World) (eT : Value) : Prop where
  mt : MTab w
  pw : Pow w.heap.size w
  wt : WTab w
  ot : OTab w
  ft : FTab w
  lf : LfT w
  et : w.cell? ⟨2, 0, none⟩ = some eT
theorem Fv.fr {w w' : World} {eT : Value} (h : Fv w eT) (hb : Below w.heap.size w w') : Fv w' eT := ⟨h.mt.fr hb, h.pw.up hb hb.size, h.wt.fr hb, h.ot.fr hb, h.ft.fr hb, h.lf.fr hb, cell_fr h.et hb⟩
theorem vd_is {n : Nat} {x : Dt} (h : Is n x) (hn : n ≤ 253402300799) : VD x := ⟨h.ok, h.year hn, h.w⟩
/-- what says it is read as it -/
theorem rd_is (l : List UInt8) (x : Dt) (hx : VD x) (m : Nat) (z : Dt) (hz : Is m z) (hm : m ≤ 253402300799) (hs : Says l (min (z.y + 50) 9999) x) (eT : Value) (W : World) (hW : Fv W eT) :
    Calls Tryd.prog 10 #[.string (tx l), .int .i64 (m : Int)] W fun e w' => e = .returned (.tuple #[.int .i64 (x.sec : Int), .nilIface]) ∧ Below W.heap.size W w' :=
  (readDateP_any l m z eT hz hm W hW.mt hW.wt hW.ft hW.ot hW.et).mono fun e w' ⟨q, h1, h2, h3⟩ => ⟨by rw [h1, ans_one h2 (show Ans l (min (z.y + 50) 9999) (some x.sec) from ⟨x, hx, hs, rfl⟩)]; rfl, h3⟩
theorem yb_step (y : Nat) (h : 1970 ≤ y) : yb y < yb (y + 1) := by
  rw [yb_succ y h]; have := yl_two y; omega
/-- the first second of a year lies in it -/
theorem year_of {Y : Nat} {z : Dt} (h0 : 1970 ≤ Y) (hz : Is (86400 * yb Y) z) : z.y = Y := by
  obtain ⟨a, b⟩ := hz.ok.in_year
  have hs := hz.sec
  unfold Dt.sec at hs
  have h1 := hz.ok.h1
  have h2 := hz.ok.i1
  have h3 := hz.ok.s1
  have hd : z.day = yb Y := by omega
  rw [hd] at a b
  exact year_one hz.ok.y0 h0 a b (Nat.le_refl _) (yb_step Y h0)
theorem yb_last : yb 9999 = 2932532 := by simp [yb, la]
theorem near_small {Y : Nat} (h0 : 1970 ≤ Y) (h1 : Y ≤ 9999) : 86400 * yb Y ≤ 253402300799 := by
  have := yb_le h0 h1
  rw [yb_last] at this; omega
/-- the law's own things, laid in memory -/
structure Fs (w wr : World) (A B : Nat) (a n k : Int) (x : Dt) (t0 t1 t2 t3 : ByteArray) : Prop where
  sp : wr.heap[w.heap.size]? = some (.cells #[.int .i64 a, .int .i64 n, .int .i64 k] 23)
  dt : wr.heap[A]? = some (ob x)
  fo : wr.heap[B]? = some (.cells #[.string t0, .string t1, .string t2, .string t3] 32)
  bel : Below w.heap.size w wr
theorem blk {w w' : World} {b : Nat} {o : Obj} (h : w.heap[b]? = some o) (hb : Below w.heap.size w w') : w'.heap[b]? = some o := (hb.block _ (Array.getElem?_eq_some_iff.1 h).1).trans h
theorem Fs.next {w wr w' : World} {A B : Nat} {a n k : Int} {x : Dt} {t0 t1 t2 t3 : ByteArray} (h : Fs w wr A B a n k x t0 t1 t2 t3) (hb : Below wr.heap.size wr w') : Fs w w' A B a n k x t0 t1 t2 t3 :=
  ⟨blk h.sp hb, blk h.dt hb, blk h.fo hb, keepW h.bel hb h.bel.size⟩
theorem Fs.cells {w wr : World} {A B : Nat} {a n k : Int} {x : Dt} {t0 t1 t2 t3 : ByteArray} (h : Fs w wr A B a n k x t0 t1 t2 t3) : wr.cell? ⟨w.heap.size, 2, none⟩ = some (.int .i64 k) ∧ wr.cell? ⟨B, 0, none⟩ = some (.string t0) ∧ wr.cell? ⟨B, 1, none⟩ = some (.string t1) ∧ wr.cell? ⟨B, 2, none⟩ = some (.string t2) ∧ wr.cell? ⟨B, 3, none⟩ = some (.string t3) :=
  ⟨by simp [World.cell?, h.sp], by simp [World.cell?, h.fo], by simp [World.cell?, h.fo], by simp [World.cell?, h.fo], by simp [World.cell?, h.fo]⟩
end Go.Proofs.YtlbhiefamnpphaaDoor.jf
