import Derived.Test.YtbibfneofcphkaaDoorJcW4
namespace Go.Proofs.YtbibfneofcphkaaDoor.jc
open Go.ChangeShapes Go.WideShapes Go.ChangeAt Go.RowKit Go.Proofs.YtbibfneofcphkaaDoor.common Go.Proofs.YtbibfneofcphkaaDoor.Jc

theorem below_drewN {b : Nat} {a c : World} (h : Below b a c) (n : Nat) : Below b a (c.drewN n) := ⟨h.1, h.2, h.3, h.4, h.5⟩
def dateB (a b c d e f g : Int) : Bool := momB a b c d e f && (g == (((4 + (dt a b c d e f).day) % 7 : Nat) : Int))

set_option maxRecDepth 100000 in
set_option maxHeartbeats 3200000 in
theorem isDate_any (a b c d e f g : Int) (w : World) (hT : MTab w) : Calls Tryd.prog 23 #[dI a b c d e f g] w fun q w' => q = .returned (.bool (dateB a b c d e f g)) ∧ Below w.heap.size w w' := by
  obtain ⟨V, hW⟩ : ∃ V, V = (w.alloc (.cells #[.int .i64 a, .int .i64 b, .int .i64 c, .int .i64 d, .int .i64 e, .int .i64 f, .int .i64 g] 24)) := ⟨_, rfl⟩
  have BA : Below w.heap.size w V := by rw [hW]; exact (Below.refl _ _).alloc (Nat.le_refl _) _
  have hsz : w.heap.size < V.heap.size := by rw [hW, World.size_alloc]; omega
  have hc := cells7 w a b c d e f g
  rw [← hW] at hc
  obtain ⟨fc, hf, hg⟩ := rc.class_of V
  have c0 : ∀ n, (fc n).cell? ⟨w.heap.size, 0, none⟩ = some (.int .i64 a) := fun n => ((hf n).cell (p := ⟨w.heap.size, 0, none⟩) hsz).trans (hc 0 (by decide))
  have c1 : ∀ n, (fc n).cell? ⟨w.heap.size, 1, none⟩ = some (.int .i64 b) := fun n => ((hf n).cell (p := ⟨w.heap.size, 1, none⟩) hsz).trans (hc 1 (by decide))
  have c2 : ∀ n, (fc n).cell? ⟨w.heap.size, 2, none⟩ = some (.int .i64 c) := fun n => ((hf n).cell (p := ⟨w.heap.size, 2, none⟩) hsz).trans (hc 2 (by decide))
  have c3 : ∀ n, (fc n).cell? ⟨w.heap.size, 3, none⟩ = some (.int .i64 d) := fun n => ((hf n).cell (p := ⟨w.heap.size, 3, none⟩) hsz).trans (hc 3 (by decide))
  have c4 : ∀ n, (fc n).cell? ⟨w.heap.size, 4, none⟩ = some (.int .i64 e) := fun n => ((hf n).cell (p := ⟨w.heap.size, 4, none⟩) hsz).trans (hc 4 (by decide))
  have c5 : ∀ n, (fc n).cell? ⟨w.heap.size, 5, none⟩ = some (.int .i64 f) := fun n => ((hf n).cell (p := ⟨w.heap.size, 5, none⟩) hsz).trans (hc 5 (by decide))
  have c6 : ∀ n, (fc n).cell? ⟨w.heap.size, 6, none⟩ = some (.int .i64 g) := fun n => ((hf n).cell (p := ⟨w.heap.size, 6, none⟩) hsz).trans (hc 6 (by decide))
  have HB0 := hide (fun n => keepW BA (hf n) (Nat.le_of_lt hsz))
  have HW0 := hide hW
  have HD : Hid (V.drew = fc V.drew) := (hg _ (Below.refl _ _).drew).symm
  have HTC : Hid (∀ n, MTab (fc n)) := fun n => (hT.fr BA).fr (hf n)
  haveI : Nonempty World := ⟨w⟩
  have hrange : ∀ n, (fc n).rangeAt w.heap.size 0 [.int .i64 a, .int .i64 b, .int .i64 c, .int .i64 d, .int .i64 e, .int .i64 f, .int .i64 g] := fun n => by
    refine range_of (t := 24) (((hf n).block _ hsz).trans ?_)
    rw [hW]; exact heap_new w _
  have HRG := hide hrange
  clear hrange
  have HM : Hid (∀ n, Calls Tryd.prog 43 #[.agg #[.int .i64 a, .int .i64 b, .int .i64 c, .int .i64 d, .int .i64 e, .int .i64 f, .int .i64 g]] (fc n) fun q w' => q = .returned (.bool (momB a b c d e f)) ∧ ∃ m, w' = fc m) := fun n => (isMoment_any a b c d e f g _ (HTC.out n)).mono (fun _ w1 h => ⟨h.1, w1, (hg _ (keepW (hf n) h.2 (hf n).size)).symm⟩)
  have HY : Hid (momB a b c d e f = true → ∀ n, Calls Tryd.prog 44 #[.agg #[.int .i64 a, .int .i64 b, .int .i64 c, .int .i64 d, .int .i64 e, .int .i64 f, .int .i64 g]] (fc n) fun q w' => q = .returned (.int .i64 ((dt a b c d e f).day : Int)) ∧ ∃ m, w' = fc m) := fun h n => (dayOf_any a b c d e f g _ _ (HTC.out n) (mo_of h)).mono (fun _ w1 h => ⟨h.1, w1, (hg _ (keepW (hf n) h.2 (hf n).size)).symm⟩)
  have HWD : Hid (momB a b c d e f = true → ∀ n, Calls Tryd.prog 42 #[.int .i64 ((dt a b c d e f).day : Int)] (fc n) fun q w' => q = .returned (.int .i64 (((4 + (dt a b c d e f).day) % 7 : Nat) : Int)) ∧ ∃ m, w' = fc m) := fun h n => (weekdayOf_any _ _ (by have := day_most (mo_of h).ok (mo_of h).y1; omega)).mono (fun _ w1 h => ⟨h.1, n, h.2⟩)
  have HDB : Hid (dateB a b c d e f g = (momB a b c d e f && (g == (((4 + (dt a b c d e f).day) % 7 : Nat) : Int)))) := rfl
  clear hW BA hc hT hf hg hsz HTC
  generalize dateB a b c d e f g = DB at *
  generalize momB a b c d e f = M at *
  generalize (4 + (dt a b c d e f).day) % 7 = wk at *
  generalize (dt a b c d e f).day = D at *
  unfold dI
  cases M with
  | false =>
    have HR : Hid (DB = false) := by show DB = _; rw [HDB.out]; simp
    clear HDB
    go_enter Tryd.func23, Tryd.ntmps23
    go_wp2_with fail
    rw [← HW0.out]
    try simp only [List.append_eq, List.cons_append, List.nil_append]
    refine rc.wp_region_cls fc (by kernel_rfl) (by kernel_rfl) _ HD.out ?_
    repeat (go_big_quiet_step (first | with_reducible exact HM.out _))
    refine wpQuiet_nil ?_
    rintro _ ⟨nq, rfl⟩
    go_wp2_with fail
    go_ret
    exact ⟨by rw [HR.out]; rfl, HB0.out nq⟩
  | true =>
    have HY2 := hide (HY.out rfl)
    have HW2 := hide (HWD.out rfl)
    clear HY HWD
    cases hq : (g == (wk : Int)) with
    | false =>
      have HR : Hid (DB = false) := by show DB = _; rw [HDB.out]; simp [hq]
      clear HDB
      go_enter Tryd.func23, Tryd.ntmps23
      go_wp2_with fail
      rw [← HW0.out]
      try simp only [List.append_eq, List.cons_append, List.nil_append]
      refine rc.wp_region_cls fc (by kernel_rfl) (by kernel_rfl) _ HD.out ?_
      repeat (go_big_quiet_step (first | with_reducible exact HM.out _ | with_reducible exact HY2.out _ | with_reducible exact HW2.out _))
      refine wpQuiet_nil ?_
      rintro _ ⟨nq, rfl⟩
      go_wp2_with fail
      go_ret
      exact ⟨by rw [HR.out]; rfl, HB0.out nq⟩
    | true =>
      have HR : Hid (DB = true) := by show DB = _; rw [HDB.out]; simp [hq]
      clear HDB
      go_enter Tryd.func23, Tryd.ntmps23
      go_wp2_with fail
      rw [← HW0.out]
      try simp only [List.append_eq, List.cons_append, List.nil_append]
      refine rc.wp_region_cls fc (by kernel_rfl) (by kernel_rfl) _ HD.out ?_
      repeat (go_big_quiet_step (first | with_reducible exact HM.out _ | with_reducible exact HY2.out _ | with_reducible exact HW2.out _))
      refine wpQuiet_nil ?_
      rintro _ ⟨nq, rfl⟩
      go_wp2_with fail
      go_ret
      exact ⟨by rw [HR.out]; rfl, HB0.out nq⟩

set_option maxRecDepth 100000 in
set_option maxHeartbeats 3200000 in
theorem seconds_ok (a b c d e f g : Int) (w : World) (hT : MTab w) (hdb : dateB a b c d e f g = true) : Calls Tryd.prog 9 #[dI a b c d e f g] w fun q w' => q = .returned (.tuple #[.int .i64 ((dt a b c d e f).sec : Int), .nilIface]) ∧ Below w.heap.size w w' := by
  obtain ⟨V, hW⟩ : ∃ V, V = (w.alloc (.cells #[.int .i64 a, .int .i64 b, .int .i64 c, .int .i64 d, .int .i64 e, .int .i64 f, .int .i64 g] 24)) := ⟨_, rfl⟩
  have BA : Below w.heap.size w V := by rw [hW]; exact (Below.refl _ _).alloc (Nat.le_refl _) _
  have hsz : w.heap.size < V.heap.size := by rw [hW, World.size_alloc]; omega
  have hc := cells7 w a b c d e f g
  rw [← hW] at hc
  obtain ⟨fc, hf, hg⟩ := rc.class_of V
  have HB0 := hide (fun n => keepW BA (hf n) (Nat.le_of_lt hsz))
  have HW0 := hide hW
  have HD : Hid (V.drew = fc V.drew) := (hg _ (Below.refl _ _).drew).symm
  have HTC : Hid (∀ n, MTab (fc n)) := fun n => (hT.fr BA).fr (hf n)
  haveI : Nonempty World := ⟨w⟩
  have HI := hide (isDate_any a b c d e f g V (hT.fr BA))
  rw [hdb] at HI
  have hrV : V.rangeAt w.heap.size 0 [.int .i64 a, .int .i64 b, .int .i64 c, .int .i64 d, .int .i64 e, .int .i64 f, .int .i64 g] := by
    refine range_of (t := 24) ?_
    rw [hW]; exact heap_new w _
  have HRV := hide hrV
  have hmo : momB a b c d e f = true := by unfold dateB at hdb; simp only [Bool.and_eq_true] at hdb; exact hdb.1
  have HS : Hid (∀ w1, Below V.heap.size V w1 → Calls Tryd.prog 24 #[.agg #[.int .i64 a, .int .i64 b, .int .i64 c, .int .i64 d, .int .i64 e, .int .i64 f, .int .i64 g]] w1 fun q w' => q = .returned (.int .i64 ((dt a b c d e f).sec : Int)) ∧ Below w1.heap.size w1 w') := fun w1 hb => secondOf_any a b c d e f g _ w1 ((hT.fr BA).fr hb) (mo_of hmo)
  have HR1 : Hid (∀ w1, Below V.heap.size V w1 → w1.rangeAt w.heap.size 0 [.int .i64 a, .int .i64 b, .int .i64 c, .int .i64 d, .int .i64 e, .int .i64 f, .int .i64 g]) := fun w1 hb j v hv => (hb.cell (p := ⟨w.heap.size, 0 + j, none⟩) hsz).trans (hrV j v hv)
  have HK : Hid (∀ w1 w2, Below V.heap.size V w1 → Below w1.heap.size w1 w2 → Below w.heap.size w w2) := fun w1 w2 h1 h2 => keepW BA (keepW h1 h2 h1.size) (Nat.le_of_lt hsz)
  clear BA hc hT hf hg hsz HTC HB0 HD hrV hmo hdb
  generalize (dt a b c d e f).sec = S at *
  subst hW
  unfold dI at *
  go_enter Tryd.func9, Tryd.ntmps9
  go_wp2_with (refine wpList_load_mid rfl 24 (.tmp 1) rfl w.heap.size 0 rfl _ _ HRV.out Tryd.underlying24 rfl sizeD ?_)
  refine HI.out.mono ?_
  rintro q w1 ⟨rfl, b1⟩
  have HR2 := hide (HR1.out w1 b1)
  have HS2 := hide (HS.out w1 b1)
  have HK2 := hide (fun w2 h => HK.out w1 w2 b1 h)
  clear HR1 HS HK b1 HRV HI
  go_wp2_with (refine wpList_load_mid rfl 24 (.tmp 1) rfl w.heap.size 0 rfl _ _ HR2.out Tryd.underlying24 rfl sizeD ?_)
  refine HS2.out.mono ?_
  rintro q w2 ⟨rfl, b2⟩
  have HB2 := hide (HK2.out w2 b2)
  clear b2
  go_wp2_with fail
  go_ret2
  exact ⟨rfl, HB2.out⟩

set_option maxRecDepth 100000 in
set_option maxHeartbeats 3200000 in
theorem seconds_no (a b c d e f g : Int) (eA : Value) (w : World) (hT : MTab w) (hA : w.cell? ⟨0, 0, none⟩ = some eA) (hdb : dateB a b c d e f g = false) : Calls Tryd.prog 9 #[dI a b c d e f g] w fun q w' => q = .returned (.tuple #[.int .i64 0, eA]) ∧ Below w.heap.size w w' := by
  obtain ⟨V, hW⟩ : ∃ V, V = (w.alloc (.cells #[.int .i64 a, .int .i64 b, .int .i64 c, .int .i64 d, .int .i64 e, .int .i64 f, .int .i64 g] 24)) := ⟨_, rfl⟩
  have BA : Below w.heap.size w V := by rw [hW]; exact (Below.refl _ _).alloc (Nat.le_refl _) _
  have hsz : w.heap.size < V.heap.size := by rw [hW, World.size_alloc]; omega
  have hc := cells7 w a b c d e f g
  rw [← hW] at hc
  obtain ⟨fc, hf, hg⟩ := rc.class_of V
  have HB0 := hide (fun n => keepW BA (hf n) (Nat.le_of_lt hsz))
  have HW0 := hide hW
  have HD : Hid (V.drew = fc V.drew) := (hg _ (Below.refl _ _).drew).symm
  have HTC : Hid (∀ n, MTab (fc n)) := fun n => (hT.fr BA).fr (hf n)
  haveI : Nonempty World := ⟨w⟩
  have HI := hide (isDate_any a b c d e f g V (hT.fr BA))
  rw [hdb] at HI
  have hrV : V.rangeAt w.heap.size 0 [.int .i64 a, .int .i64 b, .int .i64 c, .int .i64 d, .int .i64 e, .int .i64 f, .int .i64 g] := by
    refine range_of (t := 24) ?_
    rw [hW]; exact heap_new w _
  have HRV := hide hrV
  have HAA : Hid (∀ w1, Below V.heap.size V w1 → w1.cell? ⟨0, 0, none⟩ = some eA) := fun w1 hb => by
    have hl := World.block_lt_of_cell? _ _ hA
    have h1 := (BA.cell (p := ⟨0, 0, none⟩) hl).trans hA
    exact (hb.cell (World.block_lt_of_cell? _ _ h1)).trans h1
  have HK : Hid (∀ w1, Below V.heap.size V w1 → Below w.heap.size w w1) := fun w1 h1 => keepW BA h1 (Nat.le_of_lt hsz)
  clear BA hc hT hf hg hsz HTC HB0 HD hrV hdb hA
  subst hW
  unfold dI at *
  go_enter Tryd.func9, Tryd.ntmps9
  go_wp2_with (refine wpList_load_mid rfl 24 (.tmp 1) rfl w.heap.size 0 rfl _ _ HRV.out Tryd.underlying24 rfl sizeD ?_)
  refine HI.out.mono ?_
  rintro q w1 ⟨rfl, b1⟩
  have hA1 := HAA.out w1 b1
  have HK2 := hide (HK.out w1 b1)
  clear HK b1 HRV HI HAA
  go_wp2_with fail
  go_quiet (fail)
  go_wp2_with fail
  go_ret2
  exact ⟨rfl, below_drewN HK2.out _⟩
end Go.Proofs.YtbibfneofcphkaaDoor.jc
