import Derived.Test.YtlbhiefamnpphaaDoorJcW3
namespace Go.Proofs.YtlbhiefamnpphaaDoor.jc
open Go.ChangeShapes Go.WideShapes Go.ChangeAt Go.RowKit Go.Proofs.YtlbhiefamnpphaaDoor.common Go.Proofs.YtlbhiefamnpphaaDoor.Jc

/-- seven numbers that are a moment -/
structure Mo (a b c d e f : Int) (x : Dt) : Prop where
  ok : Ok x
  y1 : x.y ≤ 9999
  ea : a = (x.y : Int)
  eb : b = (x.m : Int)
  ec : c = (x.d : Int)
  ed : d = (x.h : Int)
  ee : e = (x.i : Int)
  ef : f = (x.s : Int)
def dt (a b c d e f : Int) : Dt := ⟨a.toNat, b.toNat, c.toNat, d.toNat, e.toNat, f.toNat, 0⟩
theorem mo_of {a b c d e f : Int} (h : momB a b c d e f = true) : Mo a b c d e f (dt a b c d e f) := by
  unfold momB inB at h
  simp only [Bool.and_eq_true, decide_eq_true_eq] at h
  obtain ⟨⟨a0, a1⟩, ⟨b0, b1⟩, ⟨k0, k1⟩, ⟨d0, d1⟩, ⟨e0, e1⟩, f0, f1⟩ := h
  refine ⟨⟨?_, ?_, ?_, ?_, ?_, ?_, ?_, ?_⟩, ?_, ?_, ?_, ?_, ?_, ?_, ?_⟩ <;> simp only [dt] <;> omega
theorem mom_of {a b c d e f : Int} {x : Dt} (h : Mo a b c d e f x) : momB a b c d e f = true := by
  obtain ⟨⟨y0, m0, m1, d0, d1, h1, i1, s1⟩, y1, rfl, rfl, rfl, rfl, rfl, rfl⟩ := h
  unfold momB inB
  simp only [Bool.and_eq_true, decide_eq_true_eq, Int.toNat_natCast]
  refine ⟨⟨?_, ?_⟩, ⟨?_, ?_⟩, ⟨?_, ?_⟩, ⟨?_, ?_⟩, ⟨?_, ?_⟩, ?_, ?_⟩ <;> omega
theorem day_most {x : Dt} (h : Ok x) (h1 : x.y ≤ 9999) : x.day < 2932897 := by
  have := h.in_year.2
  have := yb_le (y := x.y + 1) (z := 10000) (by have := h.y0; omega) (by omega)
  rw [yb_past] at this
  omega

set_option maxRecDepth 100000 in
set_option maxHeartbeats 3200000 in
theorem dayOf_any (a b c d e f g : Int) (x : Dt) (w : World) (hT : MTab w) (hx : Mo a b c d e f x) : Calls Tryd.prog 30 #[dI a b c d e f g] w fun q w' => q = .returned (.int .i64 (x.day : Int)) ∧ Below w.heap.size w w' := by
  obtain ⟨V, hW⟩ : ∃ V, V = (w.alloc (.cells #[.int .i64 a, .int .i64 b, .int .i64 c, .int .i64 d, .int .i64 e, .int .i64 f, .int .i64 g] 26)) := ⟨_, rfl⟩
  have BA : Below w.heap.size w V := by rw [hW]; exact (Below.refl _ _).alloc (Nat.le_refl _) _
  have hsz : w.heap.size < V.heap.size := by rw [hW, World.size_alloc]; omega
  have hc := cells7 w a b c d e f g
  rw [← hW] at hc
  obtain ⟨fc, hf, hg⟩ := rc.class_of V
  have c0 : ∀ n, (fc n).cell? ⟨w.heap.size, 0, none⟩ = some (.int .i64 a) := fun n => ((hf n).cell (p := ⟨w.heap.size, 0, none⟩) hsz).trans (hc 0 (by decide))
  have c1 : ∀ n, (fc n).cell? ⟨w.heap.size, 1, none⟩ = some (.int .i64 b) := fun n => ((hf n).cell (p := ⟨w.heap.size, 1, none⟩) hsz).trans (hc 1 (by decide))
  have c2 : ∀ n, (fc n).cell? ⟨w.heap.size, 2, none⟩ = some (.int .i64 c) := fun n => ((hf n).cell (p := ⟨w.heap.size, 2, none⟩) hsz).trans (hc 2 (by decide))
  have HB0 := hide (fun n => keepW BA (hf n) (Nat.le_of_lt hsz))
  have HW0 := hide hW
  have HD : Hid (V.drew = fc V.drew) := (hg _ (Below.refl _ _).drew).symm
  have HTC : Hid (∀ n, MTab (fc n)) := fun n => (hT.fr BA).fr (hf n)
  haveI : Nonempty World := ⟨w⟩
  obtain ⟨hok, y1, rfl, rfl, rfl, rfl, rfl, rfl⟩ := hx
  have HY : Hid (∀ n, Calls Tryd.prog 31 #[.int .i64 (x.y : Int)] (fc n) fun q w' => q = .returned (.int .i64 (yb x.y : Int)) ∧ ∃ m, w' = fc m) := fun n => (yearBegin_any x.y _ hok.y0 (by omega)).mono (fun _ _ h => ⟨h.1, n, h.2⟩)
  have HDD : Hid (∀ (n : World) (m : Nat), 1 ≤ m → m ≤ 12 → Calls Tryd.prog 20 #[.int .i64 (x.y : Int), .int .i64 (m : Int)] (fc n) fun q w' => q = .returned (.int .i64 (md x.y m : Int)) ∧ w' = fc n) := fun n m h0 h1 => daysOf_any x.y m _ (HTC.out n) h0 h1
  have HE : Hid (x.day = yb x.y + x.d - 1 + cm x.y (x.m - 1)) := by show Dt.day x = _; unfold Dt.day; have := hok.d0; omega
  have HDM := hide (day_most hok y1)
  have d0 := hok.d0
  have m0 := hok.m0
  have m1 := hok.m1
  have d1 := Nat.le_trans hok.d1 (md_most _ _ m0 m1).2
  have yM : yb x.y < 2932897 := by have := hok.in_year.1; have := HDM.out; omega
  have HCS : Hid (∀ m, 1 ≤ m → cm x.y m = cm x.y (m - 1) + md x.y m) := fun m h => cm_step x.y m h
  have HMM : Hid (∀ m, 1 ≤ m → m ≤ 12 → md x.y m ≤ 31) := fun m h0 h1 => (md_most x.y m h0 h1).2
  clear hW BA hc hT hf hg hsz HTC hok
  obtain ⟨yy, mm, dd, hh, ii, ss, ww⟩ := x
  simp only at *
  generalize Dt.day ⟨yy, mm, dd, hh, ii, ss, ww⟩ = D at *
  generalize hB : yb yy = B at *
  clear hB
  unfold dI
  go_enter Tryd.func30, Tryd.ntmps30
  go_wp2_with fail
  rw [← HW0.out]
  try simp only [List.append_eq, List.cons_append, List.nil_append]
  refine rc.wp_region_cls fc (by kernel_rfl) (by kernel_rfl) _ HD.out ?_
  repeat (go_big_quiet_step (first | with_reducible exact HY.out _))
  refine wpQuiet_nil ?_
  rintro _ ⟨nq, rfl⟩
  have c1n := c1 nq
  have c0n := c0 nq
  have HDN := hide (HDD.out nq)
  have HBN := hide (HB0.out nq)
  clear c0 c1 c2 HDD HB0 HY HD
  generalize fc nq = U at *
  go_wp2_with fail
  go_loopw [3, 4] (fun u v wr => ∃ k m : Nat, u = .int .i64 (k : Int) ∧ v = .int .i64 (m : Int) ∧ 1 ≤ m ∧ m ≤ mm ∧ k ≤ 3000000 + 31 * m ∧ Hid (k = B + dd - 1 + cm yy (m - 1)) ∧ wr = U) (fun _ v _ => 13 - (intOf v).toNat)
  case atStart => exact ⟨B + dd - 1, 1, by go_num, rfl, by omega, by omega, by omega, by show _ = _; simp [cm], rfl⟩
  case round =>
    obtain ⟨k, m, rfl, rfl, k0, k1, kb, HK, rfl⟩ := hrel
    by_cases hlt : m < mm
    · have hli : (m : Int) < (mm : Int) := by omega
      have HDm := hide (HDN.out m k0 (by omega))
      have hq := HMM.out m k0 (by omega)
      have HN : Hid (k + md yy m = B + dd - 1 + cm yy (m + 1 - 1)) := by show _ = _; rw [Nat.add_sub_cancel, HCS.out m k0, HK.out]; omega
      generalize md yy m = q at *
      clear HK HCS HMM HDN
      go_wp2_with fail
      refine HDm.out.mono ?_
      rintro z w3 ⟨rfl, rfl⟩
      go_wp2_with fail
      go_roundw
      case rel => exact ⟨k + q, m + 1, by go_num, by go_num, by omega, by omega, by omega, HN, by trivial⟩
      case measure => simp [intOf]; omega
    · obtain rfl : m = mm := by omega
      have HQ : Hid (D = k) := by show _ = _; rw [HE.out, HK.out]
      clear HK HE HCS HMM HDN
      go_wp2_with fail
      go_ret
      exact ⟨by rw [HQ.out]; rfl, HBN.out⟩

set_option maxRecDepth 100000 in
set_option maxHeartbeats 3200000 in
theorem secondOf_any (a b c d e f g : Int) (x : Dt) (w : World) (hT : MTab w) (hx : Mo a b c d e f x) : Calls Tryd.prog 18 #[dI a b c d e f g] w fun q w' => q = .returned (.int .i64 (x.sec : Int)) ∧ Below w.heap.size w w' := by
  obtain ⟨V, hW⟩ : ∃ V, V = (w.alloc (.cells #[.int .i64 a, .int .i64 b, .int .i64 c, .int .i64 d, .int .i64 e, .int .i64 f, .int .i64 g] 26)) := ⟨_, rfl⟩
  have BA : Below w.heap.size w V := by rw [hW]; exact (Below.refl _ _).alloc (Nat.le_refl _) _
  have hsz : w.heap.size < V.heap.size := by rw [hW, World.size_alloc]; omega
  have hc := cells7 w a b c d e f g
  rw [← hW] at hc
  obtain ⟨fc, hf, hg⟩ := rc.class_of V
  have c0 : ∀ n, (fc n).cell? ⟨w.heap.size, 0, none⟩ = some (.int .i64 a) := fun n => ((hf n).cell (p := ⟨w.heap.size, 0, none⟩) hsz).trans (hc 0 (by decide))
  have c1 : ∀ n, (fc n).cell? ⟨w.heap.size, 1, none⟩ = some (.int .i64 b) := fun n => ((hf n).cell (p := ⟨w.heap.size, 1, none⟩) hsz).trans (hc 1 (by decide))
  have c2 : ∀ n, (fc n).cell? ⟨w.heap.size, 2, none⟩ = some (.int .i64 c) := fun n => ((hf n).cell (p := ⟨w.heap.size, 2, none⟩) hsz).trans (hc 2 (by decide))
  have c3 : ∀ n, (fc n).cell? ⟨w.heap.size, 3, none⟩ = some (.int .i64 d) := fun n => ((hf n).cell (p := ⟨w.heap.size, 3, none⟩) hsz).trans (hc 3 (by decide))
  have c4 : ∀ n, (fc n).cell? ⟨w.heap.size, 4, none⟩ = some (.int .i64 e) := fun n => ((hf n).cell (p := ⟨w.heap.size, 4, none⟩) hsz).trans (hc 4 (by decide))
  have c5 : ∀ n, (fc n).cell? ⟨w.heap.size, 5, none⟩ = some (.int .i64 f) := fun n => ((hf n).cell (p := ⟨w.heap.size, 5, none⟩) hsz).trans (hc 5 (by decide))
  have c6 : ∀ n, (fc n).cell? ⟨w.heap.size, 6, none⟩ = some (.int .i64 g) := fun n => ((hf n).cell (p := ⟨w.heap.size, 6, none⟩) hsz).trans (hc 6 (by decide))
  have HB0 := hide (fun n => keepW BA (hf n) (Nat.le_of_lt hsz))
  have HW0 := hide hW
  have HD : Hid (V.drew = fc V.drew) := (hg _ (Below.refl _ _).drew).symm
  have HTC : Hid (∀ n, MTab (fc n)) := fun n => (hT.fr BA).fr (hf n)
  haveI : Nonempty World := ⟨w⟩
  have hrange : ∀ n, (fc n).rangeAt w.heap.size 0 [.int .i64 a, .int .i64 b, .int .i64 c, .int .i64 d, .int .i64 e, .int .i64 f, .int .i64 g] := fun n => by
    refine range_of (t := 26) (((hf n).block _ hsz).trans ?_)
    rw [hW]; exact heap_new w _
  have HRG := hide hrange
  clear hrange
  have HY : Hid (∀ n, Calls Tryd.prog 30 #[.agg #[.int .i64 a, .int .i64 b, .int .i64 c, .int .i64 d, .int .i64 e, .int .i64 f, .int .i64 g]] (fc n) fun q w' => q = .returned (.int .i64 (x.day : Int)) ∧ ∃ m, w' = fc m) := fun n => (dayOf_any a b c d e f g x _ (HTC.out n) hx).mono (fun _ w1 h => ⟨h.1, w1, (hg _ (keepW (hf n) h.2 (hf n).size)).symm⟩)
  obtain ⟨hok, y1, rfl, rfl, rfl, rfl, rfl, rfl⟩ := hx
  have HE : Hid (x.sec = 86400 * x.day + 3600 * x.h + 60 * x.i + x.s) := rfl
  have hdm := day_most hok y1
  have h1 := hok.h1
  have h2 := hok.i1
  have h3 := hok.s1
  clear hW BA hc hT hf hg hsz HTC hok
  generalize Dt.sec x = S at *
  generalize Dt.day x = D at *
  unfold dI
  go_enter Tryd.func18, Tryd.ntmps18
  go_wp2_with fail
  rw [← HW0.out]
  try simp only [List.append_eq, List.cons_append, List.nil_append]
  refine rc.wp_region_cls fc (by kernel_rfl) (by kernel_rfl) _ HD.out ?_
  repeat (go_big_quiet_step (first | with_reducible exact HY.out _))
  refine wpQuiet_nil ?_
  rintro _ ⟨nq, rfl⟩
  go_wp2_with fail
  go_ret
  exact ⟨by rw [HE.out]; go_num, HB0.out nq⟩
end Go.Proofs.YtlbhiefamnpphaaDoor.jc
