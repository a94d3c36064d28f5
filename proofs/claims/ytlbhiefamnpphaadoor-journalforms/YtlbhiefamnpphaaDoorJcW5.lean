import Derived.Test.YtlbhiefamnpphaaDoorJcW4
namespace Go.Proofs.YtlbhiefamnpphaaDoor.jc
open Go.ChangeShapes Go.WideShapes Go.ChangeAt Go.RowKit Go.Proofs.YtlbhiefamnpphaaDoor.common Go.Proofs.YtlbhiefamnpphaaDoor.Jc

theorem below_drewN {b : Nat} {a c : World} (h : Below b a c) (n : Nat) : Below b a (c.drewN n) := ⟨h.1, h.2, h.3, h.4, h.5⟩
def dateB (a b c d e f g : Int) : Bool := momB a b c d e f && (g == (((4 + (dt a b c d e f).day) % 7 : Nat) : Int))

set_option maxRecDepth 100000 in
set_option maxHeartbeats 3200000 in
theorem isDate_any (a b c d e f g : Int) (w : World) (hT : MTab w) : Calls Tryd.prog 17 #[dI a b c d e f g] w fun q w' => q = .returned (.bool (dateB a b c d e f g)) ∧ Below w.heap.size w w' := by
  obtain ⟨V, hW⟩ : ∃ V, V = (w.alloc (.cells #[.int .i64 a, .int .i64 b, .int .i64 c, .int .i64 d, .int .i64 e, .int .i64 f, .int .i64 g] 26)) := ⟨_, rfl⟩
  have BA : Below w.heap.size w V := by rw [hW]; exact (Below.refl _ _).alloc (Nat.le_refl _) _
  have hsz : w.heap.size < V.heap.size := by rw [hW, World.size_alloc]; omega
  have hc := cells7 w a b c d e f g
  rw [← hW] at hc
  obtain ⟨fc, hf, hg⟩ := rc.class_of V
  have c0 : ∀ n, (fc n).cell? ⟨w.heap.size, 0, none⟩ = some (.int .i64 a) := fun n => ((hf n).cell (p := ⟨w.heap.size, 0, none⟩) hsz).trans (hc 0 (by decide))
  have c1 : ∀ n, (fc n).cell? ⟨w.heap.size, 1, none⟩ = some (.int .i64 b) := fun n => ((hf n).cell (p := ⟨w.heap.size, 1, none⟩) hsz).trans (hc 1 (by decide))
  have c2 : ∀ n, (fc n).cell? ⟨w.heap.size, 2, none⟩ = some (.int .i64 c) := fun n => ((hf n).cell (p := ⟨w.heap.size, 2, none⟩) hsz).trans (hc 2 (by decide))
  have c3 : ∀ n, (fc n).cell? ⟨w.heap.size, 3, none⟩ = some (.int .i64 d) := fun n => ((hf n).cell (p := ⟨w.heap.size, 3, none⟩) hsz).trans (hc 3 (by decide))
  have c4 : ∀ n, (fc n).cell? ⟨w.heap.size, 4, none⟩ = some (.int .i64 e) := fun n => ((hf n).cell (p := ⟨w.heap.size, 4, none⟩) hsz).trans (hc 4 (by decide))
  have c5 : ∀ n, (fc n).cell? ⟨w.heap.size, 5, none⟩ = some (.int .i64 f) := fun n => ((hf n).cell (p := ⟨w.heap.size, 5, none⟩) hsz).trans (hc 5 (by decide))
  have c6 : ∀ n, (fc n).cell? ⟨w.heap.size, 6, none⟩ = some (.int .i64 g) := fun n => ((hf n).cell (p := ⟨w.heap.size, 6, none⟩) hsz).trans (hc 6 (by decide))
  have HB0 := hide (fun n => keepW BA (hf n) (Nat.le_of_lt hsz))
  have HW0 := hide hW
  have HD : Hid (V.drew = fc V.drew) := (hg _ (Below.refl _ _).drew).symm
  have HTC : Hid (∀ n, MTab (fc n)) := fun n => (hT.fr BA).fr (hf n)
  haveI : Nonempty World := ⟨w⟩
  have hrange : ∀ n, (fc n).rangeAt w.heap.size 0 [.int .i64 a, .int .i64 b, .int .i64 c, .int .i64 d, .int .i64 e, .int .i64 f, .int .i64 g] := fun n => by
    refine range_of (t := 26) (((hf n).block _ hsz).trans ?_)
    rw [hW]; exact heap_new w _
  have HRG := hide hrange
  clear hrange
  have HM : Hid (∀ n, Calls Tryd.prog 29 #[.agg #[.int .i64 a, .int .i64 b, .int .i64 c, .int .i64 d, .int .i64 e, .int .i64 f, .int .i64 g]] (fc n) fun q w' => q = .returned (.bool (momB a b c d e f)) ∧ ∃ m, w' = fc m) := fun n => (isMoment_any a b c d e f g _ (HTC.out n)).mono (fun _ w1 h => ⟨h.1, w1, (hg _ (keepW (hf n) h.2 (hf n).size)).symm⟩)
  have HY : Hid (momB a b c d e f = true → ∀ n, Calls Tryd.prog 30 #[.agg #[.int .i64 a, .int .i64 b, .int .i64 c, .int .i64 d, .int .i64 e, .int .i64 f, .int .i64 g]] (fc n) fun q w' => q = .returned (.int .i64 ((dt a b c d e f).day : Int)) ∧ ∃ m, w' = fc m) := fun h n => (dayOf_any a b c d e f g _ _ (HTC.out n) (mo_of h)).mono (fun _ w1 h => ⟨h.1, w1, (hg _ (keepW (hf n) h.2 (hf n).size)).symm⟩)
  have HWD : Hid (momB a b c d e f = true → ∀ n, Calls Tryd.prog 21 #[.int .i64 ((dt a b c d e f).day : Int)] (fc n) fun q w' => q = .returned (.int .i64 (((4 + (dt a b c d e f).day) % 7 : Nat) : Int)) ∧ ∃ m, w' = fc m) := fun h n => (weekdayOf_any _ _ (by have := day_most (mo_of h).ok (mo_of h).y1; omega)).mono (fun _ w1 h => ⟨h.1, n, h.2⟩)
  have HDB : Hid (dateB a b c d e f g = (momB a b c d e f && (g == (((4 + (dt a b c d e f).day) % 7 : Nat) : Int)))) := rfl
  clear hW BA hc hT hf hg hsz HTC
  generalize dateB a b c d e f g = DB at *
  generalize momB a b c d e f = M at *
  generalize (4 + (dt a b c d e f).day) % 7 = wk at *
  generalize (dt a b c d e f).day = D at *
  unfold dI
  cases M with
  | false =>
    have HR : Hid (DB = false) := by show DB = _; rw [HDB.out]; simp
    clear HDB
    go_enter Tryd.func17, Tryd.ntmps17
    go_wp2_with fail
    rw [← HW0.out]
    try simp only [List.append_eq, List.cons_append, List.nil_append]
    refine rc.wp_region_cls fc (by kernel_rfl) (by kernel_rfl) _ HD.out ?_
    repeat (go_big_quiet_step (first | with_reducible exact HM.out _))
    refine wpQuiet_nil ?_
    rintro _ ⟨nq, rfl⟩
    go_wp2_with fail
    go_ret
    exact ⟨by rw [HR.out]; rfl, HB0.out nq⟩
  | true =>
    have HY2 := hide (HY.out rfl)
    have HW2 := hide (HWD.out rfl)
    clear HY HWD
    cases hq : (g == (wk : Int)) with
    | false =>
      have HR : Hid (DB = false) := by show DB = _; rw [HDB.out]; simp [hq]
      clear HDB
      go_enter Tryd.func17, Tryd.ntmps17
      go_wp2_with fail
      rw [← HW0.out]
      try simp only [List.append_eq, List.cons_append, List.nil_append]
      refine rc.wp_region_cls fc (by kernel_rfl) (by kernel_rfl) _ HD.out ?_
      repeat (go_big_quiet_step (first | with_reducible exact HM.out _ | with_reducible exact HY2.out _ | with_reducible exact HW2.out _))
      refine wpQuiet_nil ?_
      rintro _ ⟨nq, rfl⟩
      go_wp2_with fail
      go_ret
      exact ⟨by rw [HR.out]; rfl, HB0.out nq⟩
    | true =>
      have HR : Hid (DB = true) := by show DB = _; rw [HDB.out]; simp [hq]
      clear HDB
      go_enter Tryd.func17, Tryd.ntmps17
      go_wp2_with fail
      rw [← HW0.out]
      try simp only [List.append_eq, List.cons_append, List.nil_append]
      refine rc.wp_region_cls fc (by kernel_rfl) (by kernel_rfl) _ HD.out ?_
      repeat (go_big_quiet_step (first | with_reducible exact HM.out _ | with_reducible exact HY2.out _ | with_reducible exact HW2.out _))
      refine wpQuiet_nil ?_
      rintro _ ⟨nq, rfl⟩
      go_wp2_with fail
      go_ret
      exact ⟨by rw [HR.out]; rfl, HB0.out nq⟩

end Go.Proofs.YtlbhiefamnpphaaDoor.jc
