import Derived.Test.YtlbhiefamnpphaaDoorJcW2
import Derived.Test.YtlbhiefamnpphaaDoorRcQuiet
namespace Go.Proofs.YtlbhiefamnpphaaDoor.jc
open Go.ChangeShapes Go.WideShapes Go.ChangeAt Go.RowKit Go.Proofs.YtlbhiefamnpphaaDoor.common Go.Proofs.YtlbhiefamnpphaaDoor.Jc

theorem keepW {B : Nat} {a w w' : World} (h : Below B a w) (h' : Below w.heap.size w w') (hB : B ≤ w.heap.size) : Below B a w' := h.trans (h'.mono hB)
set_option maxRecDepth 100000 in
set_option maxHeartbeats 1600000 in
theorem civil_ok (n : Nat) (w : World) (hT : MTab w) (hn : n ≤ 253402300799) : Calls Tryd.prog 5 #[.int .i64 (n : Int)] w fun e w' => ∃ x : Dt, e = .returned (.tuple #[dv x, .nilIface]) ∧ Is n x ∧ Below w.heap.size w w' := by
  have BA : Below w.heap.size w (w.alloc (.cells #[.int .i64 0, .int .i64 0, .int .i64 0, .int .i64 0, .int .i64 0, .int .i64 0, .int .i64 0] 26)) := (Below.refl _ _).alloc (Nat.le_refl _) _
  have HTH := hide (zero_there w)
  have HT := hide (hT.fr BA)
  have hsz : w.heap.size < (w.alloc (.cells #[.int .i64 0, .int .i64 0, .int .i64 0, .int .i64 0, .int .i64 0, .int .i64 0, .int .i64 0] 26)).heap.size := by rw [World.size_alloc]; omega
  have HBA := hide BA
  have HS := hide (isSecond_any (n : Int) (w.alloc (.cells #[.int .i64 0, .int .i64 0, .int .i64 0, .int .i64 0, .int .i64 0, .int .i64 0, .int .i64 0] 26)))
  have hsb : secB (n : Int) = true := by unfold secB; simp; omega
  rw [hsb] at HS
  clear BA hsb
  go_enter Tryd.func5, Tryd.ntmps5
  go_wp2_with fail
  generalize (w.alloc (.cells #[.int .i64 0, .int .i64 0, .int .i64 0, .int .i64 0, .int .i64 0, .int .i64 0, .int .i64 0] 26)) = V at *
  refine HS.out.mono ?_
  rintro x w1 ⟨rfl, rfl⟩
  have HD := hide (dateOf_any n w1 HT.out (by omega))
  go_wp2_with fail
  refine HD.out.mono ?_
  rintro e w2 ⟨x, rfl, hx, b2⟩
  have HX := hide hx
  have HT2 := hide (there_blk HTH.out (b2.block _ hsz))
  have HB2 := hide (keepW HBA.out b2 (Nat.le_of_lt hsz))
  clear hx b2
  go_wp2_with (refine wpList_store_mid rfl 26 (.tmp 2) (.tmp 10) rfl w.heap.size 0 #[.int .i64 (x.y : Int), .int .i64 (x.m : Int), .int .i64 (x.d : Int), .int .i64 (x.h : Int), .int .i64 (x.i : Int), .int .i64 (x.s : Int), .int .i64 (x.w : Int)] rfl rfl HT2.out sizeD (one7 _ _ _ _ _ _ _) ?_)
  refine bodyPost_ret (v := .tuple #[.agg #[.int .i64 (x.y : Int), .int .i64 (x.m : Int), .int .i64 (x.d : Int), .int .i64 (x.h : Int), .int .i64 (x.i : Int), .int .i64 (x.s : Int), .int .i64 (x.w : Int)], .nilIface]) (results_cellT (b := w.heap.size) (o := 0) (cs := [.int .i64 (x.y : Int), .int .i64 (x.m : Int), .int .i64 (x.d : Int), .int .i64 (x.h : Int), .int .i64 (x.i : Int), .int .i64 (x.s : Int), .int .i64 (x.w : Int)]) Tryd.results5 _ rfl ?_ Tryd.underlying26 rfl sizeD) rfl ⟨x, rfl, HX.out, ?_⟩
  · exact World.rangeAt_setCells_same _ w.heap.size 0 _ HT2.out
  · exact below_setCells HB2.out (Nat.le_refl _) _ _

def inB (n a b : Int) : Bool := decide (a ≤ n) && decide (n ≤ b)
set_option maxHeartbeats 1600000 in
theorem isWithin_any (n a b : Int) (w : World) : Calls Tryd.prog 44 #[.int .i64 n, .int .i64 a, .int .i64 b] w fun e w' => e = .returned (.bool (inB n a b)) ∧ w' = w := by
  have HS : Hid (inB n a b = (decide (a ≤ n) && decide (n ≤ b))) := rfl
  by_cases h0 : a ≤ n
  · cases h1 : decide (n ≤ b)
    · have HR : Hid (inB n a b = false) := by show _ = _; rw [HS.out, h1]; simp
      generalize inB n a b = t at *
      go_enter Tryd.func44, Tryd.ntmps44
      go_wp2_with fail
      go_ret
      exact ⟨by rw [HR.out]; rfl, rfl⟩
    · have HR : Hid (inB n a b = true) := by show _ = _; rw [HS.out, h1]; simp [h0]
      generalize inB n a b = t at *
      go_enter Tryd.func44, Tryd.ntmps44
      go_wp2_with fail
      go_ret
      exact ⟨by rw [HR.out]; rfl, rfl⟩
  · have HR : Hid (inB n a b = false) := by show _ = _; rw [HS.out]; simp [h0]
    have h2 : decide (a ≤ n) = false := decide_eq_false h0
    generalize inB n a b = t at *
    clear h0
    go_enter Tryd.func44, Tryd.ntmps44
    go_wp2_with fail
    go_ret
    exact ⟨by rw [HR.out]; rfl, rfl⟩

/-- a moment, asked of any seven numbers -/
def momB (a b c d e f : Int) : Bool := inB a 1970 9999 && (inB b 1 12 && (inB c 1 (md a.toNat b.toNat) && (inB d 0 23 && (inB e 0 59 && inB f 0 59))))
theorem cells7 (w : World) (a b c d e f g : Int) : ∀ i (h : i < 7), (w.alloc (.cells #[.int .i64 a, .int .i64 b, .int .i64 c, .int .i64 d, .int .i64 e, .int .i64 f, .int .i64 g] 26)).cell? ⟨w.heap.size, i, none⟩ = some (#[.int .i64 a, .int .i64 b, .int .i64 c, .int .i64 d, .int .i64 e, .int .i64 f, .int .i64 g][i]'h) := fun i h => by
  have := heap_new w (.cells #[.int .i64 a, .int .i64 b, .int .i64 c, .int .i64 d, .int .i64 e, .int .i64 f, .int .i64 g] 26)
  have hh : (w.alloc (.cells #[.int .i64 a, .int .i64 b, .int .i64 c, .int .i64 d, .int .i64 e, .int .i64 f, .int .i64 g] 26)).cell? ⟨w.heap.size, i, none⟩ = (#[.int .i64 a, .int .i64 b, .int .i64 c, .int .i64 d, .int .i64 e, .int .i64 f, .int .i64 g] : Array Value)[i]? := by simp only [World.cell?, this]; rfl
  rw [hh]
  exact Array.getElem?_eq_getElem h

set_option maxRecDepth 100000 in
set_option maxHeartbeats 3200000 in
theorem isMoment_any (a b c d e f g : Int) (w : World) (hT : MTab w) : Calls Tryd.prog 29 #[dI a b c d e f g] w fun x w' => x = .returned (.bool (momB a b c d e f)) ∧ Below w.heap.size w w' := by
  obtain ⟨V, hW⟩ : ∃ V, V = (w.alloc (.cells #[.int .i64 a, .int .i64 b, .int .i64 c, .int .i64 d, .int .i64 e, .int .i64 f, .int .i64 g] 26)) := ⟨_, rfl⟩
  have BA : Below w.heap.size w V := by rw [hW]; exact (Below.refl _ _).alloc (Nat.le_refl _) _
  have hsz : w.heap.size < V.heap.size := by rw [hW, World.size_alloc]; omega
  have hc := cells7 w a b c d e f g
  rw [← hW] at hc
  obtain ⟨fc, hf, hg⟩ := rc.class_of V
  have HM : Hid (momB a b c d e f = (inB a 1970 9999 && (inB b 1 12 && (inB c 1 (md a.toNat b.toNat) && (inB d 0 23 && (inB e 0 59 && inB f 0 59)))))) := rfl
  have c0 : ∀ n, (fc n).cell? ⟨w.heap.size, 0, none⟩ = some (.int .i64 a) := fun n => ((hf n).cell (p := ⟨w.heap.size, 0, none⟩) hsz).trans (hc 0 (by decide))
  have c1 : ∀ n, (fc n).cell? ⟨w.heap.size, 1, none⟩ = some (.int .i64 b) := fun n => ((hf n).cell (p := ⟨w.heap.size, 1, none⟩) hsz).trans (hc 1 (by decide))
  have c2 : ∀ n, (fc n).cell? ⟨w.heap.size, 2, none⟩ = some (.int .i64 c) := fun n => ((hf n).cell (p := ⟨w.heap.size, 2, none⟩) hsz).trans (hc 2 (by decide))
  have c3 : ∀ n, (fc n).cell? ⟨w.heap.size, 3, none⟩ = some (.int .i64 d) := fun n => ((hf n).cell (p := ⟨w.heap.size, 3, none⟩) hsz).trans (hc 3 (by decide))
  have c4 : ∀ n, (fc n).cell? ⟨w.heap.size, 4, none⟩ = some (.int .i64 e) := fun n => ((hf n).cell (p := ⟨w.heap.size, 4, none⟩) hsz).trans (hc 4 (by decide))
  have c5 : ∀ n, (fc n).cell? ⟨w.heap.size, 5, none⟩ = some (.int .i64 f) := fun n => ((hf n).cell (p := ⟨w.heap.size, 5, none⟩) hsz).trans (hc 5 (by decide))
  have h1 : Hid (∀ n, Calls Tryd.prog 44 #[.int .i64 a, .int .i64 1970, .int .i64 9999] (fc n) fun x w' => x = .returned (.bool (inB a 1970 9999)) ∧ ∃ m, w' = fc m) := fun n => (isWithin_any a _ _ _).mono (fun _ _ h => ⟨h.1, n, h.2⟩)
  have h2 : Hid (∀ n, Calls Tryd.prog 44 #[.int .i64 b, .int .i64 1, .int .i64 12] (fc n) fun x w' => x = .returned (.bool (inB b 1 12)) ∧ ∃ m, w' = fc m) := fun n => (isWithin_any b _ _ _).mono (fun _ _ h => ⟨h.1, n, h.2⟩)
  have h3 : Hid (∀ n, Calls Tryd.prog 44 #[.int .i64 c, .int .i64 1, .int .i64 (md a.toNat b.toNat : Int)] (fc n) fun x w' => x = .returned (.bool (inB c 1 (md a.toNat b.toNat))) ∧ ∃ m, w' = fc m) := fun n => (isWithin_any c _ _ _).mono (fun _ _ h => ⟨h.1, n, h.2⟩)
  have h4 : Hid (∀ n, Calls Tryd.prog 44 #[.int .i64 d, .int .i64 0, .int .i64 23] (fc n) fun x w' => x = .returned (.bool (inB d 0 23)) ∧ ∃ m, w' = fc m) := fun n => (isWithin_any d _ _ _).mono (fun _ _ h => ⟨h.1, n, h.2⟩)
  have h5 : Hid (∀ n, Calls Tryd.prog 44 #[.int .i64 e, .int .i64 0, .int .i64 59] (fc n) fun x w' => x = .returned (.bool (inB e 0 59)) ∧ ∃ m, w' = fc m) := fun n => (isWithin_any e _ _ _).mono (fun _ _ h => ⟨h.1, n, h.2⟩)
  have h6 : Hid (∀ n, Calls Tryd.prog 44 #[.int .i64 f, .int .i64 0, .int .i64 59] (fc n) fun x w' => x = .returned (.bool (inB f 0 59)) ∧ ∃ m, w' = fc m) := fun n => (isWithin_any f _ _ _).mono (fun _ _ h => ⟨h.1, n, h.2⟩)
  have hd : Hid (inB a 1970 9999 = true → inB b 1 12 = true → ∀ n, Calls Tryd.prog 20 #[.int .i64 a, .int .i64 b] (fc n) fun x w' => x = .returned (.int .i64 (md a.toNat b.toNat : Int)) ∧ ∃ m, w' = fc m) := by
    intro k1 k2 n
    have q1 : 1970 ≤ a ∧ a ≤ 9999 := by simpa [inB] using k1
    have q2 : 1 ≤ b ∧ b ≤ 12 := by simpa [inB] using k2
    have := daysOf_any a.toNat b.toNat (fc n) ((hT.fr BA).fr (hf n)) (by omega) (by omega)
    rw [show (a.toNat : Int) = a by omega, show (b.toNat : Int) = b by omega] at this
    exact this.mono (fun _ _ h => ⟨h.1, n, h.2⟩)
  have HB0 := hide (fun n => keepW BA (hf n) (Nat.le_of_lt hsz))
  have HW0 := hide hW
  have HD : Hid (V.drew = fc V.drew) := (hg _ (Below.refl _ _).drew).symm
  haveI : Nonempty World := ⟨w⟩
  clear hW BA hc hT hf hg hsz
  unfold dI
  generalize momB a b c d e f = M at *
  generalize inB a 1970 9999 = t1 at *
  generalize inB b 1 12 = t2 at *
  generalize inB c 1 (md a.toNat b.toNat) = t3 at *
  generalize md a.toNat b.toNat = q at *
  generalize inB d 0 23 = t4 at *
  generalize inB e 0 59 = t5 at *
  generalize inB f 0 59 = t6 at *
  cases t1 with
  | false =>
    have HR : Hid (M = false) := by show M = _; rw [HM.out]; simp
    clear HM hd
    go_enter Tryd.func29, Tryd.ntmps29
    go_wp2_with fail
    rw [← HW0.out]
    try simp only [List.append_eq, List.cons_append, List.nil_append]
    refine rc.wp_region_cls fc (by kernel_rfl) (by kernel_rfl) _ HD.out ?_
    repeat (go_big_quiet_step (first | with_reducible exact h1.out _))
    refine wpQuiet_nil ?_
    rintro _ ⟨nq, rfl⟩
    go_wp2_with fail
    go_ret
    exact ⟨by rw [HR.out]; rfl, HB0.out nq⟩
  | true =>
    cases t2 with
    | false =>
      have HR : Hid (M = false) := by show M = _; rw [HM.out]; simp
      clear HM hd
      go_enter Tryd.func29, Tryd.ntmps29
      go_wp2_with fail
      rw [← HW0.out]
      try simp only [List.append_eq, List.cons_append, List.nil_append]
      refine rc.wp_region_cls fc (by kernel_rfl) (by kernel_rfl) _ HD.out ?_
      repeat (go_big_quiet_step (first | with_reducible exact h1.out _ | with_reducible exact h2.out _))
      refine wpQuiet_nil ?_
      rintro _ ⟨nq, rfl⟩
      go_wp2_with fail
      go_ret
      exact ⟨by rw [HR.out]; rfl, HB0.out nq⟩
    | true =>
      cases t3 with
      | false =>
        have HR : Hid (M = false) := by show M = _; rw [HM.out]; simp
        have hd2 := hide (hd.out rfl rfl)
        clear HM hd
        go_enter Tryd.func29, Tryd.ntmps29
        go_wp2_with fail
        rw [← HW0.out]
        try simp only [List.append_eq, List.cons_append, List.nil_append]
        refine rc.wp_region_cls fc (by kernel_rfl) (by kernel_rfl) _ HD.out ?_
        repeat (go_big_quiet_step (first | with_reducible exact h1.out _ | with_reducible exact h2.out _ | with_reducible exact h3.out _ | with_reducible exact hd2.out _))
        refine wpQuiet_nil ?_
        rintro _ ⟨nq, rfl⟩
        go_wp2_with fail
        go_ret
        exact ⟨by rw [HR.out]; rfl, HB0.out nq⟩
      | true =>
        cases t4 with
        | false =>
          have HR : Hid (M = false) := by show M = _; rw [HM.out]; simp
          have hd2 := hide (hd.out rfl rfl)
          clear HM hd
          go_enter Tryd.func29, Tryd.ntmps29
          go_wp2_with fail
          rw [← HW0.out]
          try simp only [List.append_eq, List.cons_append, List.nil_append]
          refine rc.wp_region_cls fc (by kernel_rfl) (by kernel_rfl) _ HD.out ?_
          repeat (go_big_quiet_step (first | with_reducible exact h1.out _ | with_reducible exact h2.out _ | with_reducible exact h3.out _ | with_reducible exact h4.out _ | with_reducible exact hd2.out _))
          refine wpQuiet_nil ?_
          rintro _ ⟨nq, rfl⟩
          go_wp2_with fail
          go_ret
          exact ⟨by rw [HR.out]; rfl, HB0.out nq⟩
        | true =>
          cases t5 with
          | false =>
            have HR : Hid (M = false) := by show M = _; rw [HM.out]; simp
            have hd2 := hide (hd.out rfl rfl)
            clear HM hd
            go_enter Tryd.func29, Tryd.ntmps29
            go_wp2_with fail
            rw [← HW0.out]
            try simp only [List.append_eq, List.cons_append, List.nil_append]
            refine rc.wp_region_cls fc (by kernel_rfl) (by kernel_rfl) _ HD.out ?_
            repeat (go_big_quiet_step (first | with_reducible exact h1.out _ | with_reducible exact h2.out _ | with_reducible exact h3.out _ | with_reducible exact h4.out _ | with_reducible exact h5.out _ | with_reducible exact hd2.out _))
            refine wpQuiet_nil ?_
            rintro _ ⟨nq, rfl⟩
            go_wp2_with fail
            go_ret
            exact ⟨by rw [HR.out]; rfl, HB0.out nq⟩
          | true =>
            cases t6 with
            | false =>
              have HR : Hid (M = false) := by show M = _; rw [HM.out]; simp
              have hd2 := hide (hd.out rfl rfl)
              clear HM hd
              go_enter Tryd.func29, Tryd.ntmps29
              go_wp2_with fail
              rw [← HW0.out]
              try simp only [List.append_eq, List.cons_append, List.nil_append]
              refine rc.wp_region_cls fc (by kernel_rfl) (by kernel_rfl) _ HD.out ?_
              repeat (go_big_quiet_step (first | with_reducible exact h1.out _ | with_reducible exact h2.out _ | with_reducible exact h3.out _ | with_reducible exact h4.out _ | with_reducible exact h5.out _ | with_reducible exact h6.out _ | with_reducible exact hd2.out _))
              refine wpQuiet_nil ?_
              rintro _ ⟨nq, rfl⟩
              go_wp2_with fail
              go_ret
              exact ⟨by rw [HR.out]; rfl, HB0.out nq⟩
            | true =>
              have HR : Hid (M = true) := by show M = _; rw [HM.out]; simp
              have hd2 := hide (hd.out rfl rfl)
              clear HM hd
              go_enter Tryd.func29, Tryd.ntmps29
              go_wp2_with fail
              rw [← HW0.out]
              try simp only [List.append_eq, List.cons_append, List.nil_append]
              refine rc.wp_region_cls fc (by kernel_rfl) (by kernel_rfl) _ HD.out ?_
              repeat (go_big_quiet_step (first | with_reducible exact h1.out _ | with_reducible exact h2.out _ | with_reducible exact h3.out _ | with_reducible exact h4.out _ | with_reducible exact h5.out _ | with_reducible exact h6.out _ | with_reducible exact hd2.out _))
              refine wpQuiet_nil ?_
              rintro _ ⟨nq, rfl⟩
              go_wp2_with fail
              go_ret
              exact ⟨by rw [HR.out]; rfl, HB0.out nq⟩
end Go.Proofs.YtlbhiefamnpphaaDoor.jc
