import Derived.Test.YtimbhneegphhbaaGreatDoorRcQuiet
namespace Go.Proofs.YtimbhneegphhbaaGreatDoor.rc
open Go.ChangeShapes Go.WideShapes Go.ChangeAt Go.RowKit Go.Proofs.YtimbhneegphhbaaGreatDoor.common Go.Proofs.YtimbhneegphhbaaGreatDoor.bk Go.Proofs.YtimbhneegphhbaaGreatDoor.ss
attribute [local go_sem ↓] Go.wp_at_zero Go.wp_at_succ

/-- a record -/
structure Rec where
  k : Int
  id : ByteArray
  us : ByteArray
  cl : ByteArray
  rd : ByteArray
  ch : ByteArray
  cd : ByteArray
  ss : List ByteArray
  at_ : Int
/-- its cells, with the slice of its scopes -/
abbrev rcs (r : Rec) (v : Value) : Array Value := #[.int .i64 r.k, .string r.id, .string r.us, .string r.cl, .string r.rd, .string r.ch, .string r.cd, v, .int .i64 r.at_]
/-- texts that a machine can hold -/
structure Rec.Small (r : Rec) : Prop where
  id : r.id.size ≤ reachBytes
  us : r.us.size ≤ reachBytes
  cl : r.cl.size ≤ reachBytes
  rd : r.rd.size ≤ reachBytes
  ch : r.ch.size ≤ reachBytes
  cd : r.cd.size ≤ reachBytes
  len : r.ss.length ≤ 4611686018427387904
  ss : ∀ s ∈ r.ss, s.size ≤ 4294967200
def t_id (r : Rec) : Bool := fitS (nm r.k 1) r.id (idB r.id)
def t_us (r : Rec) : Bool := fitS (nm r.k 2) r.us (Tm.word 64 (Tm.btw 33 126) r.us.data.toList)
def t_cl (r : Rec) : Bool := fitS (nm r.k 4) r.cl (Tm.word 64 (Tm.btw 33 126) r.cl.data.toList)
def t_rd (r : Rec) : Bool := fitS (nm r.k 8) r.rd (tm.redL r.rd.data.toList)
def t_ch (r : Rec) : Bool := fitS (nm r.k 16) r.ch (Pk.proof r.ch.data.toList)
def t_cd (r : Rec) : Bool := fitS (nm r.k 32) r.cd (idB r.cd)
/-- may it be one? -/
def mayB (r : Rec) : Bool := isK r.k && (t_id r && (t_us r && (t_cl r && (t_rd r && (t_ch r && (t_cd r && (fitL (nm r.k 64) r.ss && fitT (nm r.k 128) r.at_)))))))
def BoxR (W0 : World) (b : Nat) (r : Rec) (v : Value) : Prop := ∀ X, Below W0.heap.size W0 X → X.cell? ⟨b, 0, none⟩ = some (.int .i64 r.k) ∧ X.cell? ⟨b, 1, none⟩ = some (.string r.id) ∧ X.cell? ⟨b, 2, none⟩ = some (.string r.us) ∧ X.cell? ⟨b, 3, none⟩ = some (.string r.cl) ∧ X.cell? ⟨b, 4, none⟩ = some (.string r.rd) ∧ X.cell? ⟨b, 5, none⟩ = some (.string r.ch) ∧ X.cell? ⟨b, 6, none⟩ = some (.string r.cd) ∧ X.cell? ⟨b, 7, none⟩ = some v ∧ X.cell? ⟨b, 8, none⟩ = some (.int .i64 r.at_)
theorem boxR (w : World) (r : Rec) (v : Value) (t : TypeId) : BoxR (w.alloc (.cells (rcs r v) t)) w.heap.size r v := fun X hX => by
  have h : X.heap[w.heap.size]? = some (.cells (rcs r v) t (0, 0)) := (hX.block _ (by simp)).trans (heap_alloc_new w _)
  simp only [World.cell?, h]
  exact ⟨rfl, rfl, rfl, rfl, rfl, rfl, rfl, rfl, rfl⟩
theorem keepW {a c d : World} (h1 : Below a.heap.size a c) (h2 : Below c.heap.size c d) : Below a.heap.size a d := h1.trans (h2.mono h1.size)

set_option maxRecDepth 100000 in
set_option maxHeartbeats 12800000 in
theorem mayBe_any (r : Rec) (v : Value) (ea em : Addr) (eA : Value) (w : World) (hv : Lies w v r.ss) (hz : r.Small) (he : Env ea em eA w) :
    Calls Tryz.prog 27 #[.agg (rcs r v)] w fun e w' => e = .returned (.bool (mayB r)) ∧ Below w.heap.size w w' := by
  obtain ⟨W0, hW0⟩ : ∃ W0, W0 = w.alloc (.cells (rcs r v) 26) := ⟨_, rfl⟩
  have hb0 : Below w.heap.size w W0 := by rw [hW0]; exact (Below.refl _ _).alloc (Nat.le_refl _) _
  have HC : Hid (BoxR W0 w.heap.size r v) := by show BoxR _ _ _ _; rw [hW0]; exact boxR w r v _
  have he0 := he.below hb0
  obtain ⟨f, hf, hg⟩ := class_of W0
  have HE : Hid (∀ X, Below W0.heap.size W0 X → Env ea em eA X) := fun X hX => he0.below hX
  have HK : Hid (∀ n, Calls Tryz.prog 38 #[.int .i64 r.k] (f n) fun e w' => e = .returned (.bool (isK r.k)) ∧ ∃ m, w' = f m) := fun n => (isKind_any r.k _).mono (fun e w1 h => ⟨h.1, n, h.2⟩)
  have HN : Hid (∀ n q, Calls Tryz.prog 37 #[.int .i64 r.k, .int .i64 q] (f n) fun e w' => e = .returned (.bool (nm r.k q)) ∧ ∃ m, w' = f m) := fun n q => (names_any r.k q _ (HE.out _ (hf n)).kt).mono (fun e w1 h => ⟨h.1, n, h.2⟩)
  have H_id : Hid (∀ n, Calls Tryz.prog 39 #[.bool (nm r.k 1), .string r.id, .func (.func 40) #[] #[]] (f n) fun e w' => e = .returned (.bool (t_id r)) ∧ ∃ m, w' = f m) := fun n =>
    (textFits_any (nm r.k 1) _ r.id _ (f n) ident_enters (isIdentifier_any r.id ea em eA (f n) hz.id (HE.out _ (hf n)))).mono (fun e w1 h => ⟨h.1, w1, (hg _ (keepW (hf n) h.2)).symm⟩)
  have H_us : Hid (∀ n, Calls Tryz.prog 39 #[.bool (nm r.k 2), .string r.us, .func (.func 41) #[] #[]] (f n) fun e w' => e = .returned (.bool (t_us r)) ∧ ∃ m, w' = f m) := fun n =>
    (textFits_any (nm r.k 2) _ r.us _ (f n) name_enters ((tm.name_any r.us (f n) (Nat.le_trans hz.us (by unfold reachBytes; decide))).mono (fun e w1 h => ⟨h.1, by rw [h.2]; exact Below.refl _ _⟩))).mono (fun e w1 h => ⟨h.1, w1, (hg _ (keepW (hf n) h.2)).symm⟩)
  have H_cl : Hid (∀ n, Calls Tryz.prog 39 #[.bool (nm r.k 4), .string r.cl, .func (.func 41) #[] #[]] (f n) fun e w' => e = .returned (.bool (t_cl r)) ∧ ∃ m, w' = f m) := fun n =>
    (textFits_any (nm r.k 4) _ r.cl _ (f n) name_enters ((tm.name_any r.cl (f n) (Nat.le_trans hz.cl (by unfold reachBytes; decide))).mono (fun e w1 h => ⟨h.1, by rw [h.2]; exact Below.refl _ _⟩))).mono (fun e w1 h => ⟨h.1, w1, (hg _ (keepW (hf n) h.2)).symm⟩)
  have H_rd : Hid (∀ n, Calls Tryz.prog 39 #[.bool (nm r.k 8), .string r.rd, .func (.func 42) #[] #[]] (f n) fun e w' => e = .returned (.bool (t_rd r)) ∧ ∃ m, w' = f m) := fun n =>
    (textFits_any (nm r.k 8) _ r.rd _ (f n) red_enters (tm.red_any r.rd (f n) (HE.out _ (hf n)).nums (HE.out _ (hf n)).loc)).mono (fun e w1 h => ⟨h.1, w1, (hg _ (keepW (hf n) h.2)).symm⟩)
  have H_ch : Hid (∀ n, Calls Tryz.prog 39 #[.bool (nm r.k 16), .string r.ch, .func (.func 43) #[] #[]] (f n) fun e w' => e = .returned (.bool (t_ch r)) ∧ ∃ m, w' = f m) := fun n =>
    (textFits_any (nm r.k 16) _ r.ch _ (f n) chal_enters ((pk.challenge_any r.ch (f n) (HE.out _ (hf n)).pkt).mono (fun e w1 h => ⟨h.1, by rw [h.2]; exact Below.refl _ _⟩))).mono (fun e w1 h => ⟨h.1, w1, (hg _ (keepW (hf n) h.2)).symm⟩)
  have H_cd : Hid (∀ n, Calls Tryz.prog 39 #[.bool (nm r.k 32), .string r.cd, .func (.func 40) #[] #[]] (f n) fun e w' => e = .returned (.bool (t_cd r)) ∧ ∃ m, w' = f m) := fun n =>
    (textFits_any (nm r.k 32) _ r.cd _ (f n) ident_enters (isIdentifier_any r.cd ea em eA (f n) hz.cd (HE.out _ (hf n)))).mono (fun e w1 h => ⟨h.1, w1, (hg _ (keepW (hf n) h.2)).symm⟩)
  have H_sc : Hid (∀ n, Calls Tryz.prog 44 #[.bool (nm r.k 64), v] (f n) fun e w' => e = .returned (.bool (fitL (nm r.k 64) r.ss)) ∧ ∃ m, w' = f m) := fun n =>
    (scopesFit_any (nm r.k 64) v r.ss ea em eA (f n) (hv.below (keepW hb0 (hf n))) hz.len hz.ss (HE.out _ (hf n))).mono (fun e w1 h => ⟨h.1, w1, (hg _ (keepW (hf n) h.2)).symm⟩)
  have H_at : Hid (∀ n, Calls Tryz.prog 45 #[.bool (nm r.k 128), .int .i64 r.at_] (f n) fun e w' => e = .returned (.bool (fitT (nm r.k 128) r.at_)) ∧ ∃ m, w' = f m) := fun n => (timeFits_any (nm r.k 128) r.at_ _).mono (fun e w1 h => ⟨h.1, n, h.2⟩)
  have HM : Hid (mayB r = (isK r.k && (t_id r && (t_us r && (t_cl r && (t_rd r && (t_ch r && (t_cd r && (fitL (nm r.k 64) r.ss && fitT (nm r.k 128) r.at_))))))))) := rfl
  have HB0 := hide hb0
  have HW0 := hide hW0
  have HD : Hid (W0.drew = f W0.drew) := (hg _ (Below.refl _ _).drew).symm
  have HFB := hide hf
  have c0 : ∀ n, (f n).cell? ⟨w.heap.size, 0, none⟩ = some (.int .i64 r.k) := fun n => (HC.out _ (hf n)).1
  have c1 : ∀ n, (f n).cell? ⟨w.heap.size, 1, none⟩ = some (.string r.id) := fun n => (HC.out _ (hf n)).2.1
  have c2 : ∀ n, (f n).cell? ⟨w.heap.size, 2, none⟩ = some (.string r.us) := fun n => (HC.out _ (hf n)).2.2.1
  have c3 : ∀ n, (f n).cell? ⟨w.heap.size, 3, none⟩ = some (.string r.cl) := fun n => (HC.out _ (hf n)).2.2.2.1
  have c4 : ∀ n, (f n).cell? ⟨w.heap.size, 4, none⟩ = some (.string r.rd) := fun n => (HC.out _ (hf n)).2.2.2.2.1
  have c5 : ∀ n, (f n).cell? ⟨w.heap.size, 5, none⟩ = some (.string r.ch) := fun n => (HC.out _ (hf n)).2.2.2.2.2.1
  have c6 : ∀ n, (f n).cell? ⟨w.heap.size, 6, none⟩ = some (.string r.cd) := fun n => (HC.out _ (hf n)).2.2.2.2.2.2.1
  have c7 : ∀ n, (f n).cell? ⟨w.heap.size, 7, none⟩ = some v := fun n => (HC.out _ (hf n)).2.2.2.2.2.2.2.1
  have c8 : ∀ n, (f n).cell? ⟨w.heap.size, 8, none⟩ = some (.int .i64 r.at_) := fun n => (HC.out _ (hf n)).2.2.2.2.2.2.2.2
  haveI : Nonempty World := ⟨w⟩
  generalize mayB r = M at *
  generalize isK r.k = tk at *
  generalize t_id r = t1 at *
  generalize t_us r = t2 at *
  generalize t_cl r = t3 at *
  generalize t_rd r = t4 at *
  generalize t_ch r = t5 at *
  generalize t_cd r = t6 at *
  generalize fitL (nm r.k 64) r.ss = t7 at *
  generalize fitT (nm r.k 128) r.at_ = t8 at *
  clear he hz hv he0 hb0 hW0 hf hg
  cases tk with
  | false =>
    have HT : Hid (M = false) := by show M = _; rw [HM.out]; rfl
    go_enter Tryz.func27, Tryz.ntmps27
    go_wp2_with fail
    rw [← HW0.out]
    simp only [List.append_eq, List.cons_append, List.nil_append]
    refine wp_region_cls f (by kernel_rfl) (by kernel_rfl) _ HD.out ?_
    repeat (go_big_quiet_step (first | with_reducible exact HK.out _ | with_reducible exact HN.out _ _))
    refine wpQuiet_nil ?_
    rintro _ ⟨nq, rfl⟩
    go_wp2_with fail
    go_ret
    exact ⟨by rw [HT.out]; rfl, keepW HB0.out (HFB.out nq)⟩
  | true =>
    cases t1 with
    | false =>
      have HT : Hid (M = false) := by show M = _; rw [HM.out]; simp
      go_enter Tryz.func27, Tryz.ntmps27
      go_wp2_with fail
      rw [← HW0.out]
      simp only [List.append_eq, List.cons_append, List.nil_append]
      refine wp_region_cls f (by kernel_rfl) (by kernel_rfl) _ HD.out ?_
      repeat (go_big_quiet_step (first | with_reducible exact HK.out _ | with_reducible exact HN.out _ _ | with_reducible exact H_id.out _))
      refine wpQuiet_nil ?_
      rintro _ ⟨nq, rfl⟩
      go_wp2_with fail
      go_ret
      exact ⟨by rw [HT.out]; rfl, keepW HB0.out (HFB.out nq)⟩
    | true =>
      cases t2 with
      | false =>
        have HT : Hid (M = false) := by show M = _; rw [HM.out]; simp
        go_enter Tryz.func27, Tryz.ntmps27
        go_wp2_with fail
        rw [← HW0.out]
        simp only [List.append_eq, List.cons_append, List.nil_append]
        refine wp_region_cls f (by kernel_rfl) (by kernel_rfl) _ HD.out ?_
        repeat (go_big_quiet_step (first | with_reducible exact HK.out _ | with_reducible exact HN.out _ _ | with_reducible exact H_id.out _ | with_reducible exact H_us.out _))
        refine wpQuiet_nil ?_
        rintro _ ⟨nq, rfl⟩
        go_wp2_with fail
        go_ret
        exact ⟨by rw [HT.out]; rfl, keepW HB0.out (HFB.out nq)⟩
      | true =>
        cases t3 with
        | false =>
          have HT : Hid (M = false) := by show M = _; rw [HM.out]; simp
          go_enter Tryz.func27, Tryz.ntmps27
          go_wp2_with fail
          rw [← HW0.out]
          simp only [List.append_eq, List.cons_append, List.nil_append]
          refine wp_region_cls f (by kernel_rfl) (by kernel_rfl) _ HD.out ?_
          repeat (go_big_quiet_step (first | with_reducible exact HK.out _ | with_reducible exact HN.out _ _ | with_reducible exact H_id.out _ | with_reducible exact H_us.out _ | with_reducible exact H_cl.out _))
          refine wpQuiet_nil ?_
          rintro _ ⟨nq, rfl⟩
          go_wp2_with fail
          go_ret
          exact ⟨by rw [HT.out]; rfl, keepW HB0.out (HFB.out nq)⟩
        | true =>
          cases t4 with
          | false =>
            have HT : Hid (M = false) := by show M = _; rw [HM.out]; simp
            go_enter Tryz.func27, Tryz.ntmps27
            go_wp2_with fail
            rw [← HW0.out]
            simp only [List.append_eq, List.cons_append, List.nil_append]
            refine wp_region_cls f (by kernel_rfl) (by kernel_rfl) _ HD.out ?_
            repeat (go_big_quiet_step (first | with_reducible exact HK.out _ | with_reducible exact HN.out _ _ | with_reducible exact H_id.out _ | with_reducible exact H_us.out _ | with_reducible exact H_cl.out _ | with_reducible exact H_rd.out _))
            refine wpQuiet_nil ?_
            rintro _ ⟨nq, rfl⟩
            go_wp2_with fail
            go_ret
            exact ⟨by rw [HT.out]; rfl, keepW HB0.out (HFB.out nq)⟩
          | true =>
            cases t5 with
            | false =>
              have HT : Hid (M = false) := by show M = _; rw [HM.out]; simp
              go_enter Tryz.func27, Tryz.ntmps27
              go_wp2_with fail
              rw [← HW0.out]
              simp only [List.append_eq, List.cons_append, List.nil_append]
              refine wp_region_cls f (by kernel_rfl) (by kernel_rfl) _ HD.out ?_
              repeat (go_big_quiet_step (first | with_reducible exact HK.out _ | with_reducible exact HN.out _ _ | with_reducible exact H_id.out _ | with_reducible exact H_us.out _ | with_reducible exact H_cl.out _ | with_reducible exact H_rd.out _ | with_reducible exact H_ch.out _))
              refine wpQuiet_nil ?_
              rintro _ ⟨nq, rfl⟩
              go_wp2_with fail
              go_ret
              exact ⟨by rw [HT.out]; rfl, keepW HB0.out (HFB.out nq)⟩
            | true =>
              cases t6 with
              | false =>
                have HT : Hid (M = false) := by show M = _; rw [HM.out]; simp
                go_enter Tryz.func27, Tryz.ntmps27
                go_wp2_with fail
                rw [← HW0.out]
                simp only [List.append_eq, List.cons_append, List.nil_append]
                refine wp_region_cls f (by kernel_rfl) (by kernel_rfl) _ HD.out ?_
                repeat (go_big_quiet_step (first | with_reducible exact HK.out _ | with_reducible exact HN.out _ _ | with_reducible exact H_id.out _ | with_reducible exact H_us.out _ | with_reducible exact H_cl.out _ | with_reducible exact H_rd.out _ | with_reducible exact H_ch.out _ | with_reducible exact H_cd.out _))
                refine wpQuiet_nil ?_
                rintro _ ⟨nq, rfl⟩
                go_wp2_with fail
                go_ret
                exact ⟨by rw [HT.out]; rfl, keepW HB0.out (HFB.out nq)⟩
              | true =>
                cases t7 with
                | false =>
                  have HT : Hid (M = false) := by show M = _; rw [HM.out]; simp
                  go_enter Tryz.func27, Tryz.ntmps27
                  go_wp2_with fail
                  rw [← HW0.out]
                  simp only [List.append_eq, List.cons_append, List.nil_append]
                  refine wp_region_cls f (by kernel_rfl) (by kernel_rfl) _ HD.out ?_
                  repeat (go_big_quiet_step (first | with_reducible exact HK.out _ | with_reducible exact HN.out _ _ | with_reducible exact H_id.out _ | with_reducible exact H_us.out _ | with_reducible exact H_cl.out _ | with_reducible exact H_rd.out _ | with_reducible exact H_ch.out _ | with_reducible exact H_cd.out _ | with_reducible exact H_sc.out _))
                  refine wpQuiet_nil ?_
                  rintro _ ⟨nq, rfl⟩
                  go_wp2_with fail
                  go_ret
                  exact ⟨by rw [HT.out]; rfl, keepW HB0.out (HFB.out nq)⟩
                | true =>
                  have HT : Hid (M = t8) := by show M = _; rw [HM.out]; simp
                  go_enter Tryz.func27, Tryz.ntmps27
                  go_wp2_with fail
                  rw [← HW0.out]
                  simp only [List.append_eq, List.cons_append, List.nil_append]
                  refine wp_region_cls f (by kernel_rfl) (by kernel_rfl) _ HD.out ?_
                  repeat (go_big_quiet_step (first | with_reducible exact HK.out _ | with_reducible exact HN.out _ _ | with_reducible exact H_id.out _ | with_reducible exact H_us.out _ | with_reducible exact H_cl.out _ | with_reducible exact H_rd.out _ | with_reducible exact H_ch.out _ | with_reducible exact H_cd.out _ | with_reducible exact H_sc.out _ | with_reducible exact H_at.out _))
                  refine wpQuiet_nil ?_
                  rintro _ ⟨nq, rfl⟩
                  go_wp2_with fail
                  go_ret
                  exact ⟨by rw [HT.out]; rfl, keepW HB0.out (HFB.out nq)⟩
end Go.Proofs.YtimbhneegphhbaaGreatDoor.rc
