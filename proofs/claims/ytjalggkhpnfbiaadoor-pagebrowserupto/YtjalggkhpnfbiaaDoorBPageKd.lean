import Derived.Test.YtjalggkhpnfbiaaDoorBPageCl
namespace Go.Proofs.YtjalggkhpnfbiaaDoor.pg
open Go.ChangeShapes Go.WideShapes Go.ChangeAt Go.RowKit Go.Proofs.YtjalggkhpnfbiaaDoor.common Go.Maps
attribute [local go_sem ↓] Go.wp_at_zero Go.wp_at_succ

/-- the table of kinds -/
abbrev kindsA : Array Value := #[.nilFunc, .nilFunc, .func (.func 29) #[] #[], .func (.func 30) #[] #[], .func (.func 28) #[] #[], .func (.func 32) #[] #[], .func (.func 33) #[] #[], .func (.func 34) #[] #[], .func (.func 28) #[] #[], .func (.func 35) #[] #[]]
set_option maxRecDepth 100000 in
set_option maxHeartbeats 800000 in
theorem inputKinds_any (w : World) :
    Calls Tryd.prog 14 #[] w fun e w' => e = .returned (.slice (some ⟨w.heap.size, 0, none⟩) 5 5) ∧ w' = w.alloc (.cells kindsA 79) := by
  go_enter Tryd.func14, Tryd.ntmps14
  go_wp2_with fail
  go_ret
  exact ⟨rfl, rfl⟩

set_option maxRecDepth 100000 in
theorem any_any (x : Inp) (w : World) :
    Calls Tryd.prog 28 #[inV x] w fun e w' => e = .returned (.bool true) ∧ Below w.heap.size w w' := by
  unfold inV
  go_enter Tryd.func28, Tryd.ntmps28
  go_wp2_with fail
  go_ret
  exact ⟨rfl, (Below.refl _ _).alloc (Nat.le_refl _) _⟩
def emp (s : ByteArray) : Bool := s.toList.isEmpty
set_option maxRecDepth 100000 in
theorem noLabel_any (x : Inp) (w : World) :
    Calls Tryd.prog 29 #[inV x] w fun e w' => e = .returned (.bool (emp x.label)) ∧ Below w.heap.size w w' := by
  unfold inV
  go_enter Tryd.func29, Tryd.ntmps29
  go_wp2_with fail
  go_ret
  exact ⟨rfl, (Below.refl _ _).alloc (Nat.le_refl _) _⟩
set_option maxRecDepth 100000 in
theorem noValue_any (x : Inp) (w : World) :
    Calls Tryd.prog 33 #[inV x] w fun e w' => e = .returned (.bool (emp x.value)) ∧ Below w.heap.size w w' := by
  unfold inV
  go_enter Tryd.func33, Tryd.ntmps33
  go_wp2_with fail
  go_ret
  exact ⟨rfl, (Below.refl _ _).alloc (Nat.le_refl _) _⟩

/-- may an input be so? -/
def mayB (x : Inp) : Bool := !emp x.name && (if x.kind = 1 then emp x.label else if x.kind = 2 then true else if x.kind = 3 then emp x.value else if x.kind = 4 then true else false)

theorem kt_cell {w : World} {g : Nat} (h : w.heap[g]? = some (.cells kindsA 79)) (i : Nat) (u : Value) (hi : kindsA[i]? = some u) : w.cell? ⟨g, i, none⟩ = some u := by
  simp only [World.cell?, h]
  exact hi
theorem bd_kinds {w : World} {b : Nat} {v : Value} {l : List UInt8} (h : Bd w b 56 [v] l) : w.cell? ⟨b, 2, none⟩ = some v := by
  obtain ⟨p, u, _, hb, _⟩ := h.is
  simp [World.cell?, hb]

set_option maxRecDepth 100000 in
set_option maxHeartbeats 1600000 in
theorem wMayBe_any (b g : Nat) (w : World) (l : List UInt8) (x : Inp) (h : Bd w b 56 [.slice (some ⟨g, 0, none⟩) 5 5] l) (hg : w.heap[g]? = some (.cells kindsA 79)) :
    Calls Tryd.prog 15 #[ptr b, inV x] w fun e w' => e = .returned (.bool (mayB x)) ∧ Below w.heap.size w w' := by
  obtain ⟨kd, nm, vl, lb⟩ := x
  have B1 : Below w.heap.size w (w.alloc (.cells #[.int .i64 kd, .string nm, .string vl, .string lb] 28)) := (Below.refl _ _).alloc (Nat.le_refl _) _
  have cK := bd_kinds (h.next B1)
  have HG := hide ((B1.block g (Array.getElem?_eq_some_iff.1 hg).1).trans hg)
  have HB1 := hide B1
  clear B1 h hg
  by_cases hk0 : kd ≤ 0
  · have HM : Hid (mayB ⟨kd, nm, vl, lb⟩ = false) := by
      show _ = _
      unfold mayB
      simp only
      rw [if_neg (by omega), if_neg (by omega), if_neg (by omega), if_neg (by omega), Bool.and_false]
    unfold inV
    go_enter Tryd.func15, Tryd.ntmps15
    go_wp2_with fail
    go_quiet (fail)
    go_wp2_with fail
    go_ret
    exact ⟨by rw [HM.out]; rfl, ⟨HB1.out.os, HB1.out.tape, HB1.out.output, HB1.out.size, HB1.out.block⟩⟩
  by_cases hk5 : 5 ≤ kd
  · have HM : Hid (mayB ⟨kd, nm, vl, lb⟩ = false) := by
      show _ = _
      unfold mayB
      simp only
      rw [if_neg (by omega), if_neg (by omega), if_neg (by omega), if_neg (by omega), Bool.and_false]
    unfold inV
    go_enter Tryd.func15, Tryd.ntmps15
    go_wp2_with fail
    go_quiet (fail)
    go_wp2_with fail
    go_ret
    exact ⟨by rw [HM.out]; rfl, ⟨HB1.out.os, HB1.out.tape, HB1.out.output, HB1.out.size, HB1.out.block⟩⟩
  have hk : kd = 1 ∨ kd = 2 ∨ kd = 3 ∨ kd = 4 := by omega
  clear hk0 hk5
  have hI : (w.alloc (.cells #[.int .i64 kd, .string nm, .string vl, .string lb] 28)).heap[w.heap.size]? = some (.cells #[.int .i64 kd, .string nm, .string vl, .string lb] 28) := by show (w.heap.push _)[w.heap.size]? = _; simp
  have hlt1 := (Array.getElem?_eq_some_iff.1 hI).1
  have hltg := (Array.getElem?_eq_some_iff.1 HG.out).1
  have hltb := World.block_lt_of_cell? _ _ cK
  have HI := hide hI
  unfold inV
  generalize hW : w.alloc (.cells #[.int .i64 kd, .string nm, .string vl, .string lb] 28) = W at *
  have HWE := hide hW
  have y0 : ∀ Y, Below W.heap.size W Y → Y.cell? ⟨w.heap.size, 0, none⟩ = some (.int .i64 kd) := fun Y hY => by have := (hY.block _ hlt1).trans HI.out; simp [World.cell?, this]
  have y1 : ∀ Y, Below W.heap.size W Y → Y.cell? ⟨w.heap.size, 1, none⟩ = some (.string nm) := fun Y hY => by have := (hY.block _ hlt1).trans HI.out; simp [World.cell?, this]
  have y2 : ∀ Y, Below W.heap.size W Y → Y.cell? ⟨w.heap.size, 0 + 1, none⟩ = some (.string nm) := fun Y hY => by have := (hY.block _ hlt1).trans HI.out; simp [World.cell?, this]
  have y3 : ∀ Y, Below W.heap.size W Y → Y.cell? ⟨w.heap.size, 0 + 2, none⟩ = some (.string vl) := fun Y hY => by have := (hY.block _ hlt1).trans HI.out; simp [World.cell?, this]
  have y4 : ∀ Y, Below W.heap.size W Y → Y.cell? ⟨w.heap.size, 0 + 3, none⟩ = some (.string lb) := fun Y hY => by have := (hY.block _ hlt1).trans HI.out; simp [World.cell?, this]
  have y5 : ∀ Y, Below W.heap.size W Y → Y.cell? ⟨b, 2, none⟩ = some (.slice (some ⟨g, 0, none⟩) 5 5) := fun Y hY => (hY.cell (p := ⟨b, 2, none⟩) hltb).trans cK
  have y6 : ∀ Y, Below W.heap.size W Y → Y.heap[g]? = some (.cells kindsA 79) := fun Y hY => (hY.block _ hltg).trans HG.out
  have Y6 := hide y6
  clear y6 hW
  have z0 := y0 W (Below.refl _ _)
  have z5 := y5 W (Below.refl _ _)
  have hN : ∀ n, Below W.heap.size W (W.drewN n) := fun n => ⟨rfl, rfl, rfl, Nat.le_refl _, fun _ _ => rfl⟩
  have HWB := hide hN
  have z1 : ∀ n, (W.drewN n).cell? ⟨w.heap.size, 1, none⟩ = some (.string nm) := fun n => y1 _ (hN n)
  clear hN hI HI
  rcases hk with rfl | rfl | rfl | rfl
  · have y7 : ∀ Y, Below W.heap.size W Y → Y.cell? ⟨g, 2, none⟩ = some (.func (.func 29) #[] #[]) := fun Y hY => kt_cell (Y6.out Y hY) 2 _ rfl
    obtain ⟨en, hen⟩ : ∃ en, nm.toList.isEmpty = en := ⟨_, rfl⟩
    obtain ⟨R, hR⟩ : ∃ R, (emp lb) = R := ⟨_, rfl⟩
    have HM : Hid (mayB ⟨1, nm, vl, lb⟩ = (!en && R)) := by show _ = _; unfold mayB; rw [← hen, ← hR]; rfl
    have HC : Hid (∀ Y, Calls Tryd.prog 29 #[.agg #[.int .i64 1, .string nm, .string vl, .string lb]] Y fun e w' => e = .returned (.bool R) ∧ Below Y.heap.size Y w') := fun Y => by rw [← hR]; exact noLabel_any ⟨1, nm, vl, lb⟩ Y
    clear hR
    cases en with
    | true =>
      go_enter Tryd.func15, Tryd.ntmps15
      go_wp2_with fail
      rw [HWE.out]
      go_quiet (fail)
      go_wp2_with fail
      go_quiet (fail)
      go_wp2_with fail
      go_ret
      exact ⟨by rw [HM.out]; rfl, ⟨HB1.out.os, HB1.out.tape, HB1.out.output, HB1.out.size, HB1.out.block⟩⟩
    | false =>
      go_enter Tryd.func15, Tryd.ntmps15
      go_wp2_with fail
      rw [HWE.out]
      go_quiet (fail)
      go_wp2_with fail
      have hb0 := HWB.out nq
      go_region_held3 (fun Y => Below W.heap.size W Y)
        (first
          | assumption
          | exact (HWB.out _).drew
          | exact HWB.out _
          | exact (HWB.out _).trans (by assumption : Below (W.drewN _).heap.size (W.drewN _) _))
        ((go_at_call 29; refine (HC.out _).mono ?_; rintro e w5 ⟨rfl, b5⟩))
      have HZ : Hid (Below w.heap.size w w5) := HB1.out.trans ((by assumption : Below W.heap.size W w5).mono HB1.out.size)
      clear b5 hb0
      go_wp2_with fail
      go_ret
      exact ⟨by rw [HM.out]; cases R <;> rfl, HZ.out⟩
  · have y7 : ∀ Y, Below W.heap.size W Y → Y.cell? ⟨g, 4, none⟩ = some (.func (.func 28) #[] #[]) := fun Y hY => kt_cell (Y6.out Y hY) 4 _ rfl
    obtain ⟨en, hen⟩ : ∃ en, nm.toList.isEmpty = en := ⟨_, rfl⟩
    obtain ⟨R, hR⟩ : ∃ R, (true) = R := ⟨_, rfl⟩
    have HM : Hid (mayB ⟨2, nm, vl, lb⟩ = (!en && R)) := by show _ = _; unfold mayB; rw [← hen, ← hR]; rfl
    have HC : Hid (∀ Y, Calls Tryd.prog 28 #[.agg #[.int .i64 2, .string nm, .string vl, .string lb]] Y fun e w' => e = .returned (.bool R) ∧ Below Y.heap.size Y w') := fun Y => by rw [← hR]; exact any_any ⟨2, nm, vl, lb⟩ Y
    clear hR
    cases en with
    | true =>
      go_enter Tryd.func15, Tryd.ntmps15
      go_wp2_with fail
      rw [HWE.out]
      go_quiet (fail)
      go_wp2_with fail
      go_quiet (fail)
      go_wp2_with fail
      go_ret
      exact ⟨by rw [HM.out]; rfl, ⟨HB1.out.os, HB1.out.tape, HB1.out.output, HB1.out.size, HB1.out.block⟩⟩
    | false =>
      go_enter Tryd.func15, Tryd.ntmps15
      go_wp2_with fail
      rw [HWE.out]
      go_quiet (fail)
      go_wp2_with fail
      have hb0 := HWB.out nq
      go_region_held3 (fun Y => Below W.heap.size W Y)
        (first
          | assumption
          | exact (HWB.out _).drew
          | exact HWB.out _
          | exact (HWB.out _).trans (by assumption : Below (W.drewN _).heap.size (W.drewN _) _))
        ((go_at_call 28; refine (HC.out _).mono ?_; rintro e w5 ⟨rfl, b5⟩))
      have HZ : Hid (Below w.heap.size w w5) := HB1.out.trans ((by assumption : Below W.heap.size W w5).mono HB1.out.size)
      clear b5 hb0
      go_wp2_with fail
      go_ret
      exact ⟨by rw [HM.out]; cases R <;> rfl, HZ.out⟩
  · have y7 : ∀ Y, Below W.heap.size W Y → Y.cell? ⟨g, 6, none⟩ = some (.func (.func 33) #[] #[]) := fun Y hY => kt_cell (Y6.out Y hY) 6 _ rfl
    obtain ⟨en, hen⟩ : ∃ en, nm.toList.isEmpty = en := ⟨_, rfl⟩
    obtain ⟨R, hR⟩ : ∃ R, (emp vl) = R := ⟨_, rfl⟩
    have HM : Hid (mayB ⟨3, nm, vl, lb⟩ = (!en && R)) := by show _ = _; unfold mayB; rw [← hen, ← hR]; rfl
    have HC : Hid (∀ Y, Calls Tryd.prog 33 #[.agg #[.int .i64 3, .string nm, .string vl, .string lb]] Y fun e w' => e = .returned (.bool R) ∧ Below Y.heap.size Y w') := fun Y => by rw [← hR]; exact noValue_any ⟨3, nm, vl, lb⟩ Y
    clear hR
    cases en with
    | true =>
      go_enter Tryd.func15, Tryd.ntmps15
      go_wp2_with fail
      rw [HWE.out]
      go_quiet (fail)
      go_wp2_with fail
      go_quiet (fail)
      go_wp2_with fail
      go_ret
      exact ⟨by rw [HM.out]; rfl, ⟨HB1.out.os, HB1.out.tape, HB1.out.output, HB1.out.size, HB1.out.block⟩⟩
    | false =>
      go_enter Tryd.func15, Tryd.ntmps15
      go_wp2_with fail
      rw [HWE.out]
      go_quiet (fail)
      go_wp2_with fail
      have hb0 := HWB.out nq
      go_region_held3 (fun Y => Below W.heap.size W Y)
        (first
          | assumption
          | exact (HWB.out _).drew
          | exact HWB.out _
          | exact (HWB.out _).trans (by assumption : Below (W.drewN _).heap.size (W.drewN _) _))
        ((go_at_call 33; refine (HC.out _).mono ?_; rintro e w5 ⟨rfl, b5⟩))
      have HZ : Hid (Below w.heap.size w w5) := HB1.out.trans ((by assumption : Below W.heap.size W w5).mono HB1.out.size)
      clear b5 hb0
      go_wp2_with fail
      go_ret
      exact ⟨by rw [HM.out]; cases R <;> rfl, HZ.out⟩
  · have y7 : ∀ Y, Below W.heap.size W Y → Y.cell? ⟨g, 8, none⟩ = some (.func (.func 28) #[] #[]) := fun Y hY => kt_cell (Y6.out Y hY) 8 _ rfl
    obtain ⟨en, hen⟩ : ∃ en, nm.toList.isEmpty = en := ⟨_, rfl⟩
    obtain ⟨R, hR⟩ : ∃ R, (true) = R := ⟨_, rfl⟩
    have HM : Hid (mayB ⟨4, nm, vl, lb⟩ = (!en && R)) := by show _ = _; unfold mayB; rw [← hen, ← hR]; rfl
    have HC : Hid (∀ Y, Calls Tryd.prog 28 #[.agg #[.int .i64 4, .string nm, .string vl, .string lb]] Y fun e w' => e = .returned (.bool R) ∧ Below Y.heap.size Y w') := fun Y => by rw [← hR]; exact any_any ⟨4, nm, vl, lb⟩ Y
    clear hR
    cases en with
    | true =>
      go_enter Tryd.func15, Tryd.ntmps15
      go_wp2_with fail
      rw [HWE.out]
      go_quiet (fail)
      go_wp2_with fail
      go_quiet (fail)
      go_wp2_with fail
      go_ret
      exact ⟨by rw [HM.out]; rfl, ⟨HB1.out.os, HB1.out.tape, HB1.out.output, HB1.out.size, HB1.out.block⟩⟩
    | false =>
      go_enter Tryd.func15, Tryd.ntmps15
      go_wp2_with fail
      rw [HWE.out]
      go_quiet (fail)
      go_wp2_with fail
      have hb0 := HWB.out nq
      go_region_held3 (fun Y => Below W.heap.size W Y)
        (first
          | assumption
          | exact (HWB.out _).drew
          | exact HWB.out _
          | exact (HWB.out _).trans (by assumption : Below (W.drewN _).heap.size (W.drewN _) _))
        ((go_at_call 28; refine (HC.out _).mono ?_; rintro e w5 ⟨rfl, b5⟩))
      have HZ : Hid (Below w.heap.size w w5) := HB1.out.trans ((by assumption : Below W.heap.size W w5).mono HB1.out.size)
      clear b5 hb0
      go_wp2_with fail
      go_ret
      exact ⟨by rw [HM.out]; cases R <;> rfl, HZ.out⟩
end Go.Proofs.YtjalggkhpnfbiaaDoor.pg
