import Derived.Test.YtilhfmhjgfmejaaGreatDoorMRcQuiet
namespace Go.Proofs.YtilhfmhjgfmejaaGreatDoor.rg
open Go.ChangeShapes Go.WideShapes Go.ChangeAt Go.RowKit Go.Proofs.YtilhfmhjgfmejaaGreatDoor.common Go.Maps
attribute [local go_sem ↓] Go.wp_at_zero Go.wp_at_succ

/-- the ten numbers, the least and the greatest that each may be -/
def tenL (t : Ten) : List Int := [t.a0, t.a1, t.a2, t.a3, t.a4, t.a5, t.a6, t.a7, t.a8, t.a9]
def loL : List Int := [1, 1, 1, 1, 1, 1, 0, 1, 0, 0]
def hiL : List Int := [1073741824, 1073741824, 1073741824, 1073741824, 1073741824, 65536, 65536, 1000, 1000, 1073741824]
def numB (t : Ten) (i : Nat) : Bool := decide (loL.getD i 0 ≤ (tenL t).getD i 0 ∧ (tenL t).getD i 0 ≤ hiL.getD i 0)
def tenB (t : Ten) : Bool := (List.range 10).all (numB t)
/-- the table of the numbers -/
def NTab (w : World) : Prop := ∀ i, i < 10 → ∃ s : ByteArray, w.cell? ⟨8, i * 3, none⟩ = some (.string s) ∧ w.cell? ⟨8, i * 3 + 1, none⟩ = some (.int .i64 (loL.getD i 0)) ∧ w.cell? ⟨8, i * 3 + 2, none⟩ = some (.int .i64 (hiL.getD i 0))
theorem NTab.below {w w' : World} (h : NTab w) (hb : Below w.heap.size w w') : NTab w' := fun i hi => by
  obtain ⟨s, h1, h2, h3⟩ := h i hi
  exact ⟨s, (hb.cell (World.block_lt_of_cell? w _ h1)).trans h1, (hb.cell (World.block_lt_of_cell? w _ h2)).trans h2, (hb.cell (World.block_lt_of_cell? w _ h3)).trans h3⟩
def fitB (t : Ten) (cs : List Cli) (us : List Usr) : Bool := tenB t && (cs.all cliB && us.all usrB)
theorem rng_take (p : Nat → Bool) (k n : Nat) (hk : k < n) (h : (List.range (k + 1)).all p = false) : (List.range n).all p = false := by
  cases hq : (List.range n).all p with
  | false => rfl
  | true =>
    rw [List.all_eq_true] at hq
    have : (List.range (k + 1)).all p = true := List.all_eq_true.2 fun i hi => hq i (List.mem_range.2 (by have := List.mem_range.1 hi; omega))
    rw [this] at h; cases h

set_option maxRecDepth 100000 in
set_option maxHeartbeats 3200000 in
theorem isFit_any (w : World) (t : Ten) (vC vU : Value) (cs : List Cli) (us : List Usr) (eT eM : Addr) (hC : LiesC w vC cs) (hU : LiesU w vU us) (he : TEnv eT eM w) (hn : NTab w) (hcs : cs.length ≤ 4611686018427387904) (hus : us.length ≤ 4611686018427387904) (hci : ∀ x ∈ cs, x.id.size ≤ 4611686018427387904 ∧ x.to.length ≤ 4611686018427387904 ∧ x.sc.length ≤ 4611686018427387904 ∧ ∀ s ∈ x.sc, s.size ≤ 4294967200) (hui : ∀ u ∈ us, u.name.size ≤ 4611686018427387904) :
    Calls Tryz.prog 14 #[.agg #[.int .i64 t.a0, .int .i64 t.a1, .int .i64 t.a2, .int .i64 t.a3, .int .i64 t.a4, .int .i64 t.a5, .int .i64 t.a6, .int .i64 t.a7, .int .i64 t.a8, .int .i64 t.a9, vC, vU]] w fun e w' => e = .returned (.bool (fitB t cs us)) ∧ Below w.heap.size w w' := by
  have HAC : Hid (∀ Y, Below w.heap.size w Y → Calls Tryz.prog 30 #[vC, .func (.func 31) #[] #[]] Y fun e w' => e = .returned (.bool (cs.all cliB)) ∧ Below Y.heap.size Y w') := fun Y hY => allC_any _ cliB vC cs Y (hC.below hY) hcs client_enters (fun x hx W vR vS hW h1 h2 => isClient_any x vR vS eT eM W h1 h2 (he.below (keepW hY hW)) (hci x hx).1 (hci x hx).2.1 (hci x hx).2.2.1 (hci x hx).2.2.2)
  have HAU : Hid (∀ Y, Below w.heap.size w Y → Calls Tryz.prog 32 #[vU, .func (.func 33) #[] #[]] Y fun e w' => e = .returned (.bool (us.all usrB)) ∧ Below Y.heap.size Y w') := fun Y hY => allU_any _ usrB vU us Y (hU.below hY) hus user_enters (fun x hx W _ => isUser_any x W (hui x hx))
  have HNT := hide hn
  obtain ⟨oC, cC, rfl, _⟩ := hC
  obtain ⟨oU, cU, rfl, _⟩ := hU
  have hb := heap_new w (.cells #[.int .i64 t.a0, .int .i64 t.a1, .int .i64 t.a2, .int .i64 t.a3, .int .i64 t.a4, .int .i64 t.a5, .int .i64 t.a6, .int .i64 t.a7, .int .i64 t.a8, .int .i64 t.a9, .slice oC cs.length cC, .slice oU us.length cU] 25)
  have HB : Hid (Below w.heap.size w (w.alloc (.cells #[.int .i64 t.a0, .int .i64 t.a1, .int .i64 t.a2, .int .i64 t.a3, .int .i64 t.a4, .int .i64 t.a5, .int .i64 t.a6, .int .i64 t.a7, .int .i64 t.a8, .int .i64 t.a9, .slice oC cs.length cC, .slice oU us.length cU] 25))) := (Below.refl _ _).alloc (Nat.le_refl _) _
  have HX : Hid (∀ Y, Below (w.alloc (.cells #[.int .i64 t.a0, .int .i64 t.a1, .int .i64 t.a2, .int .i64 t.a3, .int .i64 t.a4, .int .i64 t.a5, .int .i64 t.a6, .int .i64 t.a7, .int .i64 t.a8, .int .i64 t.a9, .slice oC cs.length cC, .slice oU us.length cU] 25)).heap.size (w.alloc (.cells #[.int .i64 t.a0, .int .i64 t.a1, .int .i64 t.a2, .int .i64 t.a3, .int .i64 t.a4, .int .i64 t.a5, .int .i64 t.a6, .int .i64 t.a7, .int .i64 t.a8, .int .i64 t.a9, .slice oC cs.length cC, .slice oU us.length cU] 25)) Y → (∀ i, i < 10 → Y.cell? ⟨w.heap.size, i, none⟩ = some (.int .i64 ((tenL t).getD i 0))) ∧ Y.cell? ⟨w.heap.size, 10, none⟩ = some (.slice oC cs.length cC) ∧ Y.cell? ⟨w.heap.size, 11, none⟩ = some (.slice oU us.length cU)) := fun Y hY => by
    have h9 := (hY.block w.heap.size (Array.getElem?_eq_some_iff.1 hb).1).trans hb
    refine ⟨fun i hi => ?_, cell_of h9 10, cell_of h9 11⟩
    match i, hi with
    | 0, _ => exact cell_of h9 0
    | 1, _ => exact cell_of h9 1
    | 2, _ => exact cell_of h9 2
    | 3, _ => exact cell_of h9 3
    | 4, _ => exact cell_of h9 4
    | 5, _ => exact cell_of h9 5
    | 6, _ => exact cell_of h9 6
    | 7, _ => exact cell_of h9 7
    | 8, _ => exact cell_of h9 8
    | 9, _ => exact cell_of h9 9
  have HPL := hide (places_any w.heap.size (w.alloc (.cells #[.int .i64 t.a0, .int .i64 t.a1, .int .i64 t.a2, .int .i64 t.a3, .int .i64 t.a4, .int .i64 t.a5, .int .i64 t.a6, .int .i64 t.a7, .int .i64 t.a8, .int .i64 t.a9, .slice oC cs.length cC, .slice oU us.length cU] 25)))
  have HQ : Hid (fitB t cs us = ((List.range 10).all (numB t) && (cs.all cliB && us.all usrB))) := rfl
  generalize fitB t cs us = r at *
  generalize cs.all cliB = qc at *
  generalize us.all usrB = qu at *
  clear hb he hn hci hui
  go_enter Tryz.func14, Tryz.ntmps14
  go_wp2_with fail
  generalize w.alloc (.cells #[.int .i64 t.a0, .int .i64 t.a1, .int .i64 t.a2, .int .i64 t.a3, .int .i64 t.a4, .int .i64 t.a5, .int .i64 t.a6, .int .i64 t.a7, .int .i64 t.a8, .int .i64 t.a9, .slice oC cs.length cC, .slice oU us.length cU] 25) = V at *
  refine HPL.out.mono ?_
  rintro x w1 ⟨rfl, hpc, b1⟩
  have HPC := hide hpc
  have HB1 := hide (keepW HB.out b1)
  have HV1 := hide b1
  clear hpc b1 HPL
  go_wp2_with fail
  go_loopw [7] (fun i wr => ∃ k : Nat, k ≤ 10 ∧ i = .int .i64 k ∧ Hid ((List.range k).all (numB t) = true) ∧ Hid (Below w1.heap.size w1 wr)) (fun i _ => 10 - (intOf i).toNat)
  case atStart => exact ⟨0, by omega, rfl, rfl, Below.refl _ _⟩
  case round =>
    obtain ⟨k, hk, rfl, HA, HBr⟩ := hrel
    by_cases hlt : k < 10
    · have k1 : (k : Int) < 10 := by omega
      have k0 : (0 : Int) ≤ (k : Int) := Int.natCast_nonneg _
      have pc := (HBr.out.cell (p := ⟨V.heap.size, k, none⟩) (World.block_lt_of_cell? w1 _ (HPC.out k hlt))).trans (HPC.out k hlt)
      obtain ⟨f, hf, hg9⟩ := rc.class_of wr
      have hW : ∀ n, Below w.heap.size w (f n) := fun n => keepW (keepW HB1.out HBr.out) (hf n)
      have hVV : ∀ n, Below V.heap.size V (f n) := fun n => keepW (keepW HV1.out HBr.out) (hf n)
      obtain ⟨s, n1, n2, n3⟩ := HNT.out k hlt
      have e1 : ∀ n, (f n).cell? ⟨8, k * 3, none⟩ = some (.string s) := fun n => ((hW n).cell (World.block_lt_of_cell? w _ n1)).trans n1
      have e2 : ∀ n, (f n).cell? ⟨8, k * 3 + 1, none⟩ = some (.int .i64 (loL.getD k 0)) := fun n => ((hW n).cell (World.block_lt_of_cell? w _ n2)).trans n2
      have e3 : ∀ n, (f n).cell? ⟨8, k * 3 + 2, none⟩ = some (.int .i64 (hiL.getD k 0)) := fun n => ((hW n).cell (World.block_lt_of_cell? w _ n3)).trans n3
      have e4 : ∀ n, (f n).cell? ⟨w.heap.size, k, none⟩ = some (.int .i64 ((tenL t).getD k 0)) := fun n => (HX.out _ (hVV n)).1 k hlt
      have HTK : Hid (∀ n, Calls Tryz.prog 29 #[.agg #[.string s, .int .i64 (loL.getD k 0), .int .i64 (hiL.getD k 0)], .int .i64 ((tenL t).getD k 0)] (f n) fun e w' => e = .returned (.bool (numB t k)) ∧ ∃ m, w' = f m) := fun n => (takes_any s _ _ _ (f n)).mono fun e w' h => ⟨h.1, w', (hg9 _ (keepW (hf n) h.2)).symm⟩
      have HSU : Hid ((List.range (k + 1)).all (numB t) = ((List.range k).all (numB t) && numB t k)) := by show _ = _; rw [List.range_succ, List.all_append]; simp
      have HRT := hide (rng_take (numB t) k 10 hlt)
      generalize loL.getD k 0 = lo at *
      generalize hiL.getD k 0 = hi at *
      generalize (tenL t).getD k 0 = va at *
      generalize numB t k = q at *
      have HD : Hid (wr.drew = f wr.drew) := (hg9 _ (Below.refl _ _).drew).symm
      have HFB := hide hf
      haveI : Nonempty World := ⟨w⟩
      clear hf hg9 hW hVV n1 n2 n3
      cases q with
      | true =>
        have HN : Hid ((List.range (k + 1)).all (numB t) = true) := by show _ = _; rw [HSU.out, HA.out]; rfl
        go_wp2_with fail
        refine rc.wp_region_cls f (by kernel_rfl) (by kernel_rfl) _ HD.out ?_
        repeat (go_big_quiet_step (with_reducible exact HTK.out _))
        refine wpQuiet_nil ?_
        rintro _ ⟨nq, rfl⟩
        go_wp2_with fail
        go_roundw
        case rel => exact ⟨k + 1, by omega, by go_num, HN, keepW HBr.out (HFB.out nq)⟩
        case measure => simp [intOf]; omega
      | false =>
        have HT : Hid (r = false) := by show _ = _; rw [HQ.out, HRT.out (by rw [HSU.out, Bool.and_false])]; rfl
        go_wp2_with fail
        refine rc.wp_region_cls f (by kernel_rfl) (by kernel_rfl) _ HD.out ?_
        repeat (go_big_quiet_step (with_reducible exact HTK.out _))
        refine wpQuiet_nil ?_
        rintro _ ⟨nq, rfl⟩
        go_wp2_with fail
        go_ret
        exact ⟨by rw [HT.out] <;> rfl, keepW (keepW HB1.out HBr.out) (HFB.out nq)⟩
    · have k1 : ¬ (k : Int) < 10 := by omega
      obtain rfl : k = 10 := by omega
      have HWr := hide (keepW HB1.out HBr.out)
      have HVr := hide (keepW HV1.out HBr.out)
      obtain ⟨_, p10, p11⟩ := HX.out _ HVr.out
      have HC1 := hide (HAC.out wr HWr.out)
      have HT : Hid (r = (qc && qu)) := by show _ = _; rw [HQ.out, HA.out]; rfl
      clear hlt hk
      cases qc with
      | false =>
        go_wp2_with (go_at_call 30; refine HC1.out.mono ?_; rintro x w2 ⟨rfl, b2⟩)
        have HB2 := hide (keepW HWr.out b2)
        go_ret
        exact ⟨by rw [HT.out] <;> rfl, HB2.out⟩
      | true =>
        go_wp2_with (first
          | (go_at_call 30; refine HC1.out.mono ?_; rintro x w2 ⟨rfl, b2⟩; obtain ⟨_, q10, q11⟩ := HX.out _ (keepW HVr.out b2); have HB2 := hide (keepW HWr.out b2); clear b2)
          | (go_at_call 32; refine (HAU.out _ HB2.out).mono ?_; rintro x w3 ⟨rfl, b3⟩; have HB3 := hide (keepW HB2.out b3); clear b3))
        go_ret
        exact ⟨by rw [HT.out] <;> rfl, HB3.out⟩
end Go.Proofs.YtilhfmhjgfmejaaGreatDoor.rg
