import Derived.Test.YtkmhhodapnlkiaaDoorSchedWalks
import Derived.Deep.DeepCutAuto
namespace Go.Proofs.YtkmhhodapnlkiaaDoor.shaw
open Go.ChangeShapes Go.WideShapes Go.ChangeAt Go.RowKit Go.Proofs.YtkmhhodapnlkiaaDoor.common
attribute [local go_sem ↓] Go.wp_at_zero Go.wp_at_succ

/-- the round words lie in their table -/
def RW (w : World) : Prop := ∀ i : Nat, i < 64 → w.cell? ⟨5, i, none⟩ = some (V (Sha.K.getD i 0#32))

theorem RW.lt {w : World} (h : RW w) : 5 < w.heap.size := World.block_lt_of_cell? w _ (h 0 (by decide))
theorem RW.below {w w' : World} {B : Nat} (h : RW w) (hb : Below B w w') (hB : 5 < B) : RW w' := fun i hi => by
  rw [← h i hi]; exact hb.cell (p := ⟨5, i, none⟩) hB

theorem w_add (a b : BitVec 32) : IntKind.u32.wrap ((a.toNat : Int) + (b.toNat : Int)) = ((a + b).toNat : Int) := by rw [wrap_u, b_add]

theorem b_notmax (a : BitVec 32) : bits .xor .u32 IntKind.u32.max (a.toNat : Int) = ((~~~a).toNat : Int) := by
  have hm : IntKind.u32.max = ((4294967295#32).toNat : Int) := by decide
  rw [hm, b_xor]
  have : 4294967295#32 ^^^ a = ~~~a := by
    apply BitVec.eq_of_getLsbD_eq; intro i hi
    have f : (4294967295#32).getLsbD i = true := by
      have : ∀ k : Fin 32, (4294967295#32).getLsbD k.val = true := by decide
      exact this ⟨i, hi⟩
    simp only [BitVec.getLsbD_xor, f, BitVec.getLsbD_not, hi]; simp
  rw [this]

theorem size8 : (Tryd.prog.info? 38).map (·.size) = some 8 := by kernel_rfl

theorem sched_vals (p : List UInt8) : ((Sha.sched p 64).map V).length = 64 := by simp [Sha.sched_length]

/-- what a piece's rounds find in memory -/
structure Found (w W : World) (g : Nat) (v : Sha.St) (LL : List Value) : Prop where
  st : W.rangeAt w.heap.size 0 [V v.a, V v.b, V v.c, V v.d, V v.e, V v.f, V v.g, V v.h]
  out : W.there (w.heap.size + 1) 0 8
  plan : W.rangeAt g 0 LL
  rw : RW W
  below : Below w.heap.size w W

theorem Found.drewN {w W : World} {g : Nat} {v : Sha.St} {LL : List Value} (h : Found w W g v LL) (n : Nat) : Found w (W.drewN n) g v LL :=
  ⟨h.st, h.out, h.plan, h.rw, below_drewN h.below n⟩

theorem found_at {w w1 : World} {v : Sha.St} {LL : List Value} (C D : Array Value) (t : TypeId) (hD : D.size = 8) (hC : C.size = LL.length) (hk : RW w)
    (hb1 : Below ((w.alloc (.cells #[V v.a, V v.b, V v.c, V v.d, V v.e, V v.f, V v.g, V v.h] 38)).alloc (.cells D 38)).heap.size ((w.alloc (.cells #[V v.a, V v.b, V v.c, V v.d, V v.e, V v.f, V v.g, V v.h] 38)).alloc (.cells D 38)) w1) :
    Found w ((w1.alloc (.cells C t)).setCells w1.heap.size 0 LL) w1.heap.size v LL := by
  have hz : w.heap.size + 2 ≤ w1.heap.size := by have := hb1.size; simpa using this
  have b1 : Below w1.heap.size w1 ((w1.alloc (.cells C t)).setCells w1.heap.size 0 LL) := below_setCells ((Below.refl w1.heap.size w1).alloc (Nat.le_refl _) _) (Nat.le_refl _) _ _
  have r0 : ((w.alloc (.cells #[V v.a, V v.b, V v.c, V v.d, V v.e, V v.f, V v.g, V v.h] 38)).alloc (.cells D 38)).rangeAt w.heap.size 0 [V v.a, V v.b, V v.c, V v.d, V v.e, V v.f, V v.g, V v.h] := World.rangeAt_alloc (range_new_at w _ _ _ _ rfl rfl) _
  have t0 : ((w.alloc (.cells #[V v.a, V v.b, V v.c, V v.d, V v.e, V v.f, V v.g, V v.h] 38)).alloc (.cells D 38)).there (w.heap.size + 1) 0 8 := there_new_at (w.alloc _) D _ _ _ (by simp) hD.symm
  have b2 : Below w.heap.size w w1 := (((Below.refl w.heap.size w).alloc (Nat.le_refl _) _).alloc (by simp) _).trans (hb1.mono (by simp; omega))
  refine ⟨?_, ?_, ?_, ?_, ?_⟩
  · exact range_below (range_below r0 hb1 (by simp; omega)) b1 (by omega)
  · exact there_below (there_below t0 hb1 (by simp)) b1 (by omega)
  · exact World.rangeAt_setCells_same _ _ _ _ (there_new_at w1 C _ _ _ rfl hC.symm)
  · exact (hk.below b2 hk.lt).below b1 (by have := hk.lt; omega)
  · exact b2.trans (b1.mono (by omega))

set_option maxRecDepth 100000 in
set_option maxHeartbeats 800000 in
theorem takePiece_any (v : Sha.St) (pb po : Nat) (p : List UInt8) (hp : p.length = 64) (w : World) (hc : w.rangeAt pb po (p.map B)) (hk : RW w) :
    Calls Tryd.prog 33 #[.agg #[V v.a, V v.b, V v.c, V v.d, V v.e, V v.f, V v.g, V v.h], .pointer (some ⟨pb, po, none⟩)] w fun e w' => e = .returned (.agg ((Sha.words (Sha.comp v p)).map V).toArray) ∧ Below w.heap.size w w' := by
  have HC := hide hc
  have HK := hide hk
  have HP := hide hp
  clear hc hk hp
  obtain ⟨R, hR⟩ : ∃ R, (Sha.words (Sha.comp v p)).map V = R := ⟨_, rfl⟩
  rw [hR]
  have HRR := hide hR
  clear hR
  go_enter Tryd.func33, Tryd.ntmps33
  go_upto_region 1 with fail
  go_cut [5] (fun s wx => ∃ g, s = .pointer (some ⟨g, 0, none⟩) ∧ Found w wx g v ((Sha.sched p 64).map V))
  case first =>
    go_wp2_with fail
    refine (schedule_any pb po p HP.out _ (World.rangeAt_alloc (World.rangeAt_alloc HC.out _) _)).mono ?_
    rintro e w1 ⟨rfl, hb1⟩
    have hlen := sched_vals p
    have HI : Hid ((Tryd.prog.info? 60).map (·.size) = some ((Sha.sched p 64).map V).toArray.size) := by
      show _ = _
      rw [List.size_toArray, hlen]; exact size64
    have HO : Hid (((Sha.sched p 64).map V).toArray.all (·.oneCell') = true) := all_oneCell_toArray (by intro v hv; obtain ⟨x, _, rfl⟩ := List.mem_map.1 hv; rfl)
    have HSZ : Hid (((Sha.sched p 64).map V).toArray.size = 64) := by show _ = _; rw [List.size_toArray, hlen]
    have HF : Hid (Found w ((w1.alloc (.cells #[.int .u32 0, .int .u32 0, .int .u32 0, .int .u32 0, .int .u32 0, .int .u32 0, .int .u32 0, .int .u32 0, .int .u32 0, .int .u32 0, .int .u32 0, .int .u32 0, .int .u32 0, .int .u32 0, .int .u32 0, .int .u32 0, .int .u32 0, .int .u32 0, .int .u32 0, .int .u32 0, .int .u32 0, .int .u32 0, .int .u32 0, .int .u32 0, .int .u32 0, .int .u32 0, .int .u32 0, .int .u32 0, .int .u32 0, .int .u32 0, .int .u32 0, .int .u32 0, .int .u32 0, .int .u32 0, .int .u32 0, .int .u32 0, .int .u32 0, .int .u32 0, .int .u32 0, .int .u32 0, .int .u32 0, .int .u32 0, .int .u32 0, .int .u32 0, .int .u32 0, .int .u32 0, .int .u32 0, .int .u32 0, .int .u32 0, .int .u32 0, .int .u32 0, .int .u32 0, .int .u32 0, .int .u32 0, .int .u32 0, .int .u32 0, .int .u32 0, .int .u32 0, .int .u32 0, .int .u32 0, .int .u32 0, .int .u32 0, .int .u32 0, .int .u32 0] 60)).setCells w1.heap.size 0 ((Sha.sched p 64).map V)) w1.heap.size v ((Sha.sched p 64).map V)) := found_at _ _ _ rfl (by rw [hlen]; rfl) HK.out hb1
    clear hb1 hlen
    generalize (Sha.sched p 64).map V = LL at *
    go_wp2_with (refine wpList_store_mid (by rfl) 60 (.tmp 5) (.tmp 18) (by rfl) w1.heap.size 0 LL.toArray (by rfl) (by rfl) ?st HI.out HO.out ?_)
    case st => exact there_new_at w1 _ _ _ _ rfl HSZ.out
    go_meet
    case rel => exact ⟨w1.heap.size, rfl, HF.out⟩
  case rest =>
    obtain ⟨g, rfl, hF⟩ := hcut
    have HF := hide hF
    clear hF
    have HLen : Hid ((Sha.sched p 64).length = 64) := Sha.sched_length p 64
    have HRR2 : Hid ((Sha.words (Sha.add v (Sha.rounds v (Sha.sched p 64) 64))).map V = R) := HRR.out
    generalize Sha.sched p 64 = L at *
    have c0 : wc.cell? ⟨w.heap.size, 0, none⟩ = some (V v.a) := by simpa using range_cell HF.out.st 0 (by simp)
    have c1 : wc.cell? ⟨w.heap.size, 1, none⟩ = some (V v.b) := by simpa using range_cell HF.out.st 1 (by simp)
    have c2 : wc.cell? ⟨w.heap.size, 2, none⟩ = some (V v.c) := by simpa using range_cell HF.out.st 2 (by simp)
    have c3 : wc.cell? ⟨w.heap.size, 3, none⟩ = some (V v.d) := by simpa using range_cell HF.out.st 3 (by simp)
    have c4 : wc.cell? ⟨w.heap.size, 4, none⟩ = some (V v.e) := by simpa using range_cell HF.out.st 4 (by simp)
    have c5 : wc.cell? ⟨w.heap.size, 5, none⟩ = some (V v.f) := by simpa using range_cell HF.out.st 5 (by simp)
    have c6 : wc.cell? ⟨w.heap.size, 6, none⟩ = some (V v.g) := by simpa using range_cell HF.out.st 6 (by simp)
    have c7 : wc.cell? ⟨w.heap.size, 7, none⟩ = some (V v.h) := by simpa using range_cell HF.out.st 7 (by simp)
    go_wp2_with fail
    go_quiet (fail)
    go_wp2_with fail
    go_loopw [6, 7, 8, 9, 10, 11, 12, 13, 35] (fun xa xb xc xd xe xf xg xh i wr => ∃ k : Nat, k ≤ 64 ∧ i = .int .i64 k ∧ xa = V (Sha.rounds v L k).a ∧ xb = V (Sha.rounds v L k).b ∧ xc = V (Sha.rounds v L k).c ∧ xd = V (Sha.rounds v L k).d ∧ xe = V (Sha.rounds v L k).e ∧ xf = V (Sha.rounds v L k).f ∧ xg = V (Sha.rounds v L k).g ∧ xh = V (Sha.rounds v L k).h ∧ Found w wr g v (L.map V)) (fun _ _ _ _ _ _ _ _ i _ => 64 - (intOf i).toNat)
    case atStart => exact ⟨0, Nat.zero_le _, rfl, rfl, rfl, rfl, rfl, rfl, rfl, rfl, rfl, HF.out.drewN _⟩
    case round =>
      obtain ⟨k, hk, rfl, rfl, rfl, rfl, rfl, rfl, rfl, rfl, rfl, hF⟩ := hrel
      by_cases hlt : k < 64
      · have q0 := hF.rw k hlt
        have q1 : wr.cell? ⟨g, k, none⟩ = some (V (L.getD k 0#32)) := word_cell hF.plan k (by rw [HLen.out]; exact hlt)
        have hrd : Hid (Sha.round (Sha.rounds v L k) (Sha.K.getD k 0#32) (L.getD k 0#32) = Sha.rounds v L (k + 1)) := rfl
        have k0 : (0 : Int) ≤ (k : Int) := Int.natCast_nonneg _
        have k1 : (k : Int) < 64 := by omega
        have HF1 := hide hF
        clear hF
        generalize Sha.rounds v L k = st at *
        generalize Sha.K.getD k 0#32 = kk at *
        generalize L.getD k 0#32 = ww at *
        obtain ⟨ra, rb, rc, rd, re, rf, rg, rh⟩ := st
        have x3 := b_and re rf
        have x4 := b_notmax re
        have x4b : bits .xor .u32 (if IntKind.u32.signed = true then -1 else IntKind.u32.max) (re.toNat : Int) = ((~~~re).toNat : Int) := b_notmax re
        have x5 := b_and (~~~re) rg
        have x6 : bits .xor .u32 ((re &&& rf).toNat : Int) ((~~~re &&& rg).toNat : Int) = ((Sha.ch re rf rg).toNat : Int) := b_xor _ _
        have x7 := w_add rh (Sha.S1 re)
        have x8 := w_add (rh + Sha.S1 re) (Sha.ch re rf rg)
        have x9 := w_add (rh + Sha.S1 re + Sha.ch re rf rg) kk
        have x10 : IntKind.u32.wrap (((rh + Sha.S1 re + Sha.ch re rf rg + kk).toNat : Int) + (ww.toNat : Int)) = ((Sha.t1 ⟨ra, rb, rc, rd, re, rf, rg, rh⟩ kk ww).toNat : Int) := w_add _ _
        have y7 := b_add rh (Sha.S1 re)
        have y8 := b_add (rh + Sha.S1 re) (Sha.ch re rf rg)
        have y9 := b_add (rh + Sha.S1 re + Sha.ch re rf rg) kk
        have y10 : (((rh + Sha.S1 re + Sha.ch re rf rg + kk).toNat : Int) + (ww.toNat : Int)) % 4294967296 = ((Sha.t1 ⟨ra, rb, rc, rd, re, rf, rg, rh⟩ kk ww).toNat : Int) := b_add _ _
        have z3 := b_and ra rb
        have z4 := b_and ra rc
        have z5 := b_xor (ra &&& rb) (ra &&& rc)
        have z6 := b_and rb rc
        have z7 : bits .xor .u32 (((ra &&& rb) ^^^ (ra &&& rc)).toNat : Int) ((rb &&& rc).toNat : Int) = ((Sha.maj ra rb rc).toNat : Int) := b_xor _ _
        have z8 : ((Sha.S0 ra).toNat + (Sha.maj ra rb rc).toNat : Int) % 4294967296 = ((Sha.t2 ⟨ra, rb, rc, rd, re, rf, rg, rh⟩).toNat : Int) := b_add _ _
        generalize (rh + Sha.S1 re + Sha.ch re rf rg + kk) = n1 at *
        generalize (rh + Sha.S1 re + Sha.ch re rf rg) = n2 at *
        generalize (rh + Sha.S1 re) = n3 at *
        generalize Sha.ch re rf rg = n4 at *
        generalize (~~~re &&& rg) = n5 at *
        generalize (~~~re) = n6 at *
        generalize (re &&& rf) = n7 at *
        generalize Sha.maj ra rb rc = n8 at *
        generalize ((ra &&& rb) ^^^ (ra &&& rc)) = n9 at *
        generalize (rb &&& rc) = n10 at *
        generalize (ra &&& rb) = n11 at *
        generalize (ra &&& rc) = n12 at *
        generalize hT1 : Sha.t1 ⟨ra, rb, rc, rd, re, rf, rg, rh⟩ kk ww = T1 at *
        generalize hT2 : Sha.t2 ⟨ra, rb, rc, rd, re, rf, rg, rh⟩ = T2 at *
        have u1 := b_add T1 T2
        have u2 := b_add rd T1
        generalize hA : T1 + T2 = na at *
        generalize hE : rd + T1 = ne at *
        have HT1 := hide hT1
        have HT2 := hide hT2
        have HA := hide hA
        have HE := hide hE
        clear hT1 hT2 hA hE
        go_wp2_with fail
        go_quiet ((go_at_call 38; exact Calls.quiet_of_same (bigSigma1_any _ _)))
        go_wp2_with (go_at_call 39; refine (bigSigma0_any _ _).mono ?_; rintro e w' ⟨rfl, rfl⟩)
        refine ⟨⟨k + 1, by omega, by go_num, ?_, ?_, ?_, ?_, ?_, ?_, ?_, ?_, HF1.out.drewN _⟩, by simp [intOf]; omega⟩
        · rw [← hrd.out, b_add, ← HT1.out, ← HT2.out]; rfl
        · rw [← hrd.out]; rfl
        · rw [← hrd.out]; rfl
        · rw [← hrd.out]; rfl
        · rw [← hrd.out, b_add, ← HT1.out]; rfl
        · rw [← hrd.out]; rfl
        · rw [← hrd.out]; rfl
        · rw [← hrd.out]; rfl
      · obtain rfl : k = 64 := by omega
        obtain ⟨wo, rfl⟩ : ∃ wo : World, wo = wr := ⟨_, rfl⟩
        have HF1 := hide hF
        clear hF
        have d0 : wo.cell? ⟨w.heap.size, 0, none⟩ = some (V v.a) := by simpa using range_cell HF1.out.st 0 (by simp)
        have d1 : wo.cell? ⟨w.heap.size, 1, none⟩ = some (V v.b) := by simpa using range_cell HF1.out.st 1 (by simp)
        have d2 : wo.cell? ⟨w.heap.size, 2, none⟩ = some (V v.c) := by simpa using range_cell HF1.out.st 2 (by simp)
        have d3 : wo.cell? ⟨w.heap.size, 3, none⟩ = some (V v.d) := by simpa using range_cell HF1.out.st 3 (by simp)
        have d4 : wo.cell? ⟨w.heap.size, 4, none⟩ = some (V v.e) := by simpa using range_cell HF1.out.st 4 (by simp)
        have d5 : wo.cell? ⟨w.heap.size, 5, none⟩ = some (V v.f) := by simpa using range_cell HF1.out.st 5 (by simp)
        have d6 : wo.cell? ⟨w.heap.size, 6, none⟩ = some (V v.g) := by simpa using range_cell HF1.out.st 6 (by simp)
        have d7 : wo.cell? ⟨w.heap.size, 7, none⟩ = some (V v.h) := by simpa using range_cell HF1.out.st 7 (by simp)
        have HW := hide HRR2.out
        clear HRR2
        generalize Sha.rounds v L 64 = st at *
        have a0 := b_add v.a st.a
        have a1 := b_add v.b st.b
        have a2 := b_add v.c st.c
        have a3 := b_add v.d st.d
        have a4 := b_add v.e st.e
        have a5 := b_add v.f st.f
        have a6 := b_add v.g st.g
        have a7 := b_add v.h st.h
        have hws : Hid ([V (v.a + st.a), V (v.b + st.b), V (v.c + st.c), V (v.d + st.d), V (v.e + st.e), V (v.f + st.f), V (v.g + st.g), V (v.h + st.h)] = R) := HW.out
        generalize v.a + st.a = o0 at *
        generalize v.b + st.b = o1 at *
        generalize v.c + st.c = o2 at *
        generalize v.d + st.d = o3 at *
        generalize v.e + st.e = o4 at *
        generalize v.f + st.f = o5 at *
        generalize v.g + st.g = o6 at *
        generalize v.h + st.h = o7 at *
        go_wp2_with (refine wpList_store_mid (by rfl) 38 (.tmp 4) (.tmp 118) (by rfl) (w.heap.size + 1) 0 #[V o0, V o1, V o2, V o3, V o4, V o5, V o6, V o7] (by rfl) (by rfl) ?st ?hi ?ho ?_)
        case st => exact HF1.out.out
        case hi => exact size8
        case ho => simp [Value.oneCell']
        refine bodyPost_ret (v := .agg #[V o0, V o1, V o2, V o3, V o4, V o5, V o6, V o7]) (results_cell1 (b := w.heap.size + 1) (o := 0) (cs := [V o0, V o1, V o2, V o3, V o4, V o5, V o6, V o7]) Tryd.results33 _ rfl ?_ Tryd.underlying38 rfl size8) rfl ⟨?_, ?_⟩
        · exact World.rangeAt_setCells_same wo (w.heap.size + 1) 0 [V o0, V o1, V o2, V o3, V o4, V o5, V o6, V o7] HF1.out.out
        · rw [← hws.out]
        · exact below_setCells HF1.out.below (Nat.le_succ _) _ _
end Go.Proofs.YtkmhhodapnlkiaaDoor.shaw
