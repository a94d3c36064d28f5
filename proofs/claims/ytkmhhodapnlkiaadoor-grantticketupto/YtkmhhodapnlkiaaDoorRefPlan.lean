import Derived.Test.YtkmhhodapnlkiaaDoorRefPad
namespace Go.Proofs.YtkmhhodapnlkiaaDoor.refw
open Go.ChangeShapes Go.WideShapes Go.ChangeAt Go.RowKit Go.Proofs.YtkmhhodapnlkiaaDoor.common Go.Proofs.YtkmhhodapnlkiaaDoor.shaw
attribute [local go_sem ↓] Go.wp_at_zero Go.wp_at_succ

/-- the q-th piece of the padded text -/
def piece (l : List UInt8) (q : Nat) : List UInt8 := ((full l).drop (64 * q)).take 64

theorem piece_get (l : List UInt8) (q i : Nat) (hi : i < 64) : (piece l q).getD i 0 = (full l).getD (64 * q + i) 0 := by
  unfold piece
  rw [List.getD_eq_getElem?_getD, List.getElem?_take, if_pos hi, List.getElem?_drop, ← List.getD_eq_getElem?_getD]

theorem byteAt_w (s : ByteArray) (q i : Nat) (M : Nat) (hM : s.size + Sha.padSize s.size = M) (hs : s.size ≤ 562949953421312) (hq : 64 * q + 64 ≤ M) (hi : i < 64) (w : World) :
    Calls Tryd.prog 35 #[.string s, .int .i64 (M : Int), .int .i64 (64 * (q : Int) + (i : Int))] w fun e w' => e = .returned (V (Sha.bw ((piece s.data.toList q).getD i 0))) ∧ w' = w := by
  subst hM
  have h := byteAt_any s (64 * q + i) w hs (by omega)
  rw [show ((64 * q + i : Nat) : Int) = 64 * (q : Int) + (i : Int) by omega] at h
  refine h.mono ?_
  rintro e w' ⟨rfl, rfl⟩
  refine ⟨?_, rfl⟩
  rw [piece_get _ _ _ hi]
  unfold Sha.bw
  have := ((full s.data.toList).getD (64 * q + i) 0).toNat_lt
  rw [V, BitVec.toNat_ofNat, Nat.mod_eq_of_lt (by omega)]

theorem be_w (x0 x1 x2 x3 : BitVec 32) : bits .or .u32 (bits .or .u32 (bits .or .u32 ((x0.toNat : Int) * 16777216 % 4294967296) ((x1.toNat : Int) * 65536 % 4294967296)) ((x2.toNat : Int) * 256 % 4294967296)) (x3.toNat : Int)
    = (((x0 <<< 24) ||| (x1 <<< 16) ||| (x2 <<< 8) ||| x3).toNat : Int) := by
  have h1 := b_shl x0 24
  have h2 := b_shl x1 16
  have h3 := b_shl x2 8
  have e1 : (2 : Int) ^ 24 = 16777216 := by decide
  have e2 : (2 : Int) ^ 16 = 65536 := by decide
  have e3 : (2 : Int) ^ 8 = 256 := by decide
  rw [e1] at h1; rw [e2] at h2; rw [e3] at h3
  rw [h1, h2, h3, b_or, b_or, b_or]

theorem sizePlan : (Tryd.prog.info? 61).map (·.size) = some 64 := by kernel_rfl

theorem keep2 {wr : World} {a a0 a1 : Addr} {y0 y1 v : Value} (q0 : wr.cell? a0 = some y0) (q1 : wr.cell? a1 = some y1) (h0 : a ≠ a0) (h1 : a ≠ a1) :
    (wr.setCell a v).drew.cell? a0 = some y0 ∧ (wr.setCell a v).drew.cell? a1 = some y1 :=
  ⟨(World.cell?_setCell_other _ _ _ _ h0).trans q0, (World.cell?_setCell_other _ _ _ _ h1).trans q1⟩

set_option maxRecDepth 100000 in
set_option maxHeartbeats 3200000 in
theorem plan_any (s : ByteArray) (q M : Nat) (hM : s.size + Sha.padSize s.size = M) (hs : s.size ≤ 562949953421312) (hq : 64 * q + 64 ≤ M) (w : World) :
    Calls Tryd.prog 31 #[.string s, .int .i64 (M : Int), .int .i64 (64 * (q : Int))] w fun e w' => e = .returned (.agg ((Sha.sched (piece s.data.toList q) 64).map V).toArray) ∧ Below w.heap.size w w' := by
  have hpb := Sha.padSize_bounds s.size
  have HB := hide (byteAt_w s q)
  have HM := hide hM
  have hM2 : M < 1125899906842624 := by omega
  clear hpb hM
  obtain ⟨p, hp⟩ : ∃ p, piece s.data.toList q = p := ⟨_, rfl⟩
  rw [hp]
  simp only [hp] at HB
  clear hp
  go_enter Tryd.func31, Tryd.ntmps31
  go_wp2_with fail
  go_loopw [8] (fun i wr => ∃ k : Nat, k ≤ 16 ∧ i = .int .i64 k ∧ wr.there w.heap.size 0 64 ∧ wr.there (w.heap.size + 1) 0 64 ∧ wr.rangeAt (w.heap.size + 1) 0 ((Sha.sched p k).map V) ∧ Below w.heap.size w wr) (fun i _ => 16 - (intOf i).toNat)
  case atStart =>
    refine ⟨0, Nat.zero_le _, rfl, ?_, ?_, ?_, ?_⟩
    · exact World.there_alloc (there_new w _ _) _
    · exact there_new_at (w.alloc _) _ _ _ _ (by simp) rfl
    · intro j v hv
      simp [Sha.sched] at hv
    · exact ((Below.refl _ _).alloc (Nat.le_refl _) _).alloc (by simp) _
  case round =>
    obtain ⟨k, hk, rfl, ht0, ht1, hr, hb⟩ := hrel
    by_cases hlt : k < 16
    · have f0 : wr.frozen? ⟨w.heap.size + 1, k, none⟩ = false := by simpa using (ht1 k (by omega)).2
      have f1 : (wr.cell? ⟨w.heap.size + 1, k, none⟩).isSome = true := by simpa using (ht1 k (by omega)).1
      obtain ⟨v0, hv0⟩ := Option.isSome_iff_exists.1 f1
      clear f1
      have k0 : (0 : Int) ≤ (k : Int) := Int.natCast_nonneg _
      have k1 : (k : Int) < 64 := by omega
      have H0 := hide ht0
      have H1 := hide ht1
      have H2 := hide hr
      have H3 := hide hb
      clear ht0 ht1 hr hb
      have hword : Hid ((Sha.bw (p.getD (4 * k) 0) <<< 24) ||| (Sha.bw (p.getD (4 * k + 1) 0) <<< 16) ||| (Sha.bw (p.getD (4 * k + 2) 0) <<< 8) ||| Sha.bw (p.getD (4 * k + 3) 0) = Sha.word p k) := rfl
      have c0 := hide (HB.out (4 * k) M HM.out hs hq (by omega))
      have c1 := hide (HB.out (4 * k + 1) M HM.out hs hq (by omega))
      have c2 := hide (HB.out (4 * k + 2) M HM.out hs hq (by omega))
      have c3 := hide (HB.out (4 * k + 3) M HM.out hs hq (by omega))
      rw [show 64 * (q : Int) + ((4 * k : Nat) : Int) = 64 * (q : Int) + 4 * (k : Int) by omega] at c0
      rw [show 64 * (q : Int) + ((4 * k + 1 : Nat) : Int) = 64 * (q : Int) + 4 * (k : Int) + 1 by omega] at c1
      rw [show 64 * (q : Int) + ((4 * k + 2 : Nat) : Int) = 64 * (q : Int) + 4 * (k : Int) + 2 by omega] at c2
      rw [show 64 * (q : Int) + ((4 * k + 3 : Nat) : Int) = 64 * (q : Int) + 4 * (k : Int) + 3 by omega] at c3
      generalize Sha.bw (p.getD (4 * k) 0) = x0 at *
      generalize Sha.bw (p.getD (4 * k + 1) 0) = x1 at *
      generalize Sha.bw (p.getD (4 * k + 2) 0) = x2 at *
      generalize Sha.bw (p.getD (4 * k + 3) 0) = x3 at *
      have m0 : IntKind.i64.wrap (4 * (k : Int)) = 4 * (k : Int) := wrap_small _ (by omega) (by omega)
      have m4 : IntKind.i64.wrap (64 * (q : Int) + 4 * (k : Int)) = 64 * (q : Int) + 4 * (k : Int) := wrap_small _ (by omega) (by omega)
      have m1 : IntKind.i64.wrap (64 * (q : Int) + 4 * (k : Int) + 1) = 64 * (q : Int) + 4 * (k : Int) + 1 := wrap_small _ (by omega) (by omega)
      have m2 : IntKind.i64.wrap (64 * (q : Int) + 4 * (k : Int) + 2) = 64 * (q : Int) + 4 * (k : Int) + 2 := wrap_small _ (by omega) (by omega)
      have m3 : IntKind.i64.wrap (64 * (q : Int) + 4 * (k : Int) + 3) = 64 * (q : Int) + 4 * (k : Int) + 3 := wrap_small _ (by omega) (by omega)
      go_wp2_with fail
      refine (c0.out _).mono ?_
      rintro e w' ⟨rfl, rfl⟩
      go_wp2_with fail
      refine (c1.out _).mono ?_
      rintro e w' ⟨rfl, rfl⟩
      go_wp2_with fail
      refine (c2.out _).mono ?_
      rintro e w' ⟨rfl, rfl⟩
      go_wp2_with fail
      refine (c3.out _).mono ?_
      rintro e w' ⟨rfl, rfl⟩
      go_wp2_with fail
      rw [be_w, hword.out]
      refine ⟨⟨k + 1, by omega, by go_num, there_set H0.out _ _, there_set H1.out _ _, ?_, H3.out.setCell (Nat.le_succ _) _⟩, by simp [intOf]; omega⟩
      have hl : ((Sha.sched p k).map V).length = k := by simp [Sha.sched_length]
      have := range_snoc H2.out (V (Sha.word p k)) (by rw [hl]; simpa using (H1.out k (by omega)).1)
      rw [hl] at this
      have e : (Sha.sched p (k + 1)).map V = (Sha.sched p k).map V ++ [V (Sha.word p k)] := by
        simp [Sha.sched, hlt]
      rw [e]
      simpa using this
    · obtain rfl : k = 16 := by omega
      obtain ⟨wo, rfl⟩ : ∃ wo : World, wo = wr := ⟨_, rfl⟩
      have HT0 := hide ht0
      have HT1 := hide ht1
      have HR := hide hr
      have HBL := hide hb
      clear ht0 ht1 hr hb hlt hk
      go_wp2_with fail
      go_loopw [13] (fun i wr => ∃ k : Nat, 16 ≤ k ∧ k ≤ 64 ∧ i = .int .i64 k ∧ wr.there w.heap.size 0 64 ∧ wr.there (w.heap.size + 1) 0 64 ∧ wr.rangeAt (w.heap.size + 1) 0 ((Sha.sched p k).map V) ∧ Below w.heap.size w wr) (fun i _ => 64 - (intOf i).toNat)
      case atStart => exact ⟨16, Nat.le_refl _, by decide, rfl, HT0.out, HT1.out, HR.out, HBL.out⟩
      case round =>
        obtain ⟨k, hk0, hk, rfl, ht0, ht1, hr, hb⟩ := hrel
        by_cases hlt : k < 64
        · have q0 := word_cell hr (k - 16) (by rw [Sha.sched_length]; omega)
          have q1 := word_cell hr (k - 15) (by rw [Sha.sched_length]; omega)
          have q2 := word_cell hr (k - 7) (by rw [Sha.sched_length]; omega)
          have q3 := word_cell hr (k - 2) (by rw [Sha.sched_length]; omega)
          have f0 : wr.frozen? ⟨w.heap.size + 1, k, none⟩ = false := by simpa using (ht1 k (by omega)).2
          have f1 : (wr.cell? ⟨w.heap.size + 1, k, none⟩).isSome = true := by simpa using (ht1 k (by omega)).1
          obtain ⟨v0, hv0⟩ := Option.isSome_iff_exists.1 f1
          clear f1
          have e0 : (⟨w.heap.size + 1, k, none⟩ : Addr) ≠ ⟨w.heap.size + 1, k - 16, none⟩ := fun he => by have := (Addr.mk.inj he).2.1; omega
          have e2 : (⟨w.heap.size + 1, k, none⟩ : Addr) ≠ ⟨w.heap.size + 1, k - 7, none⟩ := fun he => by have := (Addr.mk.inj he).2.1; omega
          have k0 : (0 : Int) ≤ (k : Int) := Int.natCast_nonneg _
          have k1 : (k : Int) < 64 := by omega
          have hnext : Hid ((Sha.sched p k).getD (k - 16) 0#32 + Sha.s0 ((Sha.sched p k).getD (k - 15) 0#32) + (Sha.sched p k).getD (k - 7) 0#32 + Sha.s1 ((Sha.sched p k).getD (k - 2) 0#32) = Sha.next (Sha.sched p k) k) := rfl
          have H0 := hide ht0
          have H1 := hide ht1
          have H2 := hide hr
          have H3 := hide hb
          clear ht0 ht1 hr hb
          generalize (Sha.sched p k).getD (k - 16) 0#32 = x0 at *
          generalize (Sha.sched p k).getD (k - 15) 0#32 = x1 at *
          generalize (Sha.sched p k).getD (k - 7) 0#32 = x2 at *
          generalize (Sha.sched p k).getD (k - 2) 0#32 = x3 at *
          have C7 := hide (rot_7 x1)
          have C18 := hide (rot_18 x1)
          have C17 := hide (rot_17 x3)
          have C19 := hide (rot_19 x3)
          have z0 : bits .xor .u32 (bits .xor .u32 ((Sha.rr x1 7).toNat : Int) ((Sha.rr x1 18).toNat : Int)) ((x1.toNat : Int) / 8) = ((Sha.s0 x1).toNat : Int) := by
            have h2 := b_shr x1 3
            rw [show (2 : Int) ^ 3 = 8 by decide] at h2
            rw [h2, b_xor, b_xor]; rfl
          have z1 : bits .xor .u32 (bits .xor .u32 ((Sha.rr x3 17).toNat : Int) ((Sha.rr x3 19).toNat : Int)) ((x3.toNat : Int) / 1024) = ((Sha.s1 x3).toNat : Int) := by
            have h2 := b_shr x3 10
            rw [show (2 : Int) ^ 10 = 1024 by decide] at h2
            rw [h2, b_xor, b_xor]; rfl
          generalize Sha.rr x1 7 = r7 at *
          generalize Sha.rr x1 18 = r18 at *
          generalize Sha.rr x3 17 = r17 at *
          generalize Sha.rr x3 19 = r19 at *
          generalize Sha.s0 x1 = y0 at *
          generalize Sha.s1 x3 = y1 at *
          have m0 : IntKind.i64.wrap ((k : Int) - 16) = (k : Int) - 16 := wrap_small _ (by omega) (by omega)
          have m1 : IntKind.i64.wrap ((k : Int) - 15) = (k : Int) - 15 := wrap_small _ (by omega) (by omega)
          have m2 : IntKind.i64.wrap ((k : Int) - 7) = (k : Int) - 7 := wrap_small _ (by omega) (by omega)
          have m3 : IntKind.i64.wrap ((k : Int) - 2) = (k : Int) - 2 := wrap_small _ (by omega) (by omega)
          have n0 : ((k : Int) - 16).toNat = k - 16 := by omega
          have n1 : ((k : Int) - 15).toNat = k - 15 := by omega
          have n2 : ((k : Int) - 7).toNat = k - 7 := by omega
          have n3 : ((k : Int) - 2).toNat = k - 2 := by omega
          have g0 : (16 : Int) ≤ (k : Int) := by omega
          have g1 : (15 : Int) ≤ (k : Int) := by omega
          have g2 : (7 : Int) ≤ (k : Int) := by omega
          have g3 : (2 : Int) ≤ (k : Int) := by omega
          have l0 : (k : Int) - 16 < 64 := by omega
          have l1 : (k : Int) - 15 < 64 := by omega
          have l2 : (k : Int) - 7 < 64 := by omega
          have l3 : (k : Int) - 2 < 64 := by omega
          go_wp2_with fail
          refine (C7.out _).mono ?_
          rintro e w' ⟨rfl, rfl⟩
          go_wp2_with fail
          refine (C18.out _).mono ?_
          rintro e w' ⟨rfl, rfl⟩
          go_wp2_with fail
          refine (C17.out _).mono ?_
          rintro e w' ⟨rfl, rfl⟩
          go_wp2_with fail
          refine (C19.out _).mono ?_
          rintro e w' ⟨rfl, rfl⟩
          go_wp2_with fail
          go_region_held3 (fun w' => w'.cell? ⟨w.heap.size + 1, k - 16, none⟩ = some (V x0) ∧ w'.cell? ⟨w.heap.size + 1, k - 7, none⟩ = some (V x2)) (first | exact keep2 q0 q2 e0 e2 | go_keep) (fail)
          rw [add_next, hnext.out]
          clear q0 q1 q2 q3 f0 hv0 e0 e2 m0 m1 m2 m3 n0 n1 n2 n3 l0 l1 l2 l3 g0 g1 g2 g3 z0 z1
          go_wp2
          go_roundw
          case rel =>
            have hl : ((Sha.sched p k).map V).length = k := by simp [Sha.sched_length]
            have := range_snoc H2.out (V (Sha.next (Sha.sched p k) k)) (by rw [hl]; simpa using (H1.out k (by omega)).1)
            rw [hl] at this
            have e : (Sha.sched p (k + 1)).map V = (Sha.sched p k).map V ++ [V (Sha.next (Sha.sched p k) k)] := by
              simp [Sha.sched, show ¬ k < 16 by omega]
            have R : ((w'.setCell ⟨w.heap.size + 1, k, none⟩ (V (Sha.next (Sha.sched p k) k))).drew).rangeAt (w.heap.size + 1) 0 ((Sha.sched p (k + 1)).map V) := by
              rw [e]
              simpa using this
            have R3 : Below w.heap.size w ((w'.setCell ⟨w.heap.size + 1, k, none⟩ (V (Sha.next (Sha.sched p k) k))).drew) := (H3.out.setCell (Nat.le_succ _) _).drew
            first
              | exact ⟨k + 1, by omega, by omega, by go_num, there_set H0.out _ _, there_set H1.out _ _, R, R3⟩
              | ((repeat apply Exists.intro); exact ⟨⟨k + 1, by omega, by omega, by go_num, there_set H0.out _ _, there_set H1.out _ _, R, R3⟩, rfl⟩)
          case measure => simp [intOf]; omega
        · obtain rfl : k = 64 := by omega
          have H0 := hide ht0
          have H2 := hide hr
          have H3 := hide hb
          clear ht0 ht1 hr hb
          have hi : (Tryd.prog.info? 61).map (·.size) = some ((Sha.sched p 64).map V).length := by rw [List.length_map, Sha.sched_length]; exact sizePlan
          have hi2 : (Tryd.prog.info? 61).map (·.size) = some ((Sha.sched p 64).map V).toArray.size := by rw [List.size_toArray]; exact hi
          have h1 : ((Sha.sched p 64).map V).toArray.all (·.oneCell') = true := all_oneCell_toArray (by intro v hv; obtain ⟨x, _, rfl⟩ := List.mem_map.1 hv; rfl)
          have hls : ((Sha.sched p 64).map V).toArray.size = 64 := by simp [Sha.sched_length]
          have ht : wr.there w.heap.size 0 ((Sha.sched p 64).map V).toArray.size := by rw [hls]; exact H0.out
          have HI := hide hi
          have HI2 := hide hi2
          have HO := hide h1
          have HT := hide ht
          clear hi hi2 h1 ht hls
          generalize hL : (Sha.sched p 64).map V = L at *
          have HLL := hide hL
          clear hL
          go_wp2_with (first | (refine wpList_load_mid rfl 61 (.tmp 7) rfl (w.heap.size + 1) 0 rfl L _ H2.out Tryd.underlying61 rfl HI.out ?_) | (refine wpList_store_mid rfl 61 (.tmp 6) (.tmp 108) rfl w.heap.size 0 L.toArray rfl rfl HT.out HI2.out HO.out ?_))
          refine bodyPost_ret (v := .agg L.toArray) (results_cell1 (b := w.heap.size) (o := 0) (cs := L) Tryd.results31 _ rfl ?_ Tryd.underlying61 rfl HI.out) rfl ⟨by rw [HLL.out], ?_⟩
          · have := World.rangeAt_setCells_same wr w.heap.size 0 L (by simpa using HT.out)
            simpa using this
          · exact below_setCells H3.out (Nat.le_refl _) _ _
end Go.Proofs.YtkmhhodapnlkiaaDoor.refw
