import Derived.Test.YtkmhhodapnlkiaaDoorShaWords
import Derived.Test.YtkmhhodapnlkiaaDoorRanges
namespace Go.Proofs.YtkmhhodapnlkiaaDoor.shaw
open Go.ChangeShapes Go.WideShapes Go.ChangeAt Go.RowKit Go.Proofs.YtkmhhodapnlkiaaDoor.common
attribute [local go_sem ↓] Go.wp_at_zero Go.wp_at_succ

abbrev B (c : UInt8) : Value := .int .u8 (c.toNat : Int)

theorem wrap_small (n : Int) (h0 : -9223372036854775808 ≤ n) (h1 : n < 9223372036854775808) : IntKind.i64.wrap n = n := by
  rw [IntKind.wrap_i64]; omega

theorem piece_cell {w : World} {pb po : Nat} {p : List UInt8} (hc : w.rangeAt pb po (p.map B)) (i : Nat) (hi : i < p.length) : w.cell? ⟨pb, po + i, none⟩ = some (B (p.getD i 0)) := by
  rw [range_cell hc i (by simpa using hi)]
  simp [hi]

theorem wrap_u (n : Int) : IntKind.u32.wrap n = n % 4294967296 := IntKind.wrap_u32' n

theorem bw_val (x : UInt8) : IntKind.u32.wrap (x.toNat : Int) = ((Sha.bw x).toNat : Int) := by
  rw [wrap_u]; unfold Sha.bw
  rw [BitVec.toNat_ofNat]; have := x.toNat_lt; omega

theorem be_word (x0 x1 x2 x3 : UInt8) : bits .or .u32 (bits .or .u32 (bits .or .u32 (IntKind.u32.wrap (IntKind.u32.wrap (x0.toNat : Int) * 16777216)) (IntKind.u32.wrap (IntKind.u32.wrap (x1.toNat : Int) * 65536))) (IntKind.u32.wrap (IntKind.u32.wrap (x2.toNat : Int) * 256))) (IntKind.u32.wrap (x3.toNat : Int))
    = (((Sha.bw x0 <<< 24) ||| (Sha.bw x1 <<< 16) ||| (Sha.bw x2 <<< 8) ||| Sha.bw x3).toNat : Int) := by
  rw [bw_val, bw_val, bw_val, bw_val, wrap_u, wrap_u, wrap_u]
  have h1 := b_shl (Sha.bw x0) 24
  have h2 := b_shl (Sha.bw x1) 16
  have h3 := b_shl (Sha.bw x2) 8
  have e1 : (2 : Int) ^ 24 = 16777216 := by decide
  have e2 : (2 : Int) ^ 16 = 65536 := by decide
  have e3 : (2 : Int) ^ 8 = 256 := by decide
  rw [e1] at h1; rw [e2] at h2; rw [e3] at h3
  rw [h1, h2, h3, b_or, b_or, b_or]

theorem add_next (a b c d : BitVec 32) : IntKind.u32.wrap (IntKind.u32.wrap (IntKind.u32.wrap ((a.toNat : Int) + (b.toNat : Int)) + (c.toNat : Int)) + (d.toNat : Int)) = ((a + b + c + d).toNat : Int) := by
  rw [wrap_u, wrap_u, wrap_u, b_add, b_add, b_add]

theorem size64 : (Tryd.prog.info? 60).map (·.size) = some 64 := by kernel_rfl

theorem keep4 {wr : World} {pb o0 o1 o2 o3 : Nat} {a : Addr} {y0 y1 y2 y3 v : Value} (q0 : wr.cell? ⟨pb, o0, none⟩ = some y0) (q1 : wr.cell? ⟨pb, o1, none⟩ = some y1) (q2 : wr.cell? ⟨pb, o2, none⟩ = some y2) (q3 : wr.cell? ⟨pb, o3, none⟩ = some y3)
    (hne : ∀ j, a ≠ ⟨pb, j, none⟩) :
    (wr.setCell a v).drew.cell? ⟨pb, o0, none⟩ = some y0 ∧ (wr.setCell a v).drew.cell? ⟨pb, o1, none⟩ = some y1 ∧ (wr.setCell a v).drew.cell? ⟨pb, o2, none⟩ = some y2 ∧ (wr.setCell a v).drew.cell? ⟨pb, o3, none⟩ = some y3 :=
  ⟨(World.cell?_setCell_other _ _ _ _ (hne o0)).trans q0, (World.cell?_setCell_other _ _ _ _ (hne o1)).trans q1, (World.cell?_setCell_other _ _ _ _ (hne o2)).trans q2, (World.cell?_setCell_other _ _ _ _ (hne o3)).trans q3⟩

theorem keep4' {wr : World} {a a0 a1 a2 a3 : Addr} {y0 y1 y2 y3 v : Value} (q0 : wr.cell? a0 = some y0) (q1 : wr.cell? a1 = some y1) (q2 : wr.cell? a2 = some y2) (q3 : wr.cell? a3 = some y3)
    (h0 : a ≠ a0) (h1 : a ≠ a1) (h2 : a ≠ a2) (h3 : a ≠ a3) :
    (wr.setCell a v).drew.cell? a0 = some y0 ∧ (wr.setCell a v).drew.cell? a1 = some y1 ∧ (wr.setCell a v).drew.cell? a2 = some y2 ∧ (wr.setCell a v).drew.cell? a3 = some y3 :=
  ⟨(World.cell?_setCell_other _ _ _ _ h0).trans q0, (World.cell?_setCell_other _ _ _ _ h1).trans q1, (World.cell?_setCell_other _ _ _ _ h2).trans q2, (World.cell?_setCell_other _ _ _ _ h3).trans q3⟩

theorem word_cell {w : World} {g : Nat} {l : List (BitVec 32)} (hc : w.rangeAt g 0 (l.map V)) (i : Nat) (hi : i < l.length) : w.cell? ⟨g, i, none⟩ = some (V (l.getD i 0#32)) := by
  have := range_cell hc i (by simpa using hi)
  rw [Nat.zero_add] at this
  rw [this]
  simp [hi]

set_option maxRecDepth 100000 in
set_option maxHeartbeats 3200000 in
theorem schedule_any (pb po : Nat) (p : List UInt8) (hp : p.length = 64) (w : World) (hc : w.rangeAt pb po (p.map B)) :
    Calls Tryd.prog 37 #[.pointer (some ⟨pb, po, none⟩)] w fun e w' => e = .returned (.agg ((Sha.sched p 64).map V).toArray) ∧ Below w.heap.size w w' := by
  have HC := hide hc
  have hpb : pb < w.heap.size := range_lt hc (by simp [hp])
  clear hc
  go_enter Tryd.func37, Tryd.ntmps37
  go_wp2_with fail
  go_loopw [6] (fun i wr => ∃ k : Nat, k ≤ 16 ∧ i = .int .i64 k ∧ wr.there w.heap.size 0 64 ∧ wr.there (w.heap.size + 1) 0 64 ∧ wr.rangeAt (w.heap.size + 1) 0 ((Sha.sched p k).map V) ∧ Below w.heap.size w wr) (fun i _ => 16 - (intOf i).toNat)
  case atStart =>
    refine ⟨0, Nat.zero_le _, rfl, ?_, ?_, ?_, ?_⟩
    · exact World.there_alloc (there_new w _ _) _
    · exact there_new_at (w.alloc _) _ _ _ _ (by simp) rfl
    · intro j v hv
      simp [Sha.sched] at hv
    · exact ((Below.refl _ _).alloc (Nat.le_refl _) _).alloc (by simp) _
  case round =>
    obtain ⟨k, hk, rfl, ht0, ht1, hr, hb⟩ := hrel
    by_cases hlt : k < 16
    · have hcw := range_below HC.out hb hpb
      have q0 : wr.cell? ⟨pb, po + 4 * k, none⟩ = some (B (p.getD (4 * k) 0)) := piece_cell hcw _ (by omega)
      have q1 : wr.cell? ⟨pb, po + (4 * k + 1), none⟩ = some (B (p.getD (4 * k + 1) 0)) := piece_cell hcw _ (by omega)
      have q2 : wr.cell? ⟨pb, po + (4 * k + 2), none⟩ = some (B (p.getD (4 * k + 2) 0)) := piece_cell hcw _ (by omega)
      have q3 : wr.cell? ⟨pb, po + (4 * k + 3), none⟩ = some (B (p.getD (4 * k + 3) 0)) := piece_cell hcw _ (by omega)
      have f0 : wr.frozen? ⟨w.heap.size + 1, k, none⟩ = false := by simpa using (ht1 k (by omega)).2
      have f1 : (wr.cell? ⟨w.heap.size + 1, k, none⟩).isSome = true := by simpa using (ht1 k (by omega)).1
      obtain ⟨v0, hv0⟩ := Option.isSome_iff_exists.1 f1
      clear f1
      have hne : ∀ j, (⟨w.heap.size + 1, k, none⟩ : Addr) ≠ ⟨pb, j, none⟩ := fun j he => by have := (Addr.mk.inj he).1; omega
      have k0 : (0 : Int) ≤ (k : Int) := Int.natCast_nonneg _
      have k1 : (k : Int) < 64 := by omega
      have H0 := hide ht0
      have H1 := hide ht1
      have H2 := hide hr
      have H3 := hide hb
      clear ht0 ht1 hr hb hcw
      have hword : Hid ((Sha.bw (p.getD (4 * k) 0) <<< 24) ||| (Sha.bw (p.getD (4 * k + 1) 0) <<< 16) ||| (Sha.bw (p.getD (4 * k + 2) 0) <<< 8) ||| Sha.bw (p.getD (4 * k + 3) 0) = Sha.word p k) := rfl
      generalize p.getD (4 * k) 0 = x0 at *
      generalize p.getD (4 * k + 1) 0 = x1 at *
      generalize p.getD (4 * k + 2) 0 = x2 at *
      generalize p.getD (4 * k + 3) 0 = x3 at *
      have m0 : IntKind.i64.wrap (4 * (k : Int)) = 4 * (k : Int) := wrap_small _ (by omega) (by omega)
      have m1 : IntKind.i64.wrap (4 * (k : Int) + 1) = 4 * (k : Int) + 1 := wrap_small _ (by omega) (by omega)
      have m2 : IntKind.i64.wrap (4 * (k : Int) + 2) = 4 * (k : Int) + 2 := wrap_small _ (by omega) (by omega)
      have m3 : IntKind.i64.wrap (4 * (k : Int) + 3) = 4 * (k : Int) + 3 := wrap_small _ (by omega) (by omega)
      have n0 : (4 * (k : Int)).toNat = 4 * k := by omega
      have n1 : (4 * (k : Int) + 1).toNat = 4 * k + 1 := by omega
      have n2 : (4 * (k : Int) + 2).toNat = 4 * k + 2 := by omega
      have n3 : (4 * (k : Int) + 3).toNat = 4 * k + 3 := by omega
      have l0 : (0 : Int) ≤ 4 * (k : Int) ∧ 4 * (k : Int) < 64 := by omega
      have l1 : (0 : Int) ≤ 4 * (k : Int) + 1 ∧ 4 * (k : Int) + 1 < 64 := by omega
      have l2 : (0 : Int) ≤ 4 * (k : Int) + 2 ∧ 4 * (k : Int) + 2 < 64 := by omega
      have l3 : (0 : Int) ≤ 4 * (k : Int) + 3 ∧ 4 * (k : Int) + 3 < 64 := by omega
      go_wp2_with fail
      go_region_held3 (fun w' => w'.cell? ⟨pb, po + 4 * k, none⟩ = some (B x0) ∧ w'.cell? ⟨pb, po + (4 * k + 1), none⟩ = some (B x1) ∧ w'.cell? ⟨pb, po + (4 * k + 2), none⟩ = some (B x2) ∧ w'.cell? ⟨pb, po + (4 * k + 3), none⟩ = some (B x3)) (first | exact keep4 q0 q1 q2 q3 hne | go_keep) (fail)
      rw [be_word, hword.out]
      clear q0 q1 q2 q3 f0 hv0 hne m0 m1 m2 m3 n0 n1 n2 n3 l0 l1 l2 l3
      go_wp2
      go_roundw
      case rel =>
        refine ⟨k + 1, by omega, by go_num, there_set H0.out _ _, there_set H1.out _ _, ?_, (H3.out.setCell (Nat.le_succ _) _).drew⟩
        have hl : ((Sha.sched p k).map V).length = k := by simp [Sha.sched_length]
        have := range_snoc H2.out (V (Sha.word p k)) (by rw [hl]; simpa using (H1.out k (by omega)).1)
        rw [hl] at this
        have e : (Sha.sched p (k + 1)).map V = (Sha.sched p k).map V ++ [V (Sha.word p k)] := by
          simp [Sha.sched, hlt]
        rw [e]
        simpa using this
      case measure => simp [intOf]; omega
    · obtain rfl : k = 16 := by omega
      obtain ⟨wo, rfl⟩ : ∃ wo : World, wo = wr := ⟨_, rfl⟩
      have HT0 := hide ht0
      have HT1 := hide ht1
      have HR := hide hr
      have HBL := hide hb
      clear ht0 ht1 hr hb hlt hk
      go_wp2_with fail
      go_loopw [5] (fun i wr => ∃ k : Nat, 16 ≤ k ∧ k ≤ 64 ∧ i = .int .i64 k ∧ wr.there w.heap.size 0 64 ∧ wr.there (w.heap.size + 1) 0 64 ∧ wr.rangeAt (w.heap.size + 1) 0 ((Sha.sched p k).map V) ∧ Below w.heap.size w wr) (fun i _ => 64 - (intOf i).toNat)
      case atStart => exact ⟨16, Nat.le_refl _, by decide, rfl, HT0.out, HT1.out, HR.out, HBL.out⟩
      case round =>
        obtain ⟨k, hk0, hk, rfl, ht0, ht1, hr, hb⟩ := hrel
        by_cases hlt : k < 64
        · have q0 := word_cell hr (k - 16) (by rw [Sha.sched_length]; omega)
          have q1 := word_cell hr (k - 15) (by rw [Sha.sched_length]; omega)
          have q2 := word_cell hr (k - 7) (by rw [Sha.sched_length]; omega)
          have q3 := word_cell hr (k - 2) (by rw [Sha.sched_length]; omega)
          have f0 : wr.frozen? ⟨w.heap.size + 1, k, none⟩ = false := by simpa using (ht1 k (by omega)).2
          have f1 : (wr.cell? ⟨w.heap.size + 1, k, none⟩).isSome = true := by simpa using (ht1 k (by omega)).1
          obtain ⟨v0, hv0⟩ := Option.isSome_iff_exists.1 f1
          clear f1
          have e0 : (⟨w.heap.size + 1, k, none⟩ : Addr) ≠ ⟨w.heap.size + 1, k - 16, none⟩ := fun he => by have := (Addr.mk.inj he).2.1; omega
          have e1 : (⟨w.heap.size + 1, k, none⟩ : Addr) ≠ ⟨w.heap.size + 1, k - 15, none⟩ := fun he => by have := (Addr.mk.inj he).2.1; omega
          have e2 : (⟨w.heap.size + 1, k, none⟩ : Addr) ≠ ⟨w.heap.size + 1, k - 7, none⟩ := fun he => by have := (Addr.mk.inj he).2.1; omega
          have e3 : (⟨w.heap.size + 1, k, none⟩ : Addr) ≠ ⟨w.heap.size + 1, k - 2, none⟩ := fun he => by have := (Addr.mk.inj he).2.1; omega
          have k0 : (0 : Int) ≤ (k : Int) := Int.natCast_nonneg _
          have k1 : (k : Int) < 64 := by omega
          have hnext : Hid ((Sha.sched p k).getD (k - 16) 0#32 + Sha.s0 ((Sha.sched p k).getD (k - 15) 0#32) + (Sha.sched p k).getD (k - 7) 0#32 + Sha.s1 ((Sha.sched p k).getD (k - 2) 0#32) = Sha.next (Sha.sched p k) k) := rfl
          have H0 := hide ht0
          have H1 := hide ht1
          have H2 := hide hr
          have H3 := hide hb
          clear ht0 ht1 hr hb
          generalize (Sha.sched p k).getD (k - 16) 0#32 = x0 at *
          generalize (Sha.sched p k).getD (k - 15) 0#32 = x1 at *
          generalize (Sha.sched p k).getD (k - 7) 0#32 = x2 at *
          generalize (Sha.sched p k).getD (k - 2) 0#32 = x3 at *
          have m0 : IntKind.i64.wrap ((k : Int) - 16) = (k : Int) - 16 := wrap_small _ (by omega) (by omega)
          have m1 : IntKind.i64.wrap ((k : Int) - 15) = (k : Int) - 15 := wrap_small _ (by omega) (by omega)
          have m2 : IntKind.i64.wrap ((k : Int) - 7) = (k : Int) - 7 := wrap_small _ (by omega) (by omega)
          have m3 : IntKind.i64.wrap ((k : Int) - 2) = (k : Int) - 2 := wrap_small _ (by omega) (by omega)
          have n0 : ((k : Int) - 16).toNat = k - 16 := by omega
          have n1 : ((k : Int) - 15).toNat = k - 15 := by omega
          have n2 : ((k : Int) - 7).toNat = k - 7 := by omega
          have n3 : ((k : Int) - 2).toNat = k - 2 := by omega
          have g0 : (16 : Int) ≤ (k : Int) := by omega
          have g1 : (15 : Int) ≤ (k : Int) := by omega
          have g2 : (7 : Int) ≤ (k : Int) := by omega
          have g3 : (2 : Int) ≤ (k : Int) := by omega
          have l0 : (k : Int) - 16 < 64 := by omega
          have l1 : (k : Int) - 15 < 64 := by omega
          have l2 : (k : Int) - 7 < 64 := by omega
          have l3 : (k : Int) - 2 < 64 := by omega
          go_wp2_with fail
          go_region_held3 (fun w' => w'.cell? ⟨w.heap.size + 1, k - 16, none⟩ = some (V x0) ∧ w'.cell? ⟨w.heap.size + 1, k - 15, none⟩ = some (V x1) ∧ w'.cell? ⟨w.heap.size + 1, k - 7, none⟩ = some (V x2) ∧ w'.cell? ⟨w.heap.size + 1, k - 2, none⟩ = some (V x3)) (first | exact keep4' q0 q1 q2 q3 e0 e1 e2 e3 | go_keep)
            (first | (go_at_call 40; refine (smallSigma0_any _ _).mono ?_; rintro e w' ⟨rfl, rfl⟩) | (go_at_call 41; refine (smallSigma1_any _ _).mono ?_; rintro e w' ⟨rfl, rfl⟩))
          rw [add_next, hnext.out]
          clear q0 q1 q2 q3 f0 hv0 e0 e1 e2 e3 m0 m1 m2 m3 n0 n1 n2 n3 l0 l1 l2 l3 g0 g1 g2 g3
          go_wp2
          go_roundw
          case rel =>
            have hl : ((Sha.sched p k).map V).length = k := by simp [Sha.sched_length]
            have := range_snoc H2.out (V (Sha.next (Sha.sched p k) k)) (by rw [hl]; simpa using (H1.out k (by omega)).1)
            rw [hl] at this
            have e : (Sha.sched p (k + 1)).map V = (Sha.sched p k).map V ++ [V (Sha.next (Sha.sched p k) k)] := by
              simp [Sha.sched, show ¬ k < 16 by omega]
            have R : ((wr.setCell ⟨w.heap.size + 1, k, none⟩ (V (Sha.next (Sha.sched p k) k))).drew).rangeAt (w.heap.size + 1) 0 ((Sha.sched p (k + 1)).map V) := by
              rw [e]
              simpa using this
            have R3 : Below w.heap.size w ((wr.setCell ⟨w.heap.size + 1, k, none⟩ (V (Sha.next (Sha.sched p k) k))).drew) := (H3.out.setCell (Nat.le_succ _) _).drew
            first
              | exact ⟨k + 1, by omega, by omega, by go_num, there_set H0.out _ _, there_set H1.out _ _, R, R3⟩
              | ((repeat apply Exists.intro); exact ⟨⟨k + 1, by omega, by omega, by go_num, there_set H0.out _ _, there_set H1.out _ _, R, R3⟩, rfl⟩)
          case measure => simp [intOf]; omega
        · obtain rfl : k = 64 := by omega
          have H0 := hide ht0
          have H2 := hide hr
          have H3 := hide hb
          clear ht0 ht1 hr hb
          have hi : (Tryd.prog.info? 60).map (·.size) = some ((Sha.sched p 64).map V).length := by rw [List.length_map, Sha.sched_length]; exact size64
          have hi2 : (Tryd.prog.info? 60).map (·.size) = some ((Sha.sched p 64).map V).toArray.size := by rw [List.size_toArray]; exact hi
          have h1 : ((Sha.sched p 64).map V).toArray.all (·.oneCell') = true := all_oneCell_toArray (by intro v hv; obtain ⟨x, _, rfl⟩ := List.mem_map.1 hv; rfl)
          have hls : ((Sha.sched p 64).map V).toArray.size = 64 := by simp [Sha.sched_length]
          have ht : wr.there w.heap.size 0 ((Sha.sched p 64).map V).toArray.size := by rw [hls]; exact H0.out
          have HI := hide hi
          have HI2 := hide hi2
          have HO := hide h1
          have HT := hide ht
          clear hi hi2 h1 ht hls
          generalize hL : (Sha.sched p 64).map V = L at *
          have HLL := hide hL
          clear hL
          go_wp2_with (first | (refine wpList_load_mid rfl 60 (.tmp 3) rfl (w.heap.size + 1) 0 rfl L _ H2.out Tryd.underlying60 rfl HI.out ?_) | (refine wpList_store_mid rfl 60 (.tmp 2) (.tmp 76) rfl w.heap.size 0 L.toArray rfl rfl HT.out HI2.out HO.out ?_))
          refine bodyPost_ret (v := .agg L.toArray) (results_cell1 (b := w.heap.size) (o := 0) (cs := L) Tryd.results37 _ rfl ?_ Tryd.underlying60 rfl HI.out) rfl ⟨by rw [HLL.out], ?_⟩
          · have := World.rangeAt_setCells_same wr w.heap.size 0 L (by simpa using HT.out)
            simpa using this
          · exact below_setCells H3.out (Nat.le_refl _) _ _
end Go.Proofs.YtkmhhodapnlkiaaDoor.shaw
