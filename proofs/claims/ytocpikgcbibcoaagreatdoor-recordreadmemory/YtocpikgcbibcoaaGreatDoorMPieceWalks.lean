import Derived.Test.YtocpikgcbibcoaaGreatDoorMShaWords
import Derived.Test.YtocpikgcbibcoaaGreatDoorMRdKit
import Derived.Deep.DeepCutAuto
namespace Go.Proofs.YtocpikgcbibcoaaGreatDoor.shaw
open Go.ChangeShapes Go.WideShapes Go.ChangeAt Go.RowKit Go.Proofs.YtocpikgcbibcoaaGreatDoor.common
attribute [local go_sem ↓] Go.wp_at_zero Go.wp_at_succ

abbrev B (c : UInt8) : Value := .int .u8 (c.toNat : Int)

theorem wrap_small (n : Int) (h0 : -9223372036854775808 ≤ n) (h1 : n < 9223372036854775808) : IntKind.i64.wrap n = n := by
  rw [IntKind.wrap_i64]; omega

theorem piece_cell {w : World} {pb po : Nat} {p : List UInt8} (hc : w.rangeAt pb po (p.map B)) (i : Nat) (hi : i < p.length) : w.cell? ⟨pb, po + i, none⟩ = some (B (p.getD i 0)) := by
  rw [range_cell hc i (by simpa using hi)]
  simp [hi]

theorem wrap_u (n : Int) : IntKind.u32.wrap n = n % 4294967296 := IntKind.wrap_u32' n

theorem bw_val (x : UInt8) : IntKind.u32.wrap (x.toNat : Int) = ((Sha.bw x).toNat : Int) := by
  rw [wrap_u]; unfold Sha.bw
  rw [BitVec.toNat_ofNat]; have := x.toNat_lt; omega

theorem be_word (x0 x1 x2 x3 : UInt8) : bits .or .u32 (bits .or .u32 (bits .or .u32 (IntKind.u32.wrap (IntKind.u32.wrap (x0.toNat : Int) * 16777216)) (IntKind.u32.wrap (IntKind.u32.wrap (x1.toNat : Int) * 65536))) (IntKind.u32.wrap (IntKind.u32.wrap (x2.toNat : Int) * 256))) (IntKind.u32.wrap (x3.toNat : Int))
    = (((Sha.bw x0 <<< 24) ||| (Sha.bw x1 <<< 16) ||| (Sha.bw x2 <<< 8) ||| Sha.bw x3).toNat : Int) := by
  rw [bw_val, bw_val, bw_val, bw_val, wrap_u, wrap_u, wrap_u]
  have h1 := b_shl (Sha.bw x0) 24
  have h2 := b_shl (Sha.bw x1) 16
  have h3 := b_shl (Sha.bw x2) 8
  have e1 : (2 : Int) ^ 24 = 16777216 := by decide
  have e2 : (2 : Int) ^ 16 = 65536 := by decide
  have e3 : (2 : Int) ^ 8 = 256 := by decide
  rw [e1] at h1; rw [e2] at h2; rw [e3] at h3
  rw [h1, h2, h3, b_or, b_or, b_or]

theorem add_next (a b c d : BitVec 32) : IntKind.u32.wrap (IntKind.u32.wrap (IntKind.u32.wrap ((a.toNat : Int) + (b.toNat : Int)) + (c.toNat : Int)) + (d.toNat : Int)) = ((a + b + c + d).toNat : Int) := by
  rw [wrap_u, wrap_u, wrap_u, b_add, b_add, b_add]

theorem size64 : (Tryz.prog.info? 132).map (·.size) = some 64 := by kernel_rfl

theorem keep4 {wr : World} {pb o0 o1 o2 o3 : Nat} {a : Addr} {y0 y1 y2 y3 v : Value} (q0 : wr.cell? ⟨pb, o0, none⟩ = some y0) (q1 : wr.cell? ⟨pb, o1, none⟩ = some y1) (q2 : wr.cell? ⟨pb, o2, none⟩ = some y2) (q3 : wr.cell? ⟨pb, o3, none⟩ = some y3)
    (hne : ∀ j, a ≠ ⟨pb, j, none⟩) :
    (wr.setCell a v).drew.cell? ⟨pb, o0, none⟩ = some y0 ∧ (wr.setCell a v).drew.cell? ⟨pb, o1, none⟩ = some y1 ∧ (wr.setCell a v).drew.cell? ⟨pb, o2, none⟩ = some y2 ∧ (wr.setCell a v).drew.cell? ⟨pb, o3, none⟩ = some y3 :=
  ⟨(World.cell?_setCell_other _ _ _ _ (hne o0)).trans q0, (World.cell?_setCell_other _ _ _ _ (hne o1)).trans q1, (World.cell?_setCell_other _ _ _ _ (hne o2)).trans q2, (World.cell?_setCell_other _ _ _ _ (hne o3)).trans q3⟩

theorem keep4' {wr : World} {a a0 a1 a2 a3 : Addr} {y0 y1 y2 y3 v : Value} (q0 : wr.cell? a0 = some y0) (q1 : wr.cell? a1 = some y1) (q2 : wr.cell? a2 = some y2) (q3 : wr.cell? a3 = some y3)
    (h0 : a ≠ a0) (h1 : a ≠ a1) (h2 : a ≠ a2) (h3 : a ≠ a3) :
    (wr.setCell a v).drew.cell? a0 = some y0 ∧ (wr.setCell a v).drew.cell? a1 = some y1 ∧ (wr.setCell a v).drew.cell? a2 = some y2 ∧ (wr.setCell a v).drew.cell? a3 = some y3 :=
  ⟨(World.cell?_setCell_other _ _ _ _ h0).trans q0, (World.cell?_setCell_other _ _ _ _ h1).trans q1, (World.cell?_setCell_other _ _ _ _ h2).trans q2, (World.cell?_setCell_other _ _ _ _ h3).trans q3⟩

theorem word_cell {w : World} {g : Nat} {l : List (BitVec 32)} (hc : w.rangeAt g 0 (l.map V)) (i : Nat) (hi : i < l.length) : w.cell? ⟨g, i, none⟩ = some (V (l.getD i 0#32)) := by
  have := range_cell hc i (by simpa using hi)
  rw [Nat.zero_add] at this
  rw [this]
  simp [hi]

set_option maxRecDepth 100000 in
set_option maxHeartbeats 3200000 in
theorem schedule_any (pb po : Nat) (p : List UInt8) (hp : p.length = 64) (w : World) (hc : w.rangeAt pb po (p.map B)) :
    Calls Tryz.prog 94 #[.pointer (some ⟨pb, po, none⟩)] w fun e w' => e = .returned (.agg ((Sha.sched p 64).map V).toArray) ∧ Below w.heap.size w w' := by
  have HC := hide hc
  have hpb : pb < w.heap.size := range_lt hc (by simp [hp])
  clear hc
  go_enter Tryz.func94, Tryz.ntmps94
  go_wp2_with fail
  go_loopw [6] (fun i wr => ∃ k : Nat, k ≤ 16 ∧ i = .int .i64 k ∧ wr.there w.heap.size 0 64 ∧ wr.there (w.heap.size + 1) 0 64 ∧ wr.rangeAt (w.heap.size + 1) 0 ((Sha.sched p k).map V) ∧ Below w.heap.size w wr) (fun i _ => 16 - (intOf i).toNat)
  case atStart =>
    refine ⟨0, Nat.zero_le _, rfl, ?_, ?_, ?_, ?_⟩
    · exact World.there_alloc (there_new w _ _) _
    · exact there_new_at (w.alloc _) _ _ _ _ (by simp) rfl
    · intro j v hv
      simp [Sha.sched] at hv
    · exact ((Below.refl _ _).alloc (Nat.le_refl _) _).alloc (by simp) _
  case round =>
    obtain ⟨k, hk, rfl, ht0, ht1, hr, hb⟩ := hrel
    by_cases hlt : k < 16
    · have hcw := range_below HC.out hb hpb
      have q0 : wr.cell? ⟨pb, po + 4 * k, none⟩ = some (B (p.getD (4 * k) 0)) := piece_cell hcw _ (by omega)
      have q1 : wr.cell? ⟨pb, po + (4 * k + 1), none⟩ = some (B (p.getD (4 * k + 1) 0)) := piece_cell hcw _ (by omega)
      have q2 : wr.cell? ⟨pb, po + (4 * k + 2), none⟩ = some (B (p.getD (4 * k + 2) 0)) := piece_cell hcw _ (by omega)
      have q3 : wr.cell? ⟨pb, po + (4 * k + 3), none⟩ = some (B (p.getD (4 * k + 3) 0)) := piece_cell hcw _ (by omega)
      have f0 : wr.frozen? ⟨w.heap.size + 1, k, none⟩ = false := by simpa using (ht1 k (by omega)).2
      have f1 : (wr.cell? ⟨w.heap.size + 1, k, none⟩).isSome = true := by simpa using (ht1 k (by omega)).1
      obtain ⟨v0, hv0⟩ := Option.isSome_iff_exists.1 f1
      clear f1
      have hne : ∀ j, (⟨w.heap.size + 1, k, none⟩ : Addr) ≠ ⟨pb, j, none⟩ := fun j he => by have := (Addr.mk.inj he).1; omega
      have k0 : (0 : Int) ≤ (k : Int) := Int.natCast_nonneg _
      have k1 : (k : Int) < 64 := by omega
      have H0 := hide ht0
      have H1 := hide ht1
      have H2 := hide hr
      have H3 := hide hb
      clear ht0 ht1 hr hb hcw
      have hword : Hid ((Sha.bw (p.getD (4 * k) 0) <<< 24) ||| (Sha.bw (p.getD (4 * k + 1) 0) <<< 16) ||| (Sha.bw (p.getD (4 * k + 2) 0) <<< 8) ||| Sha.bw (p.getD (4 * k + 3) 0) = Sha.word p k) := rfl
      generalize p.getD (4 * k) 0 = x0 at *
      generalize p.getD (4 * k + 1) 0 = x1 at *
      generalize p.getD (4 * k + 2) 0 = x2 at *
      generalize p.getD (4 * k + 3) 0 = x3 at *
      have m0 : IntKind.i64.wrap (4 * (k : Int)) = 4 * (k : Int) := wrap_small _ (by omega) (by omega)
      have m1 : IntKind.i64.wrap (4 * (k : Int) + 1) = 4 * (k : Int) + 1 := wrap_small _ (by omega) (by omega)
      have m2 : IntKind.i64.wrap (4 * (k : Int) + 2) = 4 * (k : Int) + 2 := wrap_small _ (by omega) (by omega)
      have m3 : IntKind.i64.wrap (4 * (k : Int) + 3) = 4 * (k : Int) + 3 := wrap_small _ (by omega) (by omega)
      have n0 : (4 * (k : Int)).toNat = 4 * k := by omega
      have n1 : (4 * (k : Int) + 1).toNat = 4 * k + 1 := by omega
      have n2 : (4 * (k : Int) + 2).toNat = 4 * k + 2 := by omega
      have n3 : (4 * (k : Int) + 3).toNat = 4 * k + 3 := by omega
      have l0 : (0 : Int) ≤ 4 * (k : Int) ∧ 4 * (k : Int) < 64 := by omega
      have l1 : (0 : Int) ≤ 4 * (k : Int) + 1 ∧ 4 * (k : Int) + 1 < 64 := by omega
      have l2 : (0 : Int) ≤ 4 * (k : Int) + 2 ∧ 4 * (k : Int) + 2 < 64 := by omega
      have l3 : (0 : Int) ≤ 4 * (k : Int) + 3 ∧ 4 * (k : Int) + 3 < 64 := by omega
      go_wp2_with fail
      go_region_held3 (fun w' => w'.cell? ⟨pb, po + 4 * k, none⟩ = some (B x0) ∧ w'.cell? ⟨pb, po + (4 * k + 1), none⟩ = some (B x1) ∧ w'.cell? ⟨pb, po + (4 * k + 2), none⟩ = some (B x2) ∧ w'.cell? ⟨pb, po + (4 * k + 3), none⟩ = some (B x3)) (first | exact keep4 q0 q1 q2 q3 hne | go_keep) (fail)
      rw [be_word, hword.out]
      clear q0 q1 q2 q3 f0 hv0 hne m0 m1 m2 m3 n0 n1 n2 n3 l0 l1 l2 l3
      go_wp2
      go_roundw
      case rel =>
        refine ⟨k + 1, by omega, by go_num, there_set H0.out _ _, there_set H1.out _ _, ?_, (H3.out.setCell (Nat.le_succ _) _).drew⟩
        have hl : ((Sha.sched p k).map V).length = k := by simp [Sha.sched_length]
        have := range_snoc H2.out (V (Sha.word p k)) (by rw [hl]; simpa using (H1.out k (by omega)).1)
        rw [hl] at this
        have e : (Sha.sched p (k + 1)).map V = (Sha.sched p k).map V ++ [V (Sha.word p k)] := by
          simp [Sha.sched, hlt]
        rw [e]
        simpa using this
      case measure => simp [intOf]; omega
    · obtain rfl : k = 16 := by omega
      obtain ⟨wo, rfl⟩ : ∃ wo : World, wo = wr := ⟨_, rfl⟩
      have HT0 := hide ht0
      have HT1 := hide ht1
      have HR := hide hr
      have HBL := hide hb
      clear ht0 ht1 hr hb hlt hk
      go_wp2_with fail
      go_loopw [5] (fun i wr => ∃ k : Nat, 16 ≤ k ∧ k ≤ 64 ∧ i = .int .i64 k ∧ wr.there w.heap.size 0 64 ∧ wr.there (w.heap.size + 1) 0 64 ∧ wr.rangeAt (w.heap.size + 1) 0 ((Sha.sched p k).map V) ∧ Below w.heap.size w wr) (fun i _ => 64 - (intOf i).toNat)
      case atStart => exact ⟨16, Nat.le_refl _, by decide, rfl, HT0.out, HT1.out, HR.out, HBL.out⟩
      case round =>
        obtain ⟨k, hk0, hk, rfl, ht0, ht1, hr, hb⟩ := hrel
        by_cases hlt : k < 64
        · have q0 := word_cell hr (k - 16) (by rw [Sha.sched_length]; omega)
          have q1 := word_cell hr (k - 15) (by rw [Sha.sched_length]; omega)
          have q2 := word_cell hr (k - 7) (by rw [Sha.sched_length]; omega)
          have q3 := word_cell hr (k - 2) (by rw [Sha.sched_length]; omega)
          have f0 : wr.frozen? ⟨w.heap.size + 1, k, none⟩ = false := by simpa using (ht1 k (by omega)).2
          have f1 : (wr.cell? ⟨w.heap.size + 1, k, none⟩).isSome = true := by simpa using (ht1 k (by omega)).1
          obtain ⟨v0, hv0⟩ := Option.isSome_iff_exists.1 f1
          clear f1
          have e0 : (⟨w.heap.size + 1, k, none⟩ : Addr) ≠ ⟨w.heap.size + 1, k - 16, none⟩ := fun he => by have := (Addr.mk.inj he).2.1; omega
          have e1 : (⟨w.heap.size + 1, k, none⟩ : Addr) ≠ ⟨w.heap.size + 1, k - 15, none⟩ := fun he => by have := (Addr.mk.inj he).2.1; omega
          have e2 : (⟨w.heap.size + 1, k, none⟩ : Addr) ≠ ⟨w.heap.size + 1, k - 7, none⟩ := fun he => by have := (Addr.mk.inj he).2.1; omega
          have e3 : (⟨w.heap.size + 1, k, none⟩ : Addr) ≠ ⟨w.heap.size + 1, k - 2, none⟩ := fun he => by have := (Addr.mk.inj he).2.1; omega
          have k0 : (0 : Int) ≤ (k : Int) := Int.natCast_nonneg _
          have k1 : (k : Int) < 64 := by omega
          have hnext : Hid ((Sha.sched p k).getD (k - 16) 0#32 + Sha.s0 ((Sha.sched p k).getD (k - 15) 0#32) + (Sha.sched p k).getD (k - 7) 0#32 + Sha.s1 ((Sha.sched p k).getD (k - 2) 0#32) = Sha.next (Sha.sched p k) k) := rfl
          have H0 := hide ht0
          have H1 := hide ht1
          have H2 := hide hr
          have H3 := hide hb
          clear ht0 ht1 hr hb
          generalize (Sha.sched p k).getD (k - 16) 0#32 = x0 at *
          generalize (Sha.sched p k).getD (k - 15) 0#32 = x1 at *
          generalize (Sha.sched p k).getD (k - 7) 0#32 = x2 at *
          generalize (Sha.sched p k).getD (k - 2) 0#32 = x3 at *
          have m0 : IntKind.i64.wrap ((k : Int) - 16) = (k : Int) - 16 := wrap_small _ (by omega) (by omega)
          have m1 : IntKind.i64.wrap ((k : Int) - 15) = (k : Int) - 15 := wrap_small _ (by omega) (by omega)
          have m2 : IntKind.i64.wrap ((k : Int) - 7) = (k : Int) - 7 := wrap_small _ (by omega) (by omega)
          have m3 : IntKind.i64.wrap ((k : Int) - 2) = (k : Int) - 2 := wrap_small _ (by omega) (by omega)
          have n0 : ((k : Int) - 16).toNat = k - 16 := by omega
          have n1 : ((k : Int) - 15).toNat = k - 15 := by omega
          have n2 : ((k : Int) - 7).toNat = k - 7 := by omega
          have n3 : ((k : Int) - 2).toNat = k - 2 := by omega
          have g0 : (16 : Int) ≤ (k : Int) := by omega
          have g1 : (15 : Int) ≤ (k : Int) := by omega
          have g2 : (7 : Int) ≤ (k : Int) := by omega
          have g3 : (2 : Int) ≤ (k : Int) := by omega
          have l0 : (k : Int) - 16 < 64 := by omega
          have l1 : (k : Int) - 15 < 64 := by omega
          have l2 : (k : Int) - 7 < 64 := by omega
          have l3 : (k : Int) - 2 < 64 := by omega
          go_wp2_with fail
          go_region_held3 (fun w' => w'.cell? ⟨w.heap.size + 1, k - 16, none⟩ = some (V x0) ∧ w'.cell? ⟨w.heap.size + 1, k - 15, none⟩ = some (V x1) ∧ w'.cell? ⟨w.heap.size + 1, k - 7, none⟩ = some (V x2) ∧ w'.cell? ⟨w.heap.size + 1, k - 2, none⟩ = some (V x3)) (first | exact keep4' q0 q1 q2 q3 e0 e1 e2 e3 | go_keep)
            (first | (go_at_call 114; refine (smallSigma0_any _ _).mono ?_; rintro e w' ⟨rfl, rfl⟩) | (go_at_call 115; refine (smallSigma1_any _ _).mono ?_; rintro e w' ⟨rfl, rfl⟩))
          rw [add_next, hnext.out]
          clear q0 q1 q2 q3 f0 hv0 e0 e1 e2 e3 m0 m1 m2 m3 n0 n1 n2 n3 l0 l1 l2 l3 g0 g1 g2 g3
          go_wp2
          go_roundw
          case rel =>
            have hl : ((Sha.sched p k).map V).length = k := by simp [Sha.sched_length]
            have := range_snoc H2.out (V (Sha.next (Sha.sched p k) k)) (by rw [hl]; simpa using (H1.out k (by omega)).1)
            rw [hl] at this
            have e : (Sha.sched p (k + 1)).map V = (Sha.sched p k).map V ++ [V (Sha.next (Sha.sched p k) k)] := by
              simp [Sha.sched, show ¬ k < 16 by omega]
            have R : ((wr.setCell ⟨w.heap.size + 1, k, none⟩ (V (Sha.next (Sha.sched p k) k))).drew).rangeAt (w.heap.size + 1) 0 ((Sha.sched p (k + 1)).map V) := by
              rw [e]
              simpa using this
            have R3 : Below w.heap.size w ((wr.setCell ⟨w.heap.size + 1, k, none⟩ (V (Sha.next (Sha.sched p k) k))).drew) := (H3.out.setCell (Nat.le_succ _) _).drew
            first
              | exact ⟨k + 1, by omega, by omega, by go_num, there_set H0.out _ _, there_set H1.out _ _, R, R3⟩
              | ((repeat apply Exists.intro); exact ⟨⟨k + 1, by omega, by omega, by go_num, there_set H0.out _ _, there_set H1.out _ _, R, R3⟩, rfl⟩)
          case measure => simp [intOf]; omega
        · obtain rfl : k = 64 := by omega
          have H0 := hide ht0
          have H2 := hide hr
          have H3 := hide hb
          clear ht0 ht1 hr hb
          have hi : (Tryz.prog.info? 132).map (·.size) = some ((Sha.sched p 64).map V).length := by rw [List.length_map, Sha.sched_length]; exact size64
          have hi2 : (Tryz.prog.info? 132).map (·.size) = some ((Sha.sched p 64).map V).toArray.size := by rw [List.size_toArray]; exact hi
          have h1 : ((Sha.sched p 64).map V).toArray.all (·.oneCell') = true := all_oneCell_toArray (by intro v hv; obtain ⟨x, _, rfl⟩ := List.mem_map.1 hv; rfl)
          have hls : ((Sha.sched p 64).map V).toArray.size = 64 := by simp [Sha.sched_length]
          have ht : wr.there w.heap.size 0 ((Sha.sched p 64).map V).toArray.size := by rw [hls]; exact H0.out
          have HI := hide hi
          have HI2 := hide hi2
          have HO := hide h1
          have HT := hide ht
          clear hi hi2 h1 ht hls
          generalize hL : (Sha.sched p 64).map V = L at *
          have HLL := hide hL
          clear hL
          go_wp2_with (first | (refine wpList_load_mid rfl 132 (.tmp 3) rfl (w.heap.size + 1) 0 rfl L _ H2.out Tryz.underlying132 rfl HI.out ?_) | (refine wpList_store_mid rfl 132 (.tmp 2) (.tmp 76) rfl w.heap.size 0 L.toArray rfl rfl HT.out HI2.out HO.out ?_))
          refine bodyPost_ret (v := .agg L.toArray) (results_cell1 (b := w.heap.size) (o := 0) (cs := L) Tryz.results94 _ rfl ?_ Tryz.underlying132 rfl HI.out) rfl ⟨by rw [HLL.out], ?_⟩
          · have := World.rangeAt_setCells_same wr w.heap.size 0 L (by simpa using HT.out)
            simpa using this
          · exact below_setCells H3.out (Nat.le_refl _) _ _
end Go.Proofs.YtocpikgcbibcoaaGreatDoor.shaw

namespace Go.Proofs.YtocpikgcbibcoaaGreatDoor.shaw
open Go.ChangeShapes Go.WideShapes Go.ChangeAt Go.RowKit Go.Proofs.YtocpikgcbibcoaaGreatDoor.common
attribute [local go_sem ↓] Go.wp_at_zero Go.wp_at_succ

/-- the round words lie in their table -/
def RW (w : World) : Prop := ∀ i : Nat, i < 64 → w.cell? ⟨18, i, none⟩ = some (V (Sha.K.getD i 0#32))

theorem RW.lt {w : World} (h : RW w) : 18 < w.heap.size := World.block_lt_of_cell? w _ (h 0 (by decide))
theorem RW.below {w w' : World} {B : Nat} (h : RW w) (hb : Below B w w') (hB : 18 < B) : RW w' := fun i hi => by
  rw [← h i hi]; exact hb.cell (p := ⟨18, i, none⟩) hB

theorem w_add (a b : BitVec 32) : IntKind.u32.wrap ((a.toNat : Int) + (b.toNat : Int)) = ((a + b).toNat : Int) := by rw [wrap_u, b_add]

theorem b_notmax (a : BitVec 32) : bits .xor .u32 IntKind.u32.max (a.toNat : Int) = ((~~~a).toNat : Int) := by
  have hm : IntKind.u32.max = ((4294967295#32).toNat : Int) := by decide
  rw [hm, b_xor]
  have : 4294967295#32 ^^^ a = ~~~a := by
    apply BitVec.eq_of_getLsbD_eq; intro i hi
    have f : (4294967295#32).getLsbD i = true := by
      have : ∀ k : Fin 32, (4294967295#32).getLsbD k.val = true := by decide
      exact this ⟨i, hi⟩
    simp only [BitVec.getLsbD_xor, f, BitVec.getLsbD_not, hi]; simp
  rw [this]

theorem size8 : (Tryz.prog.info? 115).map (·.size) = some 8 := by kernel_rfl

theorem sched_vals (p : List UInt8) : ((Sha.sched p 64).map V).length = 64 := by simp [Sha.sched_length]

/-- what a piece's rounds find in memory -/
structure Found (w W : World) (g : Nat) (v : Sha.St) (LL : List Value) : Prop where
  st : W.rangeAt w.heap.size 0 [V v.a, V v.b, V v.c, V v.d, V v.e, V v.f, V v.g, V v.h]
  out : W.there (w.heap.size + 1) 0 8
  plan : W.rangeAt g 0 LL
  rw : RW W
  below : Below w.heap.size w W

theorem Found.drewN {w W : World} {g : Nat} {v : Sha.St} {LL : List Value} (h : Found w W g v LL) (n : Nat) : Found w (W.drewN n) g v LL :=
  ⟨h.st, h.out, h.plan, h.rw, below_drewN h.below n⟩

theorem found_at {w w1 : World} {v : Sha.St} {LL : List Value} (C D : Array Value) (t : TypeId) (hD : D.size = 8) (hC : C.size = LL.length) (hk : RW w)
    (hb1 : Below ((w.alloc (.cells #[V v.a, V v.b, V v.c, V v.d, V v.e, V v.f, V v.g, V v.h] 115)).alloc (.cells D 115)).heap.size ((w.alloc (.cells #[V v.a, V v.b, V v.c, V v.d, V v.e, V v.f, V v.g, V v.h] 115)).alloc (.cells D 115)) w1) :
    Found w ((w1.alloc (.cells C t)).setCells w1.heap.size 0 LL) w1.heap.size v LL := by
  have hz : w.heap.size + 2 ≤ w1.heap.size := by have := hb1.size; simpa using this
  have b1 : Below w1.heap.size w1 ((w1.alloc (.cells C t)).setCells w1.heap.size 0 LL) := below_setCells ((Below.refl w1.heap.size w1).alloc (Nat.le_refl _) _) (Nat.le_refl _) _ _
  have r0 : ((w.alloc (.cells #[V v.a, V v.b, V v.c, V v.d, V v.e, V v.f, V v.g, V v.h] 115)).alloc (.cells D 115)).rangeAt w.heap.size 0 [V v.a, V v.b, V v.c, V v.d, V v.e, V v.f, V v.g, V v.h] := World.rangeAt_alloc (range_new_at w _ _ _ _ rfl rfl) _
  have t0 : ((w.alloc (.cells #[V v.a, V v.b, V v.c, V v.d, V v.e, V v.f, V v.g, V v.h] 115)).alloc (.cells D 115)).there (w.heap.size + 1) 0 8 := there_new_at (w.alloc _) D _ _ _ (by simp) hD.symm
  have b2 : Below w.heap.size w w1 := (((Below.refl w.heap.size w).alloc (Nat.le_refl _) _).alloc (by simp) _).trans (hb1.mono (by simp; omega))
  refine ⟨?_, ?_, ?_, ?_, ?_⟩
  · exact range_below (range_below r0 hb1 (by simp; omega)) b1 (by omega)
  · exact there_below (there_below t0 hb1 (by simp)) b1 (by omega)
  · exact World.rangeAt_setCells_same _ _ _ _ (there_new_at w1 C _ _ _ rfl hC.symm)
  · exact (hk.below b2 hk.lt).below b1 (by have := hk.lt; omega)
  · exact b2.trans (b1.mono (by omega))

set_option maxRecDepth 100000 in
set_option maxHeartbeats 800000 in
theorem takePiece_any (v : Sha.St) (pb po : Nat) (p : List UInt8) (hp : p.length = 64) (w : World) (hc : w.rangeAt pb po (p.map B)) (hk : RW w) :
    Calls Tryz.prog 78 #[.agg #[V v.a, V v.b, V v.c, V v.d, V v.e, V v.f, V v.g, V v.h], .pointer (some ⟨pb, po, none⟩)] w fun e w' => e = .returned (.agg ((Sha.words (Sha.comp v p)).map V).toArray) ∧ Below w.heap.size w w' := by
  have HC := hide hc
  have HK := hide hk
  have HP := hide hp
  clear hc hk hp
  obtain ⟨R, hR⟩ : ∃ R, (Sha.words (Sha.comp v p)).map V = R := ⟨_, rfl⟩
  rw [hR]
  have HRR := hide hR
  clear hR
  go_enter Tryz.func78, Tryz.ntmps78
  go_upto_region 1 with fail
  go_cut [5] (fun s wx => ∃ g, s = .pointer (some ⟨g, 0, none⟩) ∧ Found w wx g v ((Sha.sched p 64).map V))
  case first =>
    go_wp2_with fail
    refine (schedule_any pb po p HP.out _ (World.rangeAt_alloc (World.rangeAt_alloc HC.out _) _)).mono ?_
    rintro e w1 ⟨rfl, hb1⟩
    have hlen := sched_vals p
    have HI : Hid ((Tryz.prog.info? 132).map (·.size) = some ((Sha.sched p 64).map V).toArray.size) := by
      show _ = _
      rw [List.size_toArray, hlen]; exact size64
    have HO : Hid (((Sha.sched p 64).map V).toArray.all (·.oneCell') = true) := all_oneCell_toArray (by intro v hv; obtain ⟨x, _, rfl⟩ := List.mem_map.1 hv; rfl)
    have HSZ : Hid (((Sha.sched p 64).map V).toArray.size = 64) := by show _ = _; rw [List.size_toArray, hlen]
    have HF : Hid (Found w ((w1.alloc (.cells #[.int .u32 0, .int .u32 0, .int .u32 0, .int .u32 0, .int .u32 0, .int .u32 0, .int .u32 0, .int .u32 0, .int .u32 0, .int .u32 0, .int .u32 0, .int .u32 0, .int .u32 0, .int .u32 0, .int .u32 0, .int .u32 0, .int .u32 0, .int .u32 0, .int .u32 0, .int .u32 0, .int .u32 0, .int .u32 0, .int .u32 0, .int .u32 0, .int .u32 0, .int .u32 0, .int .u32 0, .int .u32 0, .int .u32 0, .int .u32 0, .int .u32 0, .int .u32 0, .int .u32 0, .int .u32 0, .int .u32 0, .int .u32 0, .int .u32 0, .int .u32 0, .int .u32 0, .int .u32 0, .int .u32 0, .int .u32 0, .int .u32 0, .int .u32 0, .int .u32 0, .int .u32 0, .int .u32 0, .int .u32 0, .int .u32 0, .int .u32 0, .int .u32 0, .int .u32 0, .int .u32 0, .int .u32 0, .int .u32 0, .int .u32 0, .int .u32 0, .int .u32 0, .int .u32 0, .int .u32 0, .int .u32 0, .int .u32 0, .int .u32 0, .int .u32 0] 132)).setCells w1.heap.size 0 ((Sha.sched p 64).map V)) w1.heap.size v ((Sha.sched p 64).map V)) := found_at _ _ _ rfl (by rw [hlen]; rfl) HK.out hb1
    clear hb1 hlen
    generalize (Sha.sched p 64).map V = LL at *
    go_wp2_with (refine wpList_store_mid (by rfl) 132 (.tmp 5) (.tmp 18) (by rfl) w1.heap.size 0 LL.toArray (by rfl) (by rfl) ?st HI.out HO.out ?_)
    case st => exact there_new_at w1 _ _ _ _ rfl HSZ.out
    go_meet
    case rel => exact ⟨w1.heap.size, rfl, HF.out⟩
  case rest =>
    obtain ⟨g, rfl, hF⟩ := hcut
    have HF := hide hF
    clear hF
    have HLen : Hid ((Sha.sched p 64).length = 64) := Sha.sched_length p 64
    have HRR2 : Hid ((Sha.words (Sha.add v (Sha.rounds v (Sha.sched p 64) 64))).map V = R) := HRR.out
    generalize Sha.sched p 64 = L at *
    have c0 : wc.cell? ⟨w.heap.size, 0, none⟩ = some (V v.a) := by simpa using range_cell HF.out.st 0 (by simp)
    have c1 : wc.cell? ⟨w.heap.size, 1, none⟩ = some (V v.b) := by simpa using range_cell HF.out.st 1 (by simp)
    have c2 : wc.cell? ⟨w.heap.size, 2, none⟩ = some (V v.c) := by simpa using range_cell HF.out.st 2 (by simp)
    have c3 : wc.cell? ⟨w.heap.size, 3, none⟩ = some (V v.d) := by simpa using range_cell HF.out.st 3 (by simp)
    have c4 : wc.cell? ⟨w.heap.size, 4, none⟩ = some (V v.e) := by simpa using range_cell HF.out.st 4 (by simp)
    have c5 : wc.cell? ⟨w.heap.size, 5, none⟩ = some (V v.f) := by simpa using range_cell HF.out.st 5 (by simp)
    have c6 : wc.cell? ⟨w.heap.size, 6, none⟩ = some (V v.g) := by simpa using range_cell HF.out.st 6 (by simp)
    have c7 : wc.cell? ⟨w.heap.size, 7, none⟩ = some (V v.h) := by simpa using range_cell HF.out.st 7 (by simp)
    go_wp2_with fail
    go_quiet (fail)
    go_wp2_with fail
    go_loopw [6, 7, 8, 9, 10, 11, 12, 13, 35] (fun xa xb xc xd xe xf xg xh i wr => ∃ k : Nat, k ≤ 64 ∧ i = .int .i64 k ∧ xa = V (Sha.rounds v L k).a ∧ xb = V (Sha.rounds v L k).b ∧ xc = V (Sha.rounds v L k).c ∧ xd = V (Sha.rounds v L k).d ∧ xe = V (Sha.rounds v L k).e ∧ xf = V (Sha.rounds v L k).f ∧ xg = V (Sha.rounds v L k).g ∧ xh = V (Sha.rounds v L k).h ∧ Found w wr g v (L.map V)) (fun _ _ _ _ _ _ _ _ i _ => 64 - (intOf i).toNat)
    case atStart => exact ⟨0, Nat.zero_le _, rfl, rfl, rfl, rfl, rfl, rfl, rfl, rfl, rfl, HF.out.drewN _⟩
    case round =>
      obtain ⟨k, hk, rfl, rfl, rfl, rfl, rfl, rfl, rfl, rfl, rfl, hF⟩ := hrel
      by_cases hlt : k < 64
      · have q0 := hF.rw k hlt
        have q1 : wr.cell? ⟨g, k, none⟩ = some (V (L.getD k 0#32)) := word_cell hF.plan k (by rw [HLen.out]; exact hlt)
        have hrd : Hid (Sha.round (Sha.rounds v L k) (Sha.K.getD k 0#32) (L.getD k 0#32) = Sha.rounds v L (k + 1)) := rfl
        have k0 : (0 : Int) ≤ (k : Int) := Int.natCast_nonneg _
        have k1 : (k : Int) < 64 := by omega
        have HF1 := hide hF
        clear hF
        generalize Sha.rounds v L k = st at *
        generalize Sha.K.getD k 0#32 = kk at *
        generalize L.getD k 0#32 = ww at *
        obtain ⟨ra, rb, rc, rd, re, rf, rg, rh⟩ := st
        have x3 := b_and re rf
        have x4 := b_notmax re
        have x4b : bits .xor .u32 (if IntKind.u32.signed = true then -1 else IntKind.u32.max) (re.toNat : Int) = ((~~~re).toNat : Int) := b_notmax re
        have x5 := b_and (~~~re) rg
        have x6 : bits .xor .u32 ((re &&& rf).toNat : Int) ((~~~re &&& rg).toNat : Int) = ((Sha.ch re rf rg).toNat : Int) := b_xor _ _
        have x7 := w_add rh (Sha.S1 re)
        have x8 := w_add (rh + Sha.S1 re) (Sha.ch re rf rg)
        have x9 := w_add (rh + Sha.S1 re + Sha.ch re rf rg) kk
        have x10 : IntKind.u32.wrap (((rh + Sha.S1 re + Sha.ch re rf rg + kk).toNat : Int) + (ww.toNat : Int)) = ((Sha.t1 ⟨ra, rb, rc, rd, re, rf, rg, rh⟩ kk ww).toNat : Int) := w_add _ _
        have y7 := b_add rh (Sha.S1 re)
        have y8 := b_add (rh + Sha.S1 re) (Sha.ch re rf rg)
        have y9 := b_add (rh + Sha.S1 re + Sha.ch re rf rg) kk
        have y10 : (((rh + Sha.S1 re + Sha.ch re rf rg + kk).toNat : Int) + (ww.toNat : Int)) % 4294967296 = ((Sha.t1 ⟨ra, rb, rc, rd, re, rf, rg, rh⟩ kk ww).toNat : Int) := b_add _ _
        have z3 := b_and ra rb
        have z4 := b_and ra rc
        have z5 := b_xor (ra &&& rb) (ra &&& rc)
        have z6 := b_and rb rc
        have z7 : bits .xor .u32 (((ra &&& rb) ^^^ (ra &&& rc)).toNat : Int) ((rb &&& rc).toNat : Int) = ((Sha.maj ra rb rc).toNat : Int) := b_xor _ _
        have z8 : ((Sha.S0 ra).toNat + (Sha.maj ra rb rc).toNat : Int) % 4294967296 = ((Sha.t2 ⟨ra, rb, rc, rd, re, rf, rg, rh⟩).toNat : Int) := b_add _ _
        generalize (rh + Sha.S1 re + Sha.ch re rf rg + kk) = n1 at *
        generalize (rh + Sha.S1 re + Sha.ch re rf rg) = n2 at *
        generalize (rh + Sha.S1 re) = n3 at *
        generalize Sha.ch re rf rg = n4 at *
        generalize (~~~re &&& rg) = n5 at *
        generalize (~~~re) = n6 at *
        generalize (re &&& rf) = n7 at *
        generalize Sha.maj ra rb rc = n8 at *
        generalize ((ra &&& rb) ^^^ (ra &&& rc)) = n9 at *
        generalize (rb &&& rc) = n10 at *
        generalize (ra &&& rb) = n11 at *
        generalize (ra &&& rc) = n12 at *
        generalize hT1 : Sha.t1 ⟨ra, rb, rc, rd, re, rf, rg, rh⟩ kk ww = T1 at *
        generalize hT2 : Sha.t2 ⟨ra, rb, rc, rd, re, rf, rg, rh⟩ = T2 at *
        have u1 := b_add T1 T2
        have u2 := b_add rd T1
        generalize hA : T1 + T2 = na at *
        generalize hE : rd + T1 = ne at *
        have HT1 := hide hT1
        have HT2 := hide hT2
        have HA := hide hA
        have HE := hide hE
        clear hT1 hT2 hA hE
        go_wp2_with fail
        go_quiet ((go_at_call 95; exact Calls.quiet_of_same (bigSigma1_any _ _)))
        go_wp2_with (go_at_call 96; refine (bigSigma0_any _ _).mono ?_; rintro e w' ⟨rfl, rfl⟩)
        refine ⟨⟨k + 1, by omega, by go_num, ?_, ?_, ?_, ?_, ?_, ?_, ?_, ?_, HF1.out.drewN _⟩, by simp [intOf]; omega⟩
        · rw [← hrd.out, b_add, ← HT1.out, ← HT2.out]; rfl
        · rw [← hrd.out]; rfl
        · rw [← hrd.out]; rfl
        · rw [← hrd.out]; rfl
        · rw [← hrd.out, b_add, ← HT1.out]; rfl
        · rw [← hrd.out]; rfl
        · rw [← hrd.out]; rfl
        · rw [← hrd.out]; rfl
      · obtain rfl : k = 64 := by omega
        obtain ⟨wo, rfl⟩ : ∃ wo : World, wo = wr := ⟨_, rfl⟩
        have HF1 := hide hF
        clear hF
        have d0 : wo.cell? ⟨w.heap.size, 0, none⟩ = some (V v.a) := by simpa using range_cell HF1.out.st 0 (by simp)
        have d1 : wo.cell? ⟨w.heap.size, 1, none⟩ = some (V v.b) := by simpa using range_cell HF1.out.st 1 (by simp)
        have d2 : wo.cell? ⟨w.heap.size, 2, none⟩ = some (V v.c) := by simpa using range_cell HF1.out.st 2 (by simp)
        have d3 : wo.cell? ⟨w.heap.size, 3, none⟩ = some (V v.d) := by simpa using range_cell HF1.out.st 3 (by simp)
        have d4 : wo.cell? ⟨w.heap.size, 4, none⟩ = some (V v.e) := by simpa using range_cell HF1.out.st 4 (by simp)
        have d5 : wo.cell? ⟨w.heap.size, 5, none⟩ = some (V v.f) := by simpa using range_cell HF1.out.st 5 (by simp)
        have d6 : wo.cell? ⟨w.heap.size, 6, none⟩ = some (V v.g) := by simpa using range_cell HF1.out.st 6 (by simp)
        have d7 : wo.cell? ⟨w.heap.size, 7, none⟩ = some (V v.h) := by simpa using range_cell HF1.out.st 7 (by simp)
        have HW := hide HRR2.out
        clear HRR2
        generalize Sha.rounds v L 64 = st at *
        have a0 := b_add v.a st.a
        have a1 := b_add v.b st.b
        have a2 := b_add v.c st.c
        have a3 := b_add v.d st.d
        have a4 := b_add v.e st.e
        have a5 := b_add v.f st.f
        have a6 := b_add v.g st.g
        have a7 := b_add v.h st.h
        have hws : Hid ([V (v.a + st.a), V (v.b + st.b), V (v.c + st.c), V (v.d + st.d), V (v.e + st.e), V (v.f + st.f), V (v.g + st.g), V (v.h + st.h)] = R) := HW.out
        generalize v.a + st.a = o0 at *
        generalize v.b + st.b = o1 at *
        generalize v.c + st.c = o2 at *
        generalize v.d + st.d = o3 at *
        generalize v.e + st.e = o4 at *
        generalize v.f + st.f = o5 at *
        generalize v.g + st.g = o6 at *
        generalize v.h + st.h = o7 at *
        go_wp2_with (refine wpList_store_mid (by rfl) 115 (.tmp 4) (.tmp 118) (by rfl) (w.heap.size + 1) 0 #[V o0, V o1, V o2, V o3, V o4, V o5, V o6, V o7] (by rfl) (by rfl) ?st ?hi ?ho ?_)
        case st => exact HF1.out.out
        case hi => exact size8
        case ho => simp [Value.oneCell']
        refine bodyPost_ret (v := .agg #[V o0, V o1, V o2, V o3, V o4, V o5, V o6, V o7]) (results_cell1 (b := w.heap.size + 1) (o := 0) (cs := [V o0, V o1, V o2, V o3, V o4, V o5, V o6, V o7]) Tryz.results78 _ rfl ?_ Tryz.underlying115 rfl size8) rfl ⟨?_, ?_⟩
        · exact World.rangeAt_setCells_same wo (w.heap.size + 1) 0 [V o0, V o1, V o2, V o3, V o4, V o5, V o6, V o7] HF1.out.out
        · rw [← hws.out]
        · exact below_setCells HF1.out.below (Nat.le_succ _) _ _
end Go.Proofs.YtocpikgcbibcoaaGreatDoor.shaw
