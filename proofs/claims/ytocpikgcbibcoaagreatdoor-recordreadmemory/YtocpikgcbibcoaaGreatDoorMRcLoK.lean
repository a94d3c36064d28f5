import Derived.Test.YtocpikgcbibcoaaGreatDoorMRcTidM
import Derived.Deep.AppendLies
import Derived.Deep.RegionLaw
import Derived.Test.YtocpikgcbibcoaaGreatDoorMPickWalk
import Derived.Test.YtocpikgcbibcoaaGreatDoorMRcTdA
namespace Go.Proofs.YtocpikgcbibcoaaGreatDoor.rc
open Go.ChangeShapes Go.WideShapes Go.ChangeAt Go.RowKit Go.Proofs.YtocpikgcbibcoaaGreatDoor.common Go.Proofs.YtocpikgcbibcoaaGreatDoor.dk
attribute [local go_sem ↓] Go.wp_at_zero Go.wp_at_succ

theorem step_callsK {P : Program} {ops : Array Oper} {o : Oper} {a : Act} {w : World} {K : Act → World → Prop} {Q : Exit → Act → World → Prop} {E : Prop} (hgd : o.guard = none) {f : FuncId} {args : Array Value} {v : Value} {post : World → Prop}
    (hx : (execOp a.eval o).run P w = .ok (.enter f args) w) (hC : Calls P f args w fun e w' => e = .returned v ∧ post w') (hK : ∀ w', post w' → K (a.put o.dst v) w') : if Region.wanted o (yielded ops a.tmps) = true then Oper.wp P o a w K Q else E := by
  have hw : Region.wanted o (yielded ops a.tmps) = true := by simp [Region.wanted, hgd]
  rw [if_pos hw]
  unfold Oper.wp
  rw [hx, Oper.upon_enter]
  refine hC.mono ?_
  rintro e w' ⟨rfl, h⟩
  exact hK w' h
set_option maxRecDepth 100000 in
set_option maxHeartbeats 6400000 in
theorem scopesOf_any (v : Value) (l : List ByteArray) (w : World) (hL : ss.Lies w v l) (hs : ∀ s ∈ l, s.size ≤ 4611686018427387904) :
    Calls Tryz.prog 34 #[v] w fun e w' => ∃ v', e = .returned v' ∧ w'.ownsRow w.heap.size 9 1 v' (scT l).length ((scT l).map Value.string) ∧ Below w.heap.size w w' := by
  obtain ⟨oa, cap, rfl, hc⟩ := hL
  obtain ⟨i0, hi, hz0, hz1, hz2⟩ := info_parts infoSt9
  have HC := hide hc
  have HS := hide hs
  have HO0 := hide (own_one w w.heap.size (Nat.le_refl _) (.string ⟨#[97]⟩) 9)
  have HB0 : Hid (Below w.heap.size w (w.alloc (.cells #[.string ⟨#[97]⟩] 9))) := (Below.refl _ _).alloc (Nat.le_refl _) _
  clear hc hs
  go_enter Tryz.func34, Tryz.ntmps34
  go_wp2_with fail
  go_loopw [3, 4] (fun vo i wr => ∃ k : Nat, k ≤ l.length ∧ k ≤ 15 ∧ i = .int .i64 (k : Int) ∧ wr.ownsRow w.heap.size 9 1 vo (scT (l.take k)).length ((scT (l.take k)).map Value.string) ∧ Below w.heap.size w wr) (fun _ i _ => 15 - (intOf i).toNat)
  case atStart => exact ⟨0, Nat.zero_le _, Nat.zero_le _, rfl, HO0.out, HB0.out⟩
  case round =>
    obtain ⟨k, hk, hk15, rfl, hown, hbl⟩ := hrel
    have HO := hide hown
    have HBL := hide hbl
    have hsz := hbl.size
    obtain ⟨oo, co, rfl⟩ := own_slice hown
    have HLN : Hid ((scT (l.take k)).length = k + 1) := by show _ = _; rw [scT_len, List.length_take]; omega
    obtain ⟨L, hLL⟩ : ∃ L, L = (scT (l.take k)).length := ⟨_, rfl⟩
    rw [← hLL] at HO HLN hown ⊢
    have HLL := hide hLL
    have hL1 : L ≤ 16 := by have := HLN.out; omega
    clear hLL
    by_cases hlt : k < l.length
    · have j1 : (k : Int) < (l.length : Int) := by omega
      by_cases hf : k < 15
      · have j2 : (k : Int) < 15 := by omega
        have k0 : (0 : Int) ≤ (k : Int) := Int.natCast_nonneg _
        obtain ⟨b, o, rfl, hb, c0⟩ := HC.out k hlt
        have c1 : wr.cell? ⟨b, o + k, none⟩ = some (.string l[k]) := (hbl.cell hb).trans c0
        have HK : Hid (∀ W, Calls Tryz.prog 35 #[.string l[k], .int .u8 33, .int .u8 126, .int .u8 34, .int .u8 92, .int .i64 31] W fun e w' => e = .returned (.string ⟨(kpL l[k].data.toList 33 126 34 92 31).toArray⟩) ∧ Below W.heap.size W w') := fun W =>
          kept_any l[k] 33 126 34 92 31 W (HS.out _ (List.getElem_mem hlt)) (by decide)
        have HC0 := hide c0
        clear hown hbl c0
        have n1 := World.new_ne wr _ c1
        obtain ⟨C, hC⟩ : ∃ C : UInt8, C = UInt8.ofNat (98 + k) := ⟨_, rfl⟩
        have hCn : C.toNat = 98 + k := by rw [hC, UInt8.toNat_ofNat']; exact Nat.mod_eq_of_lt (by omega)
        have e1 : IntKind.i64.wrap (98 + (k : Int)) = ((C.toNat : Nat) : Int) := by rw [hCn]; unfold IntKind.wrap; simp [IntKind.bits, IntKind.signed]; omega
        have e2 : IntKind.u8.wrap ((C.toNat : Nat) : Int) = ((C.toNat : Nat) : Int) := by rw [hCn]; unfold IntKind.wrap; simp [IntKind.bits, IntKind.signed]; omega
        have HCC := hide hC
        have HCN := hide hCn
        clear hC hCn
        have hcv := conv_rd (rd_drew (one_u8 wr C))
        obtain ⟨D, hD⟩ : ∃ D : ByteArray, D = ⟨[C].toArray⟩ := ⟨_, rfl⟩
        obtain ⟨E, hE⟩ : ∃ E : ByteArray, E = ⟨(kpL l[k].data.toList 33 126 34 92 31).toArray⟩ := ⟨_, rfl⟩
        have hsum : ¬ (9223372036854775807 < D.size + E.size) := by
          have h9 := kp_len l[k].data.toList 33 126 34 92 31
          rw [hD, hE]
          show ¬ (_ < 1 + Array.size _)
          rw [List.size_toArray]
          omega
        rw [← hD] at hcv
        have HCV : Hid (∀ X, Below (wr.alloc (.cells #[.int .u8 ((C.toNat : Nat) : Int)] 5)).drew.heap.size (wr.alloc (.cells #[.int .u8 ((C.toNat : Nat) : Int)] 5)).drew X → (convert 27 9 (.slice (some ⟨wr.heap.size, 0, none⟩) 1 1)).run Tryz.prog X = .ok (.string D) X) := by
          intro X hX
          rw [hD]
          exact conv_rd ((rd_drew (one_u8 wr C)).below hX)
        rw [← hE] at HK
        have HCV2 : Hid (∀ X : World, (convert 27 9 (.slice (some ⟨X.heap.size, 0, none⟩) 1 1)).run Tryz.prog (X.alloc (.cells #[.int .u8 ((C.toNat : Nat) : Int)] 5)) = .ok (.string D) (X.alloc (.cells #[.int .u8 ((C.toNat : Nat) : Int)] 5))) := by
          intro X
          rw [hD]
          exact conv_rd (one_u8 X C)
        have HDE : Hid (D ++ E = scT1 k l[k]) := by show _ = _; rw [hD, hE, HCC.out]; exact scT_add k l[k]
        clear hD hE
        have HBW : Hid (∀ X w1, Below w.heap.size w X → (X.alloc (.cells #[.string (D ++ E)] 9)).grownBy w1 (Value.slice oo L co).ownBlock → Below w.heap.size w w1) := by
          intro X w1 h3 hg
          have h4 := h3.size
          exact (h3.alloc h4 _).grown hg (by simp; omega) (own_ge HO.out)
        have HHM : Hid (∀ X, Below w.heap.size w X → w.heap.size ≤ (X.alloc (.cells #[.string (D ++ E)] 9)).heap.size) := by
          intro X h3
          have h4 := h3.size
          simp
          omega
        have HB2 : Hid (∀ X, Below (wr.alloc (.cells #[.int .u8 ((C.toNat : Nat) : Int)] 5)).drew.heap.size (wr.alloc (.cells #[.int .u8 ((C.toNat : Nat) : Int)] 5)).drew X → Below w.heap.size w X) := by
          intro X h3
          have h5 : w.heap.size ≤ (wr.alloc (.cells #[.int .u8 ((C.toNat : Nat) : Int)] 5)).drew.heap.size := by simp; omega
          exact ((HBL.out.alloc hsz _).drew).trans (h3.mono h5)
        have HB3 : Hid (∀ X, Below wr.drew.heap.size wr.drew X → Below w.heap.size w X) := by
          intro X h3
          exact HBL.out.drew.trans (h3.mono hsz)
        have HNW : Hid (∀ X : World, ((X.alloc (.cells #[.int .u8 ((C.toNat : Nat) : Int)] 5)).alloc (.cells #[.string (D ++ E)] 9)).heap[X.heap.size + 1]? = some (.cells #[.string (D ++ E)] 9)) := by
          intro X
          have h9 := heap_alloc_new (X.alloc (.cells #[.int .u8 ((C.toNat : Nat) : Int)] 5)) (.cells #[.string (D ++ E)] 9)
          have h8 : (X.alloc (.cells #[.int .u8 ((C.toNat : Nat) : Int)] 5)).heap.size = X.heap.size + 1 := by simp
          rwa [h8] at h9
        have HBA : Hid (∀ X, Below w.heap.size w X → Below w.heap.size w (X.alloc (.cells #[.int .u8 ((C.toNat : Nat) : Int)] 5))) := fun X h3 => h3.alloc h3.size _
        have HCE : Hid (∀ X, Below w.heap.size w X → X.cell? ⟨b, o + k, none⟩ = some (.string l[k])) := fun X h3 => (h3.cell (p := ⟨b, o + k, none⟩) hb).trans HC0.out
        have hb1 : b < wr.heap.size := Nat.lt_of_lt_of_le hb hsz
        go_wp2_with fail
        go_region_law (first
          | (refine step_callsK (by rfl) (by simp [go_sem]) (HK.out _) ?_; rintro w3 hb3; have bl3 := HB2.out _ hb3; have hcv3 := HCV.out _ hb3; have c8 := HCE.out _ bl3; have own3 := own_below ((HO.out.alloc _).drew) hb3)
          | (refine step_callsK (by rfl) (by simp [go_sem]) (HK.out _) ?_; rintro w3 hb3; have bl3 := HB3.out _ hb3; have hcv3 := HCV2.out w3; have c8 := HCE.out _ bl3; have own3 := own_below (HO.out.drew) hb3; have n3 := World.new_ne w3 _ c8)
          | (refine step_append_lies _ (by rfl) _ _ _ (by rfl) w.heap.size 9 i0 _ 1 16 Tryz.underlying24 hi hz0 hz1 hz2 rfl (by omega) (.slice oo L co) L _ (by rfl) (own3.alloc _)
              ⟨w3.heap.size, 0, none⟩ 1 1 [.string (D ++ E)] (by rfl) (by rfl) (World.news_of_block (cs := #[.string (D ++ E)]) (t := 9) (fr := (0, 0)) (heap_alloc_new _ _)) (by simp [Value.oneCell'])
              (by omega) (by unfold maxLen; omega) (by omega) (HHM.out _ bl3) (w3.heap.size + 1) (by simp) ?_; intro gg cap' w1 hown1 hgrow hat hlt2; have hbw := HBW.out _ _ bl3 hgrow; have c9 := HCE.out _ hbw)
          | (refine step_append_lies _ (by rfl) _ _ _ (by rfl) w.heap.size 9 i0 _ 1 16 Tryz.underlying24 hi hz0 hz1 hz2 rfl (by omega) (.slice oo L co) L _ (by rfl) ((own3.alloc _).alloc _)
              ⟨w3.heap.size + 1, 0, none⟩ 1 1 [.string (D ++ E)] (by rfl) (by rfl) (World.news_of_block (cs := #[.string (D ++ E)]) (t := 9) (fr := (0, 0)) (HNW.out w3)) (by simp [Value.oneCell'])
              (by omega) (by unfold maxLen; omega) (by omega) (HHM.out _ (HBA.out _ bl3)) (w3.heap.size + 2) (by simp) ?_; intro gg cap' w1 hown1 hgrow hat hlt2; have hbw := HBW.out _ _ (HBA.out _ bl3) hgrow; have c9 := HCE.out _ hbw)
          | fail)
        all_goals
          have HN1 : Hid (w1.ownsRow w.heap.size 9 1 (.slice (some ⟨gg, 0, none⟩) (L + 1) cap') (scT (l.take (k + 1))).length ((scT (l.take (k + 1))).map Value.string)) := by
            show w1.ownsRow _ _ _ _ _ _
            rw [scT_snoc l k hlt hf, List.length_append, List.map_append, ← HLL.out, ← HDE.out]
            exact hown1
          have HB1 := hide hbw
          clear hown1 hgrow hat hlt2 hbw c9 hb3 hcv3 own3 bl3
          go_wp2_with fail
          go_roundw
          case rel => exact ⟨k + 1, by omega, by omega, by go_num, HN1.out, HB1.out⟩
          case measure => simp [intOf]; omega
      · have j2 : ¬ (k : Int) < 15 := by omega
        have HF : Hid (scT (l.take k) = scT l) := scT_all l k (Or.inr hf)
        clear hown hbl
        go_wp2_with fail
        go_ret
        exact ⟨_, rfl, by rw [← HF.out, ← HLL.out]; exact HO.out, HBL.out⟩
    · have j1 : ¬ (k : Int) < (l.length : Int) := by omega
      have HF : Hid (scT (l.take k) = scT l) := scT_all l k (Or.inl hlt)
      clear hown hbl
      go_wp2_with fail
      go_ret
      exact ⟨_, rfl, by rw [← HF.out, ← HLL.out]; exact HO.out, HBL.out⟩
end Go.Proofs.YtocpikgcbibcoaaGreatDoor.rc

namespace Go.Proofs.YtocpikgcbibcoaaGreatDoor.rc
open Go.ChangeShapes Go.WideShapes Go.ChangeAt Go.RowKit Go.Proofs.YtocpikgcbibcoaaGreatDoor.common Go.Proofs.YtocpikgcbibcoaaGreatDoor.dk
attribute [local go_sem ↓] Go.wp_at_zero Go.wp_at_succ

set_option maxRecDepth 100000 in
set_option maxHeartbeats 12800000 in
theorem tidy_3 (r : Rec) (v : Value) (a : Int) (w : World) (hv : Go.Proofs.YtocpikgcbibcoaaGreatDoor.ss.Lies w v r.ss) (hz : TidIn r) (_he : pk.Env w) (hp : kitw.pick (wrap64 (r.k - 1)) 11 = 2) (ha : kitw.pick r.at_ 1099511627777 = a) :
    Calls Tryz.prog 19 #[.agg (rcs r v)] w (TidOut (tid 3 a r) w) := by
  have HP : Hid (∀ X, Calls Tryz.prog 31 #[.int .i64 (wrap64 (r.k - 1)), .int .i64 11] X fun e w' => e = .returned (.int .i64 2) ∧ w' = X) := fun X => by have h := kitw.pick_all (wrap64 (r.k - 1)) 11 X (by decide) (by decide); rw [hp] at h; exact h
  have HA : Hid (∀ X, Calls Tryz.prog 31 #[.int .i64 r.at_, .int .i64 1099511627777] X fun e w' => e = .returned (.int .i64 a) ∧ w' = X) := fun X => by have h := kitw.pick_all r.at_ 1099511627777 X (by decide) (by decide); rw [ha] at h; exact h
  have HU : Hid (∀ X, Below w.heap.size w X → Calls Tryz.prog 33 #[.string r.us] X fun e w' => e = .returned (.string (nmT r.us)) ∧ Below X.heap.size X w') := fun X _ => nameOf_any r.us X hz.us
  have HC : Hid (∀ X, Below w.heap.size w X → Calls Tryz.prog 33 #[.string r.cl] X fun e w' => e = .returned (.string (nmT r.cl)) ∧ Below X.heap.size X w') := fun X _ => nameOf_any r.cl X hz.cl
  have HS : Hid (∀ X, Below w.heap.size w X → Calls Tryz.prog 34 #[v] X fun e w' => ∃ v', e = .returned v' ∧ w'.ownsRow X.heap.size 9 1 v' (scT r.ss).length ((scT r.ss).map Value.string) ∧ Below X.heap.size X w') := fun X hX => scopesOf_any v r.ss X (hv.below hX) hz.ss
  have e9 : tid 3 a r = ⟨3, eB, nmT r.us, nmT r.cl, eB, eB, eB, scT r.ss, a⟩ := rfl
  rw [e9]
  obtain ⟨X0, hX0⟩ : ∃ X0, X0 = (((w.alloc (.cells (rcs r v) 26)).alloc (.cells zrec 26)).alloc (.cells #[.int .i64 3, .string ⟨#[]⟩, .string ⟨#[]⟩, .string ⟨#[]⟩, .string ⟨#[]⟩, .string ⟨#[]⟩, .string ⟨#[]⟩, .slice none 0 0, .int .i64 0] 26)) := ⟨_, rfl⟩
  have T0 := hide (Tq.start w r v 3)
  rw [← hX0] at T0
  have HX0 := hide hX0
  clear hv _he hp ha e9 hX0
  generalize nmT r.us = cU at *
  generalize nmT r.cl = cC at *
  generalize scT r.ss = cS at *
  go_enter Tryz.func19, Tryz.ntmps19
  go_wp2_with fail
  refine (HP.out _).mono ?_
  rintro x w9 ⟨rfl, h9⟩
  obtain rfl := h9.symm
  clear h9
  go_wp2_with fail
  rw [← HX0.out]
  refine (HU.out _ T0.out.bl).mono ?_
  rintro x w1 ⟨rfl, b1⟩
  have S1 := hide (T0.out.keep b1)
  clear b1
  have t1 := S1.out.p2 cU
  have z1 : w1.cell? ⟨w.heap.size + 1 + 1, 2, none⟩ = some _ := cell_of S1.out.qb 2
  have f1 : w1.frozen? ⟨w.heap.size + 1 + 1, 2, none⟩ = false := free_of S1.out.qb 2
  have k1 := cell_of t1.qb 0
  have r1 := cell_of t1.rb 8
  have T1 := hide t1
  clear t1
  go_wp2_with fail
  obtain ⟨X1, hX1⟩ : ∃ X1, X1 = w1.setCell ⟨w.heap.size + 1 + 1, 2, none⟩ (.string cU) := ⟨_, rfl⟩
  rw [← hX1] at T1
  rw [← hX1]
  clear z1 f1 k1 r1 hX1
  refine (HA.out _).mono ?_
  rintro x w9 ⟨rfl, h9⟩
  obtain rfl := h9.symm
  clear h9
  have t2 := T1.out.p8 a
  have z2 : X1.cell? ⟨w.heap.size + 1 + 1, 8, none⟩ = some _ := cell_of T1.out.qb 8
  have f2 : X1.frozen? ⟨w.heap.size + 1 + 1, 8, none⟩ = false := free_of T1.out.qb 8
  have k2 := cell_of t2.qb 0
  have r2 := cell_of t2.rb 3
  have T2 := hide t2
  clear t2
  go_wp2_with fail
  obtain ⟨X2, hX2⟩ : ∃ X2, X2 = X1.setCell ⟨w.heap.size + 1 + 1, 8, none⟩ (.int .i64 a) := ⟨_, rfl⟩
  rw [← hX2] at T2
  rw [← hX2]
  clear z2 f2 k2 r2 hX2
  refine (HC.out _ T2.out.bl).mono ?_
  rintro x w3 ⟨rfl, b3⟩
  have S3 := hide (T2.out.keep b3)
  clear b3
  have t3 := S3.out.p3 cC
  have z3 : w3.cell? ⟨w.heap.size + 1 + 1, 3, none⟩ = some _ := cell_of S3.out.qb 3
  have f3 : w3.frozen? ⟨w.heap.size + 1 + 1, 3, none⟩ = false := free_of S3.out.qb 3
  have k3 := cell_of t3.qb 0
  have r3 := cell_of t3.rb 7
  have T3 := hide t3
  clear t3
  go_wp2_with fail
  obtain ⟨X3, hX3⟩ : ∃ X3, X3 = w3.setCell ⟨w.heap.size + 1 + 1, 3, none⟩ (.string cC) := ⟨_, rfl⟩
  rw [← hX3] at T3
  rw [← hX3]
  clear z3 f3 k3 r3 hX3
  refine (HS.out _ T3.out.bl).mono ?_
  rintro x w4 ⟨u4, rfl, ho4, b4⟩
  obtain ⟨oo, co, rfl⟩ := own_slice ho4
  have S4 := hide (T3.out.keep b4)
  have HO4 := hide (own_least ho4 (by have := T3.out.lt; omega : w.heap.size + 3 ≤ _))
  clear ho4 b4
  have t4 := S4.out.p7 HO4.out
  have z4 : w4.cell? ⟨w.heap.size + 1 + 1, 7, none⟩ = some _ := cell_of S4.out.qb 7
  have f4 : w4.frozen? ⟨w.heap.size + 1 + 1, 7, none⟩ = false := free_of S4.out.qb 7
  have k4 := cell_of t4.qb 0
  have HRQ : Hid (World.rangeAt (w4.setCell ⟨w.heap.size + 1 + 1, 7, none⟩ (.slice oo cS.length co)) (w.heap.size + 1 + 1) 0 (rcs ⟨3, eB, cU, cC, eB, eB, eB, cS, a⟩ (.slice oo cS.length co)).toList) := range_of (t := 26) t4.qb
  have HTZ : Hid (World.there (w4.setCell ⟨w.heap.size + 1 + 1, 7, none⟩ (.slice oo cS.length co)) (w.heap.size + 1) 0 9) := there_of (cur := zrec.toList) t4.zb 0 9 (by simp)
  have HT := hide t4
  clear t4
  go_wp2_with (first
    | (refine wpList_load_mid rfl 26 (.tmp 3) rfl (w.heap.size + 1 + 1) 0 rfl _ _ HRQ.out Tryz.underlying26 rfl sizeRec ?_)
    | (refine wpList_store_mid rfl 26 (.tmp 2) (.tmp 89) rfl (w.heap.size + 1) 0 (rcs ⟨3, eB, cU, cC, eB, eB, eB, cS, a⟩ (.slice oo cS.length co)) rfl rfl HTZ.out sizeRec (rcs_one _ _ _ _) ?_))
  refine bodyPost_ret (results_c rfl _ rfl (World.rangeAt_setCells_same _ (w.heap.size + 1) 0 (rcs ⟨3, eB, cU, cC, eB, eB, eB, cS, a⟩ (.slice oo cS.length co)).toList HTZ.out) Tryz.underlying26 rfl sizeRec) rfl ?_
  refine ⟨_, rfl, own_least (own_at HT.out.own (fun g hg => sets_other _ _ _ _ _ (by omega))) (by omega), ?_⟩
  exact HT.out.bl.trans (((Fr.refl [w.heap.size + 1] _).sets (w.heap.size + 1) 0 _ (Or.inl (List.mem_singleton.2 rfl))).below (fun k hk => by rw [List.mem_singleton.1 hk]; omega) HT.out.bl.size)
end Go.Proofs.YtocpikgcbibcoaaGreatDoor.rc

namespace Go.Proofs.YtocpikgcbibcoaaGreatDoor.rc
open Go.ChangeShapes Go.WideShapes Go.ChangeAt Go.RowKit Go.Proofs.YtocpikgcbibcoaaGreatDoor.common Go.Proofs.YtocpikgcbibcoaaGreatDoor.dk
attribute [local go_sem ↓] Go.wp_at_zero Go.wp_at_succ

set_option maxRecDepth 100000 in
set_option maxHeartbeats 12800000 in
theorem tidy_4 (r : Rec) (v : Value) (a : Int) (w : World) (hv : Go.Proofs.YtocpikgcbibcoaaGreatDoor.ss.Lies w v r.ss) (hz : TidIn r) (he : pk.Env w) (hp : kitw.pick (wrap64 (r.k - 1)) 11 = 3) (ha : kitw.pick r.at_ 1099511627777 = a) :
    Calls Tryz.prog 19 #[.agg (rcs r v)] w (TidOut (tid 4 a r) w) := by
  have HP : Hid (∀ X, Calls Tryz.prog 31 #[.int .i64 (wrap64 (r.k - 1)), .int .i64 11] X fun e w' => e = .returned (.int .i64 3) ∧ w' = X) := fun X => by have h := kitw.pick_all (wrap64 (r.k - 1)) 11 X (by decide) (by decide); rw [hp] at h; exact h
  have HA : Hid (∀ X, Calls Tryz.prog 31 #[.int .i64 r.at_, .int .i64 1099511627777] X fun e w' => e = .returned (.int .i64 a) ∧ w' = X) := fun X => by have h := kitw.pick_all r.at_ 1099511627777 X (by decide) (by decide); rw [ha] at h; exact h
  have HI : Hid (∀ X, Below w.heap.size w X → Calls Tryz.prog 32 #[.string r.id] X fun e w' => e = .returned (.string (pk.ch r.id)) ∧ Below X.heap.size X w') := fun X hX => idOf_any r.id X hz.id (he.below hX)
  have HH : Hid (∀ X, Below w.heap.size w X → Calls Tryz.prog 36 #[.string r.ch] X fun e w' => e = .returned (.string (pk.ch r.ch)) ∧ Below X.heap.size X w') := fun X hX => pk.s256_any r.ch X hz.ch (he.below hX)
  have HU : Hid (∀ X, Below w.heap.size w X → Calls Tryz.prog 33 #[.string r.us] X fun e w' => e = .returned (.string (nmT r.us)) ∧ Below X.heap.size X w') := fun X _ => nameOf_any r.us X hz.us
  have HC : Hid (∀ X, Below w.heap.size w X → Calls Tryz.prog 33 #[.string r.cl] X fun e w' => e = .returned (.string (nmT r.cl)) ∧ Below X.heap.size X w') := fun X _ => nameOf_any r.cl X hz.cl
  have HS : Hid (∀ X, Below w.heap.size w X → Calls Tryz.prog 34 #[v] X fun e w' => ∃ v', e = .returned v' ∧ w'.ownsRow X.heap.size 9 1 v' (scT r.ss).length ((scT r.ss).map Value.string) ∧ Below X.heap.size X w') := fun X hX => scopesOf_any v r.ss X (hv.below hX) hz.ss
  have HR : Hid (∀ X, Below w.heap.size w X → Calls Tryz.prog 35 #[.string r.rd, .int .u8 97, .int .u8 122, .int .u8 0, .int .u8 0, .int .i64 490] X fun e w' => e = .returned (.string ⟨(kpL r.rd.data.toList 97 122 0 0 490).toArray⟩) ∧ Below X.heap.size X w') := fun X _ => kept_any r.rd 97 122 0 0 490 X hz.rd (by decide)
  have HRD := hide (rd_add r.rd)
  have hRL : (⟨(kpL r.rd.data.toList 97 122 0 0 490).toArray⟩ : ByteArray).size ≤ 490 := by
    have := kp_len r.rd.data.toList 97 122 0 0 490
    show Array.size _ ≤ 490
    simpa using this
  have e9 : tid 4 a r = ⟨4, pk.ch r.id, nmT r.us, nmT r.cl, rdT r.rd, pk.ch r.ch, eB, scT r.ss, a⟩ := rfl
  rw [e9]
  obtain ⟨X0, hX0⟩ : ∃ X0, X0 = (((w.alloc (.cells (rcs r v) 26)).alloc (.cells zrec 26)).alloc (.cells #[.int .i64 4, .string ⟨#[]⟩, .string ⟨#[]⟩, .string ⟨#[]⟩, .string ⟨#[]⟩, .string ⟨#[]⟩, .string ⟨#[]⟩, .slice none 0 0, .int .i64 0] 26)) := ⟨_, rfl⟩
  have T0 := hide (Tq.start w r v 4)
  rw [← hX0] at T0
  have HX0 := hide hX0
  generalize (⟨(kpL r.rd.data.toList 97 122 0 0 490).toArray⟩ : ByteArray) = K at *
  clear hv he hp ha e9 hX0
  generalize pk.ch r.id = cI at *
  generalize pk.ch r.ch = cH at *
  generalize nmT r.us = cU at *
  generalize nmT r.cl = cC at *
  generalize scT r.ss = cS at *
  generalize rdT r.rd = cR at *
  go_enter Tryz.func19, Tryz.ntmps19
  go_wp2_with fail
  refine (HP.out _).mono ?_
  rintro x w9 ⟨rfl, h9⟩
  obtain rfl := h9.symm
  clear h9
  go_wp2_with fail
  rw [← HX0.out]
  refine (HI.out _ T0.out.bl).mono ?_
  rintro x w1 ⟨rfl, b1⟩
  have S1 := hide (T0.out.keep b1)
  clear b1
  have t1 := S1.out.p1 cI
  have z1 : w1.cell? ⟨w.heap.size + 1 + 1, 1, none⟩ = some _ := cell_of S1.out.qb 1
  have f1 : w1.frozen? ⟨w.heap.size + 1 + 1, 1, none⟩ = false := free_of S1.out.qb 1
  have k1 := cell_of t1.qb 0
  have r1 := cell_of t1.rb 2
  have T1 := hide t1
  clear t1
  go_wp2_with fail
  obtain ⟨X1, hX1⟩ : ∃ X1, X1 = w1.setCell ⟨w.heap.size + 1 + 1, 1, none⟩ (.string cI) := ⟨_, rfl⟩
  rw [← hX1] at T1
  rw [← hX1]
  clear z1 f1 k1 r1 hX1
  refine (HU.out _ T1.out.bl).mono ?_
  rintro x w2 ⟨rfl, b2⟩
  have S2 := hide (T1.out.keep b2)
  clear b2
  have t2 := S2.out.p2 cU
  have z2 : w2.cell? ⟨w.heap.size + 1 + 1, 2, none⟩ = some _ := cell_of S2.out.qb 2
  have f2 : w2.frozen? ⟨w.heap.size + 1 + 1, 2, none⟩ = false := free_of S2.out.qb 2
  have k2 := cell_of t2.qb 0
  have r2 := cell_of t2.rb 8
  have T2 := hide t2
  clear t2
  go_wp2_with fail
  obtain ⟨X2, hX2⟩ : ∃ X2, X2 = w2.setCell ⟨w.heap.size + 1 + 1, 2, none⟩ (.string cU) := ⟨_, rfl⟩
  rw [← hX2] at T2
  rw [← hX2]
  clear z2 f2 k2 r2 hX2
  refine (HA.out _).mono ?_
  rintro x w9 ⟨rfl, h9⟩
  obtain rfl := h9.symm
  clear h9
  have t3 := T2.out.p8 a
  have z3 : X2.cell? ⟨w.heap.size + 1 + 1, 8, none⟩ = some _ := cell_of T2.out.qb 8
  have f3 : X2.frozen? ⟨w.heap.size + 1 + 1, 8, none⟩ = false := free_of T2.out.qb 8
  have k3 := cell_of t3.qb 0
  have r3 := cell_of t3.rb 3
  have T3 := hide t3
  clear t3
  go_wp2_with fail
  obtain ⟨X3, hX3⟩ : ∃ X3, X3 = X2.setCell ⟨w.heap.size + 1 + 1, 8, none⟩ (.int .i64 a) := ⟨_, rfl⟩
  rw [← hX3] at T3
  rw [← hX3]
  clear z3 f3 k3 r3 hX3
  refine (HC.out _ T3.out.bl).mono ?_
  rintro x w4 ⟨rfl, b4⟩
  have S4 := hide (T3.out.keep b4)
  clear b4
  have t4 := S4.out.p3 cC
  have z4 : w4.cell? ⟨w.heap.size + 1 + 1, 3, none⟩ = some _ := cell_of S4.out.qb 3
  have f4 : w4.frozen? ⟨w.heap.size + 1 + 1, 3, none⟩ = false := free_of S4.out.qb 3
  have k4 := cell_of t4.qb 0
  have r4 := cell_of t4.rb 7
  have T4 := hide t4
  clear t4
  go_wp2_with fail
  obtain ⟨X4, hX4⟩ : ∃ X4, X4 = w4.setCell ⟨w.heap.size + 1 + 1, 3, none⟩ (.string cC) := ⟨_, rfl⟩
  rw [← hX4] at T4
  rw [← hX4]
  clear z4 f4 k4 r4 hX4
  refine (HS.out _ T4.out.bl).mono ?_
  rintro x w5 ⟨u5, rfl, ho5, b5⟩
  obtain ⟨oo, co, rfl⟩ := own_slice ho5
  have S5 := hide (T4.out.keep b5)
  have HO5 := hide (own_least ho5 (by have := T4.out.lt; omega : w.heap.size + 3 ≤ _))
  clear ho5 b5
  have t5 := S5.out.p7 HO5.out
  have z5 : w5.cell? ⟨w.heap.size + 1 + 1, 7, none⟩ = some _ := cell_of S5.out.qb 7
  have f5 : w5.frozen? ⟨w.heap.size + 1 + 1, 7, none⟩ = false := free_of S5.out.qb 7
  have k5 := cell_of t5.qb 0
  have r5 := cell_of t5.rb 4
  have T5 := hide t5
  clear t5
  go_wp2_with fail
  obtain ⟨X5, hX5⟩ : ∃ X5, X5 = w5.setCell ⟨w.heap.size + 1 + 1, 7, none⟩ (.slice oo cS.length co) := ⟨_, rfl⟩
  rw [← hX5] at T5
  rw [← hX5]
  clear z5 f5 k5 r5 hX5
  refine (HR.out _ T5.out.bl).mono ?_
  rintro x w6 ⟨rfl, b6⟩
  have S6 := hide (T5.out.keep b6)
  clear b6
  have t6 := S6.out.p4 cR
  rw [← HRD.out] at t6
  have HRS : Hid (¬ (9223372036854775807 < (⟨hostT.toArray⟩ : ByteArray).size + K.size)) := by show ¬ (_ < 18 + _); omega
  have hrs := HRS.out
  have z6 : w6.cell? ⟨w.heap.size + 1 + 1, 4, none⟩ = some _ := cell_of S6.out.qb 4
  have f6 : w6.frozen? ⟨w.heap.size + 1 + 1, 4, none⟩ = false := free_of S6.out.qb 4
  have k6 := cell_of t6.qb 0
  have r6 := cell_of t6.rb 5
  have T6 := hide t6
  clear t6
  go_wp2_with fail
  obtain ⟨X6, hX6⟩ : ∃ X6, X6 = w6.setCell ⟨w.heap.size + 1 + 1, 4, none⟩ (.string ((⟨hostT.toArray⟩ : ByteArray) ++ K)) := ⟨_, rfl⟩
  rw [← hX6] at T6
  rw [← hX6]
  rw [HRD.out] at T6
  clear z6 f6 k6 r6 hX6
  refine (HH.out _ T6.out.bl).mono ?_
  rintro x w7 ⟨rfl, b7⟩
  have S7 := hide (T6.out.keep b7)
  clear b7
  have t7 := S7.out.p5 cH
  have z7 : w7.cell? ⟨w.heap.size + 1 + 1, 5, none⟩ = some _ := cell_of S7.out.qb 5
  have f7 : w7.frozen? ⟨w.heap.size + 1 + 1, 5, none⟩ = false := free_of S7.out.qb 5
  have k7 := cell_of t7.qb 0
  have HRQ : Hid (World.rangeAt (w7.setCell ⟨w.heap.size + 1 + 1, 5, none⟩ (.string cH)) (w.heap.size + 1 + 1) 0 (rcs ⟨4, cI, cU, cC, cR, cH, eB, cS, a⟩ (.slice oo cS.length co)).toList) := range_of (t := 26) t7.qb
  have HTZ : Hid (World.there (w7.setCell ⟨w.heap.size + 1 + 1, 5, none⟩ (.string cH)) (w.heap.size + 1) 0 9) := there_of (cur := zrec.toList) t7.zb 0 9 (by simp)
  have HT := hide t7
  clear t7
  go_wp2_with (first
    | (refine wpList_load_mid rfl 26 (.tmp 3) rfl (w.heap.size + 1 + 1) 0 rfl _ _ HRQ.out Tryz.underlying26 rfl sizeRec ?_)
    | (refine wpList_store_mid rfl 26 (.tmp 2) (.tmp 89) rfl (w.heap.size + 1) 0 (rcs ⟨4, cI, cU, cC, cR, cH, eB, cS, a⟩ (.slice oo cS.length co)) rfl rfl HTZ.out sizeRec (rcs_one _ _ _ _) ?_))
  refine bodyPost_ret (results_c rfl _ rfl (World.rangeAt_setCells_same _ (w.heap.size + 1) 0 (rcs ⟨4, cI, cU, cC, cR, cH, eB, cS, a⟩ (.slice oo cS.length co)).toList HTZ.out) Tryz.underlying26 rfl sizeRec) rfl ?_
  refine ⟨_, rfl, own_least (own_at HT.out.own (fun g hg => sets_other _ _ _ _ _ (by omega))) (by omega), ?_⟩
  exact HT.out.bl.trans (((Fr.refl [w.heap.size + 1] _).sets (w.heap.size + 1) 0 _ (Or.inl (List.mem_singleton.2 rfl))).below (fun k hk => by rw [List.mem_singleton.1 hk]; omega) HT.out.bl.size)
end Go.Proofs.YtocpikgcbibcoaaGreatDoor.rc

namespace Go.Proofs.YtocpikgcbibcoaaGreatDoor.rc
open Go.ChangeShapes Go.WideShapes Go.ChangeAt Go.RowKit Go.Proofs.YtocpikgcbibcoaaGreatDoor.common Go.Proofs.YtocpikgcbibcoaaGreatDoor.dk
attribute [local go_sem ↓] Go.wp_at_zero Go.wp_at_succ

set_option maxRecDepth 100000 in
set_option maxHeartbeats 12800000 in
theorem tidy_6 (r : Rec) (v : Value) (a : Int) (w : World) (hv : Go.Proofs.YtocpikgcbibcoaaGreatDoor.ss.Lies w v r.ss) (hz : TidIn r) (he : pk.Env w) (hp : kitw.pick (wrap64 (r.k - 1)) 11 = 5) (ha : kitw.pick r.at_ 1099511627777 = a) :
    Calls Tryz.prog 19 #[.agg (rcs r v)] w (TidOut (tid 6 a r) w) := by
  have HP : Hid (∀ X, Calls Tryz.prog 31 #[.int .i64 (wrap64 (r.k - 1)), .int .i64 11] X fun e w' => e = .returned (.int .i64 5) ∧ w' = X) := fun X => by have h := kitw.pick_all (wrap64 (r.k - 1)) 11 X (by decide) (by decide); rw [hp] at h; exact h
  have HA : Hid (∀ X, Calls Tryz.prog 31 #[.int .i64 r.at_, .int .i64 1099511627777] X fun e w' => e = .returned (.int .i64 a) ∧ w' = X) := fun X => by have h := kitw.pick_all r.at_ 1099511627777 X (by decide) (by decide); rw [ha] at h; exact h
  have HI : Hid (∀ X, Below w.heap.size w X → Calls Tryz.prog 32 #[.string r.id] X fun e w' => e = .returned (.string (pk.ch r.id)) ∧ Below X.heap.size X w') := fun X hX => idOf_any r.id X hz.id (he.below hX)
  have HD : Hid (∀ X, Below w.heap.size w X → Calls Tryz.prog 32 #[.string r.cd] X fun e w' => e = .returned (.string (pk.ch r.cd)) ∧ Below X.heap.size X w') := fun X hX => idOf_any r.cd X hz.cd (he.below hX)
  have HU : Hid (∀ X, Below w.heap.size w X → Calls Tryz.prog 33 #[.string r.us] X fun e w' => e = .returned (.string (nmT r.us)) ∧ Below X.heap.size X w') := fun X _ => nameOf_any r.us X hz.us
  have HC : Hid (∀ X, Below w.heap.size w X → Calls Tryz.prog 33 #[.string r.cl] X fun e w' => e = .returned (.string (nmT r.cl)) ∧ Below X.heap.size X w') := fun X _ => nameOf_any r.cl X hz.cl
  have HS : Hid (∀ X, Below w.heap.size w X → Calls Tryz.prog 34 #[v] X fun e w' => ∃ v', e = .returned v' ∧ w'.ownsRow X.heap.size 9 1 v' (scT r.ss).length ((scT r.ss).map Value.string) ∧ Below X.heap.size X w') := fun X hX => scopesOf_any v r.ss X (hv.below hX) hz.ss
  have e9 : tid 6 a r = ⟨6, pk.ch r.id, nmT r.us, nmT r.cl, eB, eB, pk.ch r.cd, scT r.ss, a⟩ := rfl
  rw [e9]
  obtain ⟨X0, hX0⟩ : ∃ X0, X0 = (((w.alloc (.cells (rcs r v) 26)).alloc (.cells zrec 26)).alloc (.cells #[.int .i64 6, .string ⟨#[]⟩, .string ⟨#[]⟩, .string ⟨#[]⟩, .string ⟨#[]⟩, .string ⟨#[]⟩, .string ⟨#[]⟩, .slice none 0 0, .int .i64 0] 26)) := ⟨_, rfl⟩
  have T0 := hide (Tq.start w r v 6)
  rw [← hX0] at T0
  have HX0 := hide hX0
  clear hv he hp ha e9 hX0
  generalize pk.ch r.id = cI at *
  generalize pk.ch r.cd = cD at *
  generalize nmT r.us = cU at *
  generalize nmT r.cl = cC at *
  generalize scT r.ss = cS at *
  go_enter Tryz.func19, Tryz.ntmps19
  go_wp2_with fail
  refine (HP.out _).mono ?_
  rintro x w9 ⟨rfl, h9⟩
  obtain rfl := h9.symm
  clear h9
  go_wp2_with fail
  rw [← HX0.out]
  refine (HI.out _ T0.out.bl).mono ?_
  rintro x w1 ⟨rfl, b1⟩
  have S1 := hide (T0.out.keep b1)
  clear b1
  have t1 := S1.out.p1 cI
  have z1 : w1.cell? ⟨w.heap.size + 1 + 1, 1, none⟩ = some _ := cell_of S1.out.qb 1
  have f1 : w1.frozen? ⟨w.heap.size + 1 + 1, 1, none⟩ = false := free_of S1.out.qb 1
  have k1 := cell_of t1.qb 0
  have r1 := cell_of t1.rb 2
  have T1 := hide t1
  clear t1
  go_wp2_with fail
  obtain ⟨X1, hX1⟩ : ∃ X1, X1 = w1.setCell ⟨w.heap.size + 1 + 1, 1, none⟩ (.string cI) := ⟨_, rfl⟩
  rw [← hX1] at T1
  rw [← hX1]
  clear z1 f1 k1 r1 hX1
  refine (HU.out _ T1.out.bl).mono ?_
  rintro x w2 ⟨rfl, b2⟩
  have S2 := hide (T1.out.keep b2)
  clear b2
  have t2 := S2.out.p2 cU
  have z2 : w2.cell? ⟨w.heap.size + 1 + 1, 2, none⟩ = some _ := cell_of S2.out.qb 2
  have f2 : w2.frozen? ⟨w.heap.size + 1 + 1, 2, none⟩ = false := free_of S2.out.qb 2
  have k2 := cell_of t2.qb 0
  have r2 := cell_of t2.rb 8
  have T2 := hide t2
  clear t2
  go_wp2_with fail
  obtain ⟨X2, hX2⟩ : ∃ X2, X2 = w2.setCell ⟨w.heap.size + 1 + 1, 2, none⟩ (.string cU) := ⟨_, rfl⟩
  rw [← hX2] at T2
  rw [← hX2]
  clear z2 f2 k2 r2 hX2
  refine (HA.out _).mono ?_
  rintro x w9 ⟨rfl, h9⟩
  obtain rfl := h9.symm
  clear h9
  have t3 := T2.out.p8 a
  have z3 : X2.cell? ⟨w.heap.size + 1 + 1, 8, none⟩ = some _ := cell_of T2.out.qb 8
  have f3 : X2.frozen? ⟨w.heap.size + 1 + 1, 8, none⟩ = false := free_of T2.out.qb 8
  have k3 := cell_of t3.qb 0
  have r3 := cell_of t3.rb 3
  have T3 := hide t3
  clear t3
  go_wp2_with fail
  obtain ⟨X3, hX3⟩ : ∃ X3, X3 = X2.setCell ⟨w.heap.size + 1 + 1, 8, none⟩ (.int .i64 a) := ⟨_, rfl⟩
  rw [← hX3] at T3
  rw [← hX3]
  clear z3 f3 k3 r3 hX3
  refine (HC.out _ T3.out.bl).mono ?_
  rintro x w4 ⟨rfl, b4⟩
  have S4 := hide (T3.out.keep b4)
  clear b4
  have t4 := S4.out.p3 cC
  have z4 : w4.cell? ⟨w.heap.size + 1 + 1, 3, none⟩ = some _ := cell_of S4.out.qb 3
  have f4 : w4.frozen? ⟨w.heap.size + 1 + 1, 3, none⟩ = false := free_of S4.out.qb 3
  have k4 := cell_of t4.qb 0
  have r4 := cell_of t4.rb 7
  have T4 := hide t4
  clear t4
  go_wp2_with fail
  obtain ⟨X4, hX4⟩ : ∃ X4, X4 = w4.setCell ⟨w.heap.size + 1 + 1, 3, none⟩ (.string cC) := ⟨_, rfl⟩
  rw [← hX4] at T4
  rw [← hX4]
  clear z4 f4 k4 r4 hX4
  refine (HS.out _ T4.out.bl).mono ?_
  rintro x w5 ⟨u5, rfl, ho5, b5⟩
  obtain ⟨oo, co, rfl⟩ := own_slice ho5
  have S5 := hide (T4.out.keep b5)
  have HO5 := hide (own_least ho5 (by have := T4.out.lt; omega : w.heap.size + 3 ≤ _))
  clear ho5 b5
  have t5 := S5.out.p7 HO5.out
  have z5 : w5.cell? ⟨w.heap.size + 1 + 1, 7, none⟩ = some _ := cell_of S5.out.qb 7
  have f5 : w5.frozen? ⟨w.heap.size + 1 + 1, 7, none⟩ = false := free_of S5.out.qb 7
  have k5 := cell_of t5.qb 0
  have r5 := cell_of t5.rb 6
  have T5 := hide t5
  clear t5
  go_wp2_with fail
  obtain ⟨X5, hX5⟩ : ∃ X5, X5 = w5.setCell ⟨w.heap.size + 1 + 1, 7, none⟩ (.slice oo cS.length co) := ⟨_, rfl⟩
  rw [← hX5] at T5
  rw [← hX5]
  clear z5 f5 k5 r5 hX5
  refine (HD.out _ T5.out.bl).mono ?_
  rintro x w6 ⟨rfl, b6⟩
  have S6 := hide (T5.out.keep b6)
  clear b6
  have t6 := S6.out.p6 cD
  have z6 : w6.cell? ⟨w.heap.size + 1 + 1, 6, none⟩ = some _ := cell_of S6.out.qb 6
  have f6 : w6.frozen? ⟨w.heap.size + 1 + 1, 6, none⟩ = false := free_of S6.out.qb 6
  have k6 := cell_of t6.qb 0
  have HRQ : Hid (World.rangeAt (w6.setCell ⟨w.heap.size + 1 + 1, 6, none⟩ (.string cD)) (w.heap.size + 1 + 1) 0 (rcs ⟨6, cI, cU, cC, eB, eB, cD, cS, a⟩ (.slice oo cS.length co)).toList) := range_of (t := 26) t6.qb
  have HTZ : Hid (World.there (w6.setCell ⟨w.heap.size + 1 + 1, 6, none⟩ (.string cD)) (w.heap.size + 1) 0 9) := there_of (cur := zrec.toList) t6.zb 0 9 (by simp)
  have HT := hide t6
  clear t6
  go_wp2_with (first
    | (refine wpList_load_mid rfl 26 (.tmp 3) rfl (w.heap.size + 1 + 1) 0 rfl _ _ HRQ.out Tryz.underlying26 rfl sizeRec ?_)
    | (refine wpList_store_mid rfl 26 (.tmp 2) (.tmp 89) rfl (w.heap.size + 1) 0 (rcs ⟨6, cI, cU, cC, eB, eB, cD, cS, a⟩ (.slice oo cS.length co)) rfl rfl HTZ.out sizeRec (rcs_one _ _ _ _) ?_))
  refine bodyPost_ret (results_c rfl _ rfl (World.rangeAt_setCells_same _ (w.heap.size + 1) 0 (rcs ⟨6, cI, cU, cC, eB, eB, cD, cS, a⟩ (.slice oo cS.length co)).toList HTZ.out) Tryz.underlying26 rfl sizeRec) rfl ?_
  refine ⟨_, rfl, own_least (own_at HT.out.own (fun g hg => sets_other _ _ _ _ _ (by omega))) (by omega), ?_⟩
  exact HT.out.bl.trans (((Fr.refl [w.heap.size + 1] _).sets (w.heap.size + 1) 0 _ (Or.inl (List.mem_singleton.2 rfl))).below (fun k hk => by rw [List.mem_singleton.1 hk]; omega) HT.out.bl.size)
end Go.Proofs.YtocpikgcbibcoaaGreatDoor.rc

namespace Go.Proofs.YtocpikgcbibcoaaGreatDoor.rc
open Go.ChangeShapes Go.WideShapes Go.ChangeAt Go.RowKit Go.Proofs.YtocpikgcbibcoaaGreatDoor.common Go.Proofs.YtocpikgcbibcoaaGreatDoor.dk
attribute [local go_sem ↓] Go.wp_at_zero Go.wp_at_succ

set_option maxRecDepth 100000 in
set_option maxHeartbeats 12800000 in
theorem tidy_9 (r : Rec) (v : Value) (a : Int) (w : World) (hv : Go.Proofs.YtocpikgcbibcoaaGreatDoor.ss.Lies w v r.ss) (hz : TidIn r) (he : pk.Env w) (hp : kitw.pick (wrap64 (r.k - 1)) 11 = 8) (ha : kitw.pick r.at_ 1099511627777 = a) :
    Calls Tryz.prog 19 #[.agg (rcs r v)] w (TidOut (tid 9 a r) w) := by
  have HP : Hid (∀ X, Calls Tryz.prog 31 #[.int .i64 (wrap64 (r.k - 1)), .int .i64 11] X fun e w' => e = .returned (.int .i64 8) ∧ w' = X) := fun X => by have h := kitw.pick_all (wrap64 (r.k - 1)) 11 X (by decide) (by decide); rw [hp] at h; exact h
  have HA : Hid (∀ X, Calls Tryz.prog 31 #[.int .i64 r.at_, .int .i64 1099511627777] X fun e w' => e = .returned (.int .i64 a) ∧ w' = X) := fun X => by have h := kitw.pick_all r.at_ 1099511627777 X (by decide) (by decide); rw [ha] at h; exact h
  have HI : Hid (∀ X, Below w.heap.size w X → Calls Tryz.prog 32 #[.string r.id] X fun e w' => e = .returned (.string (pk.ch r.id)) ∧ Below X.heap.size X w') := fun X hX => idOf_any r.id X hz.id (he.below hX)
  have HD : Hid (∀ X, Below w.heap.size w X → Calls Tryz.prog 32 #[.string r.cd] X fun e w' => e = .returned (.string (pk.ch r.cd)) ∧ Below X.heap.size X w') := fun X hX => idOf_any r.cd X hz.cd (he.below hX)
  have HU : Hid (∀ X, Below w.heap.size w X → Calls Tryz.prog 33 #[.string r.us] X fun e w' => e = .returned (.string (nmT r.us)) ∧ Below X.heap.size X w') := fun X _ => nameOf_any r.us X hz.us
  have HC : Hid (∀ X, Below w.heap.size w X → Calls Tryz.prog 33 #[.string r.cl] X fun e w' => e = .returned (.string (nmT r.cl)) ∧ Below X.heap.size X w') := fun X _ => nameOf_any r.cl X hz.cl
  have HS : Hid (∀ X, Below w.heap.size w X → Calls Tryz.prog 34 #[v] X fun e w' => ∃ v', e = .returned v' ∧ w'.ownsRow X.heap.size 9 1 v' (scT r.ss).length ((scT r.ss).map Value.string) ∧ Below X.heap.size X w') := fun X hX => scopesOf_any v r.ss X (hv.below hX) hz.ss
  have e9 : tid 9 a r = ⟨9, pk.ch r.id, nmT r.us, nmT r.cl, eB, eB, pk.ch r.cd, scT r.ss, a⟩ := rfl
  rw [e9]
  obtain ⟨X0, hX0⟩ : ∃ X0, X0 = (((w.alloc (.cells (rcs r v) 26)).alloc (.cells zrec 26)).alloc (.cells #[.int .i64 9, .string ⟨#[]⟩, .string ⟨#[]⟩, .string ⟨#[]⟩, .string ⟨#[]⟩, .string ⟨#[]⟩, .string ⟨#[]⟩, .slice none 0 0, .int .i64 0] 26)) := ⟨_, rfl⟩
  have T0 := hide (Tq.start w r v 9)
  rw [← hX0] at T0
  have HX0 := hide hX0
  clear hv he hp ha e9 hX0
  generalize pk.ch r.id = cI at *
  generalize pk.ch r.cd = cD at *
  generalize nmT r.us = cU at *
  generalize nmT r.cl = cC at *
  generalize scT r.ss = cS at *
  go_enter Tryz.func19, Tryz.ntmps19
  go_wp2_with fail
  refine (HP.out _).mono ?_
  rintro x w9 ⟨rfl, h9⟩
  obtain rfl := h9.symm
  clear h9
  go_wp2_with fail
  rw [← HX0.out]
  refine (HI.out _ T0.out.bl).mono ?_
  rintro x w1 ⟨rfl, b1⟩
  have S1 := hide (T0.out.keep b1)
  clear b1
  have t1 := S1.out.p1 cI
  have z1 : w1.cell? ⟨w.heap.size + 1 + 1, 1, none⟩ = some _ := cell_of S1.out.qb 1
  have f1 : w1.frozen? ⟨w.heap.size + 1 + 1, 1, none⟩ = false := free_of S1.out.qb 1
  have k1 := cell_of t1.qb 0
  have r1 := cell_of t1.rb 2
  have T1 := hide t1
  clear t1
  go_wp2_with fail
  obtain ⟨X1, hX1⟩ : ∃ X1, X1 = w1.setCell ⟨w.heap.size + 1 + 1, 1, none⟩ (.string cI) := ⟨_, rfl⟩
  rw [← hX1] at T1
  rw [← hX1]
  clear z1 f1 k1 r1 hX1
  refine (HU.out _ T1.out.bl).mono ?_
  rintro x w2 ⟨rfl, b2⟩
  have S2 := hide (T1.out.keep b2)
  clear b2
  have t2 := S2.out.p2 cU
  have z2 : w2.cell? ⟨w.heap.size + 1 + 1, 2, none⟩ = some _ := cell_of S2.out.qb 2
  have f2 : w2.frozen? ⟨w.heap.size + 1 + 1, 2, none⟩ = false := free_of S2.out.qb 2
  have k2 := cell_of t2.qb 0
  have r2 := cell_of t2.rb 8
  have T2 := hide t2
  clear t2
  go_wp2_with fail
  obtain ⟨X2, hX2⟩ : ∃ X2, X2 = w2.setCell ⟨w.heap.size + 1 + 1, 2, none⟩ (.string cU) := ⟨_, rfl⟩
  rw [← hX2] at T2
  rw [← hX2]
  clear z2 f2 k2 r2 hX2
  refine (HA.out _).mono ?_
  rintro x w9 ⟨rfl, h9⟩
  obtain rfl := h9.symm
  clear h9
  have t3 := T2.out.p8 a
  have z3 : X2.cell? ⟨w.heap.size + 1 + 1, 8, none⟩ = some _ := cell_of T2.out.qb 8
  have f3 : X2.frozen? ⟨w.heap.size + 1 + 1, 8, none⟩ = false := free_of T2.out.qb 8
  have k3 := cell_of t3.qb 0
  have r3 := cell_of t3.rb 3
  have T3 := hide t3
  clear t3
  go_wp2_with fail
  obtain ⟨X3, hX3⟩ : ∃ X3, X3 = X2.setCell ⟨w.heap.size + 1 + 1, 8, none⟩ (.int .i64 a) := ⟨_, rfl⟩
  rw [← hX3] at T3
  rw [← hX3]
  clear z3 f3 k3 r3 hX3
  refine (HC.out _ T3.out.bl).mono ?_
  rintro x w4 ⟨rfl, b4⟩
  have S4 := hide (T3.out.keep b4)
  clear b4
  have t4 := S4.out.p3 cC
  have z4 : w4.cell? ⟨w.heap.size + 1 + 1, 3, none⟩ = some _ := cell_of S4.out.qb 3
  have f4 : w4.frozen? ⟨w.heap.size + 1 + 1, 3, none⟩ = false := free_of S4.out.qb 3
  have k4 := cell_of t4.qb 0
  have r4 := cell_of t4.rb 7
  have T4 := hide t4
  clear t4
  go_wp2_with fail
  obtain ⟨X4, hX4⟩ : ∃ X4, X4 = w4.setCell ⟨w.heap.size + 1 + 1, 3, none⟩ (.string cC) := ⟨_, rfl⟩
  rw [← hX4] at T4
  rw [← hX4]
  clear z4 f4 k4 r4 hX4
  refine (HS.out _ T4.out.bl).mono ?_
  rintro x w5 ⟨u5, rfl, ho5, b5⟩
  obtain ⟨oo, co, rfl⟩ := own_slice ho5
  have S5 := hide (T4.out.keep b5)
  have HO5 := hide (own_least ho5 (by have := T4.out.lt; omega : w.heap.size + 3 ≤ _))
  clear ho5 b5
  have t5 := S5.out.p7 HO5.out
  have z5 : w5.cell? ⟨w.heap.size + 1 + 1, 7, none⟩ = some _ := cell_of S5.out.qb 7
  have f5 : w5.frozen? ⟨w.heap.size + 1 + 1, 7, none⟩ = false := free_of S5.out.qb 7
  have k5 := cell_of t5.qb 0
  have r5 := cell_of t5.rb 6
  have T5 := hide t5
  clear t5
  go_wp2_with fail
  obtain ⟨X5, hX5⟩ : ∃ X5, X5 = w5.setCell ⟨w.heap.size + 1 + 1, 7, none⟩ (.slice oo cS.length co) := ⟨_, rfl⟩
  rw [← hX5] at T5
  rw [← hX5]
  clear z5 f5 k5 r5 hX5
  refine (HD.out _ T5.out.bl).mono ?_
  rintro x w6 ⟨rfl, b6⟩
  have S6 := hide (T5.out.keep b6)
  clear b6
  have t6 := S6.out.p6 cD
  have z6 : w6.cell? ⟨w.heap.size + 1 + 1, 6, none⟩ = some _ := cell_of S6.out.qb 6
  have f6 : w6.frozen? ⟨w.heap.size + 1 + 1, 6, none⟩ = false := free_of S6.out.qb 6
  have k6 := cell_of t6.qb 0
  have HRQ : Hid (World.rangeAt (w6.setCell ⟨w.heap.size + 1 + 1, 6, none⟩ (.string cD)) (w.heap.size + 1 + 1) 0 (rcs ⟨9, cI, cU, cC, eB, eB, cD, cS, a⟩ (.slice oo cS.length co)).toList) := range_of (t := 26) t6.qb
  have HTZ : Hid (World.there (w6.setCell ⟨w.heap.size + 1 + 1, 6, none⟩ (.string cD)) (w.heap.size + 1) 0 9) := there_of (cur := zrec.toList) t6.zb 0 9 (by simp)
  have HT := hide t6
  clear t6
  go_wp2_with (first
    | (refine wpList_load_mid rfl 26 (.tmp 3) rfl (w.heap.size + 1 + 1) 0 rfl _ _ HRQ.out Tryz.underlying26 rfl sizeRec ?_)
    | (refine wpList_store_mid rfl 26 (.tmp 2) (.tmp 89) rfl (w.heap.size + 1) 0 (rcs ⟨9, cI, cU, cC, eB, eB, cD, cS, a⟩ (.slice oo cS.length co)) rfl rfl HTZ.out sizeRec (rcs_one _ _ _ _) ?_))
  refine bodyPost_ret (results_c rfl _ rfl (World.rangeAt_setCells_same _ (w.heap.size + 1) 0 (rcs ⟨9, cI, cU, cC, eB, eB, cD, cS, a⟩ (.slice oo cS.length co)).toList HTZ.out) Tryz.underlying26 rfl sizeRec) rfl ?_
  refine ⟨_, rfl, own_least (own_at HT.out.own (fun g hg => sets_other _ _ _ _ _ (by omega))) (by omega), ?_⟩
  exact HT.out.bl.trans (((Fr.refl [w.heap.size + 1] _).sets (w.heap.size + 1) 0 _ (Or.inl (List.mem_singleton.2 rfl))).below (fun k hk => by rw [List.mem_singleton.1 hk]; omega) HT.out.bl.size)
end Go.Proofs.YtocpikgcbibcoaaGreatDoor.rc

namespace Go.Proofs.YtocpikgcbibcoaaGreatDoor.rc
open Go.ChangeShapes Go.WideShapes Go.ChangeAt Go.RowKit Go.Proofs.YtocpikgcbibcoaaGreatDoor.common Go.Proofs.YtocpikgcbibcoaaGreatDoor.dk

/-- tidy makes a record that may be -/
theorem tidy_any (r : Rec) (v : Value) (w : World) (hv : Go.Proofs.YtocpikgcbibcoaaGreatDoor.ss.Lies w v r.ss) (hz : TidIn r) (he : pk.Env w) :
    ∃ q, mayB q = true ∧ Calls Tryz.prog 19 #[.agg (rcs r v)] w (TidOut q w) := by
  obtain ⟨a, ha⟩ : ∃ a, kitw.pick r.at_ 1099511627777 = a := ⟨_, rfl⟩
  obtain ⟨a0, a1⟩ := kitw.pick_bounds r.at_ 1099511627777
  rw [ha] at a0 a1
  have a1 := a1 (by decide)
  obtain ⟨k, hk⟩ : ∃ k, kitw.pick (wrap64 (r.k - 1)) 11 = k := ⟨_, rfl⟩
  obtain ⟨k0, k1⟩ := kitw.pick_bounds (wrap64 (r.k - 1)) 11
  rw [hk] at k0 k1
  have k1 := k1 (by decide)
  have hm := tid_may (k + 1) a r (by omega) (by omega) a0 (by omega)
  refine ⟨tid (k + 1) a r, hm, ?_⟩
  have hc : k = 0 ∨ k = 1 ∨ k = 2 ∨ k = 3 ∨ k = 4 ∨ k = 5 ∨ k = 6 ∨ k = 7 ∨ k = 8 ∨ k = 9 ∨ k = 10 := by omega
  clear hm
  rcases hc with rfl | rfl | rfl | rfl | rfl | rfl | rfl | rfl | rfl | rfl | rfl
  · exact tidy_1 r v a w hv hz he hk ha
  · exact tidy_2 r v a w hv hz he hk ha
  · exact tidy_3 r v a w hv hz he hk ha
  · exact tidy_4 r v a w hv hz he hk ha
  · exact tidy_5 r v a w hv hz he hk ha
  · exact tidy_6 r v a w hv hz he hk ha
  · exact tidy_7 r v a w hv hz he hk ha
  · exact tidy_8 r v a w hv hz he hk ha
  · exact tidy_9 r v a w hv hz he hk ha
  · exact tidy_10 r v a w hv hz he hk ha
  · exact tidy_11 r v a w hv hz he hk ha
end Go.Proofs.YtocpikgcbibcoaaGreatDoor.rc

namespace Go.Proofs.YtocpikgcbibcoaaGreatDoor.rc
open Go.ChangeShapes Go.WideShapes Go.ChangeAt Go.RowKit Go.Proofs.YtocpikgcbibcoaaGreatDoor.common Go.Proofs.YtocpikgcbibcoaaGreatDoor.dk

theorem row_bytes {w : World} {base : Nat} {v : Value} {l : List UInt8} (h : w.ownsRow base 5 1 v l.length (l.map B)) (h0 : 0 < l.length) : ∃ g cap, v = .slice (some ⟨g, 0, none⟩) l.length cap ∧ base ≤ g ∧ g < w.heap.size ∧ l.length ≤ cap ∧ w.rangeAt g 0 (l.map B) := by
  rcases h.2 with ⟨_, h1⟩ | ⟨g, cap, cur, rfl, hg, hh, hn, _, hsz, htk⟩
  · omega
  · refine ⟨g, cap, rfl, hg, (Array.getElem?_eq_some_iff.1 hh).1, hn, fun j u hu => ?_⟩
    rw [← htk, List.getElem?_take] at hu
    split at hu
    · rw [Nat.zero_add]
      simp only [World.cell?, hh]
      simpa using hu
    · cases hu
theorem rd_part {w : World} {g k n cap : Nat} {l : List UInt8} (h : w.rangeAt g 0 (l.map B)) (hg : g < w.heap.size) (hk : k + n ≤ l.length) : Rd w (.slice (some ⟨g, k, none⟩) n cap) ((l.drop k).take n) := by
  have hl : ((l.drop k).take n).length = n := by rw [List.length_take, List.length_drop]; omega
  refine ⟨_, cap, by rw [hl], fun _ => ⟨g, k, rfl, hg, fun j u hu => ?_⟩⟩
  rw [List.map_take, List.map_drop, List.getElem?_take] at hu
  split at hu
  · rw [List.getElem?_drop] at hu
    have := h (k + j) u hu
    rwa [Nat.zero_add] at this
  · cases hu
theorem lo_of {w : World} {v : Value} {l : List UInt8} (h : Rd w v l) (hc : ∀ oa m c, v = .slice oa m c → m ≤ c) : Lo w.heap.size w v l := by
  obtain ⟨oa, cap, rfl, h2⟩ := h
  exact ⟨oa, cap, rfl, hc _ _ _ rfl, fun h0 => by obtain ⟨g, o, e1, e2, e3⟩ := h2 h0; exact ⟨g, o, e1, e2, e2, e3⟩⟩
/-- a row of one's own is read as it is -/
theorem lo_own {w : World} {base : Nat} {v : Value} {l : List UInt8} (h : w.ownsRow base 5 1 v l.length (l.map B)) (h0 : 0 < l.length) : Lo w.heap.size w v l := by
  obtain ⟨g, cap, rfl, _, hg, hc, hr⟩ := row_bytes h h0
  exact ⟨_, cap, rfl, hc, fun _ => ⟨g, 0, rfl, hg, hg, hr⟩⟩
end Go.Proofs.YtocpikgcbibcoaaGreatDoor.rc
