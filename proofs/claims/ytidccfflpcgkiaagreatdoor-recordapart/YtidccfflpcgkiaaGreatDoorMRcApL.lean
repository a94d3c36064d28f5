import Derived.Test.YtidccfflpcgkiaaGreatDoorMRcLoK
import Derived.Test.YtidccfflpcgkiaaGreatDoorMRcSmR
import Derived.Test.YtidccfflpcgkiaaGreatDoorMRcPf
namespace Go.Proofs.YtidccfflpcgkiaaGreatDoor.rc
open Go.ChangeShapes Go.WideShapes Go.ChangeAt Go.RowKit Go.Proofs.YtidccfflpcgkiaaGreatDoor.common Go.Proofs.YtidccfflpcgkiaaGreatDoor.dk
attribute [local go_sem ↓] Go.wp_at_zero Go.wp_at_succ

set_option maxRecDepth 100000 in
set_option maxHeartbeats 3200000 in
theorem begins_any (l m : List UInt8) (g1 c1 g2 c2 : Nat) (w : World) (h1 : w.rangeAt g1 0 (l.map B)) (k1 : g1 < w.heap.size) (h2 : w.rangeAt g2 0 (m.map B)) (k2 : g2 < w.heap.size) (hc : m.length ≤ c2) (hl : l.length ≤ 1048576) (_hm : m.length ≤ 1048576) :
    Calls Tryz.prog 14 #[.slice (some ⟨g1, 0, none⟩) l.length c1, .slice (some ⟨g2, 0, none⟩) m.length c2] w fun e w' => e = .returned (.bool (decide (l = m.take l.length))) ∧ Below w.heap.size w w' := by
  by_cases hle : l.length ≤ m.length
  · have r1 : Rd w (.slice (some ⟨g1, 0, none⟩) l.length c1) l := ⟨_, c1, rfl, fun _ => ⟨g1, 0, rfl, k1, h1⟩⟩
    have r2 := rd_part (k := 0) (n := l.length) (cap := c2) h2 k2 (by omega)
    rw [List.drop_zero] at r2
    have HS := hide (sameBytes_dec w _ _ l (m.take l.length) r1 r2 (by omega) (by rw [List.length_take]; omega))
    have j1 : (l.length : Int) ≤ (m.length : Int) := by omega
    have j2 : (l.length : Int) ≤ (c2 : Int) := by omega
    have j0 : (0 : Int) ≤ (l.length : Int) := Int.natCast_nonneg _
    generalize decide (l = m.take l.length) = T at *
    generalize l.length = n at *
    clear h1 h2 r1 r2
    go_enter Tryz.func14, Tryz.ntmps14
    go_wp2_with fail
    refine HS.out.mono ?_
    rintro x w1 ⟨rfl, b1⟩
    have HB := hide b1
    clear b1
    go_wp2_with fail
    go_ret
    exact ⟨rfl, HB.out⟩
  · have HN : Hid (decide (l = m.take l.length) = false) := decide_eq_false (fun e => by
      have := congrArg List.length e
      rw [List.length_take] at this
      omega)
    have j1 : ¬ (l.length : Int) ≤ (m.length : Int) := by omega
    clear h1 h2
    go_enter Tryz.func14, Tryz.ntmps14
    go_wp2_with fail
    go_ret
    exact ⟨by rw [HN.out]; rfl, Below.refl _ _⟩
/-- no record's bytes are the beginning of another's -/
theorem begins_iff {a b : Rec} (ma : mayB a = true) (mb : mayB b = true) : recL a = (recL b).take (recL a).length ↔ a = b := by
  constructor
  · intro h
    have e : recL a ++ (recL b).drop (recL a).length = recL b ++ [] := by
      rw [List.append_nil]
      conv => lhs; lhs; rw [h]
      exact List.take_append_drop _ _
    exact (rec_pf ma mb e).1
  · rintro rfl
    exact (List.take_length ..).symm

/-- two records as an argument -/
abbrev rct (a b : Rec) (va vb : Value) : Array Value := #[.int .i64 a.k, .string a.id, .string a.us, .string a.cl, .string a.rd, .string a.ch, .string a.cd, va, .int .i64 a.at_, .int .i64 b.k, .string b.id, .string b.us, .string b.cl, .string b.rd, .string b.ch, .string b.cd, vb, .int .i64 b.at_]
theorem rct_a {w : World} {g : Nat} {a b : Rec} {va vb : Value} {t : TypeId} (h : w.heap[g]? = some (.cells (rct a b va vb) t)) : w.rangeAt g 0 (rcs a va).toList := fun j u hu => by
  have h9 : j < 9 := (List.getElem?_eq_some_iff.1 hu).1
  rw [Nat.zero_add, cell_of h j]
  rcases j with _ | _ | _ | _ | _ | _ | _ | _ | _ | j
  all_goals first | exact hu | omega
theorem rct_b {w : World} {g : Nat} {a b : Rec} {va vb : Value} {t : TypeId} (h : w.heap[g]? = some (.cells (rct a b va vb) t)) : w.rangeAt g 9 (rcs b vb).toList := fun j u hu => by
  have h9 : j < 9 := (List.getElem?_eq_some_iff.1 hu).1
  rw [cell_of h (9 + j)]
  rcases j with _ | _ | _ | _ | _ | _ | _ | _ | _ | j
  all_goals first | exact hu | omega

set_option maxRecDepth 100000 in
set_option maxHeartbeats 12800000 in
theorem lawApart (ra rb : Rec) (va vb : Value) (w : World) (e : Nat → Addr) (ha : Go.Proofs.YtidccfflpcgkiaaGreatDoor.ss.Lies w va ra.ss) (hb : Go.Proofs.YtidccfflpcgkiaaGreatDoor.ss.Lies w vb rb.ss) (hza : TidIn ra) (hzb : TidIn rb) (he : Env (e 1) (e 2) (errw.E e 0) w) (hp : pk.Env w) :
    Calls Tryz.prog 4 #[.agg (rct ra rb va vb)] w fun x w' => x = .returned (.bool true) ∧ Below w.heap.size w w' := by
  have HENV : Hid (∀ X, Below w.heap.size w X → Env (e 1) (e 2) (errw.E e 0) X ∧ pk.Env X) := fun X hX => ⟨he.below hX, hp.below hX⟩
  have HLB : Hid (∀ X, Below w.heap.size w X → Go.Proofs.YtidccfflpcgkiaaGreatDoor.ss.Lies X vb rb.ss) := fun X hX => hb.below hX
  obtain ⟨W0, hW0⟩ : ∃ W0, W0 = w.alloc (.cells (rct ra rb va vb) 37) := ⟨_, rfl⟩
  have b0 : Below w.heap.size w W0 := by rw [hW0]; exact (Below.refl _ _).alloc (Nat.le_refl _) _
  have h0 : W0.heap[w.heap.size]? = some (.cells (rct ra rb va vb) 37 (0, 0)) := by rw [hW0]; exact heap_alloc_new w _
  have HRA : Hid (World.rangeAt (w.alloc (.cells (rct ra rb va vb) 37)) w.heap.size 0 (rcs ra va).toList) := rct_a (heap_alloc_new w _)
  obtain ⟨a, hma, hTa⟩ := tidy_any ra va W0 (ha.below b0) hza (hp.below b0)
  unfold TidOut at hTa
  have HTA := hide hTa
  have HMA := hide hma
  have HB0 := hide b0
  have HH0 := hide h0
  have HW0 := hide hW0
  have HZB := hide hzb
  clear ha hb hza hzb he hp b0 h0 hW0 hTa hma
  go_enter Tryz.func4, Tryz.ntmps4
  go_wp2_with (refine wpList_load_mid rfl 24 (.tmp 12) rfl w.heap.size 0 rfl _ _ HRA.out Tryz.underlying24 rfl sizeRec ?_)
  rw [← HW0.out]
  refine HTA.out.mono ?_
  rintro x w1 ⟨ua, rfl, own1, b1⟩
  obtain ⟨oa, ca, rfl⟩ := own_slice own1
  obtain ⟨X1, hX1⟩ : ∃ X1, X1 = w1.alloc (.cells (rcs a (.slice oa a.ss.length ca)) 24) := ⟨_, rfl⟩
  have bX1 : Below w1.heap.size w1 X1 := by rw [hX1]; exact (Below.refl _ _).alloc (Nat.le_refl _) _
  have HB1 := hide (keepW (keepW HB0.out b1) bX1)
  have HQ1 : Hid (X1.heap[w1.heap.size]? = some (.cells (rcs a (.slice oa a.ss.length ca)) 24 (0, 0))) := by show _ = _; rw [hX1]; exact heap_alloc_new w1 _
  have HLA := hide ((ss.lies_of_own own1).below bX1)
  have h01 := ((keepW b1 bX1).block _ (Array.getElem?_eq_some_iff.1 HH0.out).1).trans HH0.out
  have HRB : Hid (X1.rangeAt w.heap.size 9 (rcs rb vb).toList) := rct_b h01
  obtain ⟨b, hmb, hTb⟩ := tidy_any rb vb X1 (HLB.out X1 HB1.out) HZB.out (HENV.out X1 HB1.out).2
  unfold TidOut at hTb
  have HTB := hide hTb
  have HMB := hide hmb
  rw [hX1] at HRB
  have HX1 := hide hX1
  clear own1 b1 bX1 hX1 h01 hTb hmb HTA HRA
  go_wp2_with (refine wpList_load_mid rfl 24 (.tmp 15) rfl w.heap.size 9 rfl _ _ HRB.out Tryz.underlying24 rfl sizeRec ?_)
  rw [← HX1.out]
  refine HTB.out.mono ?_
  rintro x w2 ⟨ub, rfl, own2, b2⟩
  obtain ⟨ob, cb, rfl⟩ := own_slice own2
  obtain ⟨X2, hX2⟩ : ∃ X2, X2 = w2.alloc (.cells (rcs b (.slice ob b.ss.length cb)) 24) := ⟨_, rfl⟩
  have bX2 : Below w2.heap.size w2 X2 := by rw [hX2]; exact (Below.refl _ _).alloc (Nat.le_refl _) _
  have HB2 := hide (keepW (keepW HB1.out b2) bX2)
  have HQA := hide (((keepW b2 bX2).block _ (Array.getElem?_eq_some_iff.1 HQ1.out).1).trans HQ1.out)
  have HQB : Hid (X2.heap[w2.heap.size]? = some (.cells (rcs b (.slice ob b.ss.length cb)) 24 (0, 0))) := by show _ = _; rw [hX2]; exact heap_alloc_new w2 _
  have HLA2 := hide (HLA.out.below (keepW b2 bX2))
  have HLB2 := hide ((ss.lies_of_own own2).below bX2)
  have HR1 : Hid (X2.rangeAt w1.heap.size 0 (rcs a (.slice oa a.ss.length ca)).toList) := range_of (t := 24) HQA.out
  have HE1 := hide (encode_any a _ (e 1) (e 2) e X2 HLA2.out (may_sz HMA.out).small (may_sz HMA.out).low (HENV.out X2 HB2.out).1)
  unfold EncOut at HE1
  rw [HMA.out] at HE1
  simp only [if_true] at HE1
  rw [hX2] at HR1
  have HX2 := hide hX2
  clear own2 b2 bX2 hX2 HTB HRB HLA HQ1
  go_wp2_with (refine wpList_load_mid rfl 24 (.tmp 3) rfl w1.heap.size 0 rfl _ _ HR1.out Tryz.underlying24 rfl sizeRec ?_)
  rw [← HX2.out]
  refine HE1.out.mono ?_
  rintro x w3 ⟨vp, rfl, ⟨n3, hn3, own3⟩, b3⟩
  have hla := rec_len HMA.out
  obtain ⟨gp, cp, rfl, _, hgp, hcp, hrp⟩ := row_bytes own3 (by omega)
  have HB3 := hide (keepW HB2.out b3)
  have HQA3 := hide ((b3.block _ (Array.getElem?_eq_some_iff.1 HQA.out).1).trans HQA.out)
  have HQB3 := hide ((b3.block _ (Array.getElem?_eq_some_iff.1 HQB.out).1).trans HQB.out)
  have HLA3 := hide (HLA2.out.below b3)
  have HLB3 := hide (HLB2.out.below b3)
  have HR2 : Hid (w3.rangeAt w2.heap.size 0 (rcs b (.slice ob b.ss.length cb)).toList) := range_of (t := 24) HQB3.out
  have HE2 := hide (encode_any b _ (e 1) (e 2) e w3 HLB3.out (may_sz HMB.out).small (may_sz HMB.out).low (HENV.out w3 HB3.out).1)
  unfold EncOut at HE2
  rw [HMB.out] at HE2
  simp only [if_true] at HE2
  have HGP := hide hgp
  have HRP := hide hrp
  have HCP := hide hcp
  have HLEN := hide hla
  clear own3 b3 hn3 hgp hrp hcp hla HE1 HR1 HQA HQB HLA2 HLB2
  go_wp2_with (refine wpList_load_mid rfl 24 (.tmp 4) rfl w2.heap.size 0 rfl _ _ HR2.out Tryz.underlying24 rfl sizeRec ?_)
  refine HE2.out.mono ?_
  rintro x w4 ⟨vq, rfl, ⟨n4, hn4, own4⟩, b4⟩
  have hlb := rec_len HMB.out
  obtain ⟨gq, cq, rfl, _, hgq, hcq, hrq⟩ := row_bytes own4 (by omega)
  have HB4 := hide (keepW HB3.out b4)
  have HRP4 := hide (range_block HRP.out (b4.block _ HGP.out))
  have hgp4 : gp < w4.heap.size := Nat.lt_of_lt_of_le HGP.out b4.size
  have hqa4 := (b4.block _ (Array.getElem?_eq_some_iff.1 HQA3.out).1).trans HQA3.out
  have hqb4 := (b4.block _ (Array.getElem?_eq_some_iff.1 HQB3.out).1).trans HQB3.out
  have HRA4 : Hid (w4.rangeAt w1.heap.size 0 (rcs a (.slice oa a.ss.length ca)).toList) := range_of (t := 24) hqa4
  have HRB4 : Hid (w4.rangeAt w2.heap.size 0 (rcs b (.slice ob b.ss.length cb)).toList) := range_of (t := 24) hqb4
  obtain ⟨T, hT⟩ : ∃ T : Bool, T = true ↔ a = b := by
    by_cases h : a = b
    · exact ⟨true, by simp [h]⟩
    · exact ⟨false, by simp [h]⟩
  have HSR := hide (sameRec_dec a b _ _ w4 T hT (HLA3.out.below b4) (HLB3.out.below b4) (by have := (may_sz HMA.out).len; omega) (by have := (may_sz HMB.out).len; omega))
  have HT1 : Hid (decide (recL a = (recL b).take (recL a).length) = T) := by
    show _ = _
    rw [Bool.eq_iff_iff, decide_eq_true_eq, hT]
    exact begins_iff HMA.out HMB.out
  have HT2 : Hid (decide (recL b = (recL a).take (recL b).length) = T) := by
    show _ = _
    rw [Bool.eq_iff_iff, decide_eq_true_eq, hT, begins_iff HMB.out HMA.out]
    exact eq_comm
  have HBG : Hid (∀ X, Below w4.heap.size w4 X → Calls Tryz.prog 14 #[.slice (some ⟨gp, 0, none⟩) (recL a).length cp, .slice (some ⟨gq, 0, none⟩) (recL b).length cq] X fun e w' => e = .returned (.bool T) ∧ Below X.heap.size X w') := fun X hX => by
    have h := begins_any (recL a) (recL b) gp cp gq cq X (range_block HRP4.out (hX.block _ hgp4)) (Nat.lt_of_lt_of_le hgp4 hX.size) (range_block hrq (hX.block _ hgq)) (Nat.lt_of_lt_of_le hgq hX.size) hcq (by have := HLEN.out; omega) (by omega)
    rw [HT1.out] at h
    exact h
  have HBH : Hid (∀ X, Below w4.heap.size w4 X → Calls Tryz.prog 14 #[.slice (some ⟨gq, 0, none⟩) (recL b).length cq, .slice (some ⟨gp, 0, none⟩) (recL a).length cp] X fun e w' => e = .returned (.bool T) ∧ Below X.heap.size X w') := fun X hX => by
    have h := begins_any (recL b) (recL a) gq cq gp cp X (range_block hrq (hX.block _ hgq)) (Nat.lt_of_lt_of_le hgq hX.size) (range_block HRP4.out (hX.block _ hgp4)) (Nat.lt_of_lt_of_le hgp4 hX.size) HCP.out (by omega) (by have := HLEN.out; omega)
    rw [HT2.out] at h
    exact h
  obtain ⟨LA, hLA⟩ : ∃ n, n = (recL a).length := ⟨_, rfl⟩
  obtain ⟨LB, hLB⟩ : ∃ n, n = (recL b).length := ⟨_, rfl⟩
  have z1 : ¬ (LA : Int) = 0 := by have := HLEN.out; omega
  have z2 : ¬ (LB : Int) = 0 := by omega
  have z3 : ((LA : Int) == 0) = false := beq_false_of_ne z1
  have z4 : ((LB : Int) == 0) = false := beq_false_of_ne z2
  rw [← hLA, ← hLB] at HBG HBH
  rw [← hLA, ← hLB]
  clear own4 b4 hn4 hlb hgq hcq hrq hgp4 hqa4 hqb4 hT HT1 HT2 HE2 HR2 hLA hLB HRP4 HRP HGP HCP HLEN
  go_wp2_with (first
    | (refine wpList_load_mid rfl 24 (.tmp 3) rfl w1.heap.size 0 rfl _ _ HRA4.out Tryz.underlying24 rfl sizeRec ?_)
    | (refine wpList_load_mid rfl 24 (.tmp 4) rfl w2.heap.size 0 rfl _ _ HRB4.out Tryz.underlying24 rfl sizeRec ?_))
  refine HSR.out.mono ?_
  rintro x w5 ⟨rfl, b5⟩
  have HW5 := hide b5
  clear b5 HSR HRA4 HRB4
  go_wp2_with fail
  refine (HBG.out _ HW5.out).mono ?_
  rintro x w6 ⟨rfl, b6⟩
  have HW6 := hide (keepW HW5.out b6)
  clear b6
  go_wp2_with fail
  refine (HBH.out _ HW6.out).mono ?_
  rintro x w7 ⟨rfl, b7⟩
  have HB7 := hide (keepW HB4.out (keepW HW6.out b7))
  clear b7
  cases T
  all_goals
    go_wp2_with fail
    go_ret
    exact ⟨rfl, HB7.out⟩
end Go.Proofs.YtidccfflpcgkiaaGreatDoor.rc
