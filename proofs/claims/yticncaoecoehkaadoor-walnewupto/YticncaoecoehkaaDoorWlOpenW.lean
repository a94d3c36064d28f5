import Derived.Test.YticncaoecoehkaaDoorWlPut
namespace Go.Proofs.YticncaoecoehkaaDoor.wl
open Go.ChangeShapes Go.WideShapes Go.ChangeAt Go.RowKit Go.Proofs.YticncaoecoehkaaDoor.common Go.Proofs.YticncaoecoehkaaDoor.dk

theorem gate_onB (x : St) (h : x.on = true) : (x.gate id).b = x.b ∧ (x.gate id).s = x.s ∧ (x.gate id).r = x.r := by
  unfold St.on at h
  unfold St.gate
  cases hd : x.d with
  | true => rw [hd] at h; cases h
  | false =>
    rw [if_neg (by decide)]
    split
    · exact ⟨rfl, rfl, rfl⟩
    · rename_i ha
      rw [hd, ha] at h
      cases h
    · exact ⟨rfl, rfl, rfl⟩
theorem gate_lenB (x : St) (h : x.Ok 140737488355328) : (x.gate id).b.length ≤ 281474976710656 := by
  have h1 := h.most
  unfold St.gate
  split
  · omega
  · split
    · omega
    · show (List.take _ _).length ≤ _
      rw [List.length_take]
      show min _ x.b.length ≤ _
      omega
    · show x.b.length ≤ _
      omega

set_option maxRecDepth 100000 in
set_option maxHeartbeats 800000 in
theorem keep_any (w : World) (K p : Nat) (F : List Nat) (x : St) (h : Dk w p F x) (good all : Nat) (e : Nat → Addr) (he : Ed w K e) (hF : ∀ k ∈ F, K ≤ k) (hx : Fine x) (hx2 : Fine (x.trunc (good : Int)).1) :
    Calls Tryd.prog 42 #[ptr p, .int .i64 (good : Int), .int .i64 (all : Int)] w fun r' w' => r' = .returned (errV e (kpS x good all).2) ∧ Mv w p F (kpS x good all).1 w' := by
  have HT := hide (trunc_any w K p F x h e he hF hx (good : Int) (gate_onB x))
  have HS := hide (sync_any w K p F x h e he hF hx)
  have HER := hide he
  clear h he
  by_cases hlt : good < all
  · have q1 : decide ((good : Int) < (all : Int)) = true := by rw [decide_eq_true_eq]; omega
    have q2 : (good : Int) < (all : Int) := by omega
    go_enter Tryd.func42, Tryd.ntmps42
    go_wp2_with fail
    refine HT.out.mono ?_
    rintro r' w1 ⟨rfl, F1, hD1, hf1, hs1⟩
    have hq := errV_neq e (x.trunc (good : Int)).2
    by_cases h0 : (x.trunc (good : Int)).2 = 0
    · have hw : kpS x good all = (x.trunc (good : Int)).1.syncs := by unfold kpS; rw [if_pos hlt, if_pos h0]
      have hF1 : ∀ k ∈ F1, K ≤ k := fun k hk => by
        rcases hs1 k hk with h1 | h1
        · exact hF k h1
        · exact Nat.le_trans HER.out.size h1
      have HS2 := hide (sync_any w1 K p F1 (x.trunc (good : Int)).1 hD1 e (HER.out.fr hf1 hF) hF1 hx2)
      have HF1 := hide hf1
      have HS1 := hide hs1
      rw [h0, errV_zero]
      have HW := hide hw
      clear hw hD1 hf1 hs1 hq h0 HT HS
      go_wp2_with fail
      refine HS2.out.mono ?_
      rintro r' w2 ⟨rfl, F2, hD2, hf2, hs2⟩
      have HMV : Hid (Mv w p F (kpS x good all).1 w2) := by
        show Mv _ _ _ _ _
        rw [HW.out]
        refine ⟨F2, hD2, HF1.out.trans hf2 (fun i hi => HS1.out i hi), fun k hk => ?_⟩
        rcases hs2 k hk with h1 | h1
        · exact HS1.out k h1
        · exact Or.inr (Nat.le_trans HF1.out.size h1)
      clear hD2 hf2 hs2 HS2
      go_wp2_with fail
      go_ret
      exact ⟨by rw [HW.out]; rfl, HMV.out⟩
    · have hw : kpS x good all = x.trunc (good : Int) := by unfold kpS; rw [if_pos hlt, if_neg h0]
      have HMV : Hid (Mv w p F (kpS x good all).1 w1) := by
        show Mv _ _ _ _ _
        rw [hw]
        exact ⟨F1, hD1, hf1, hs1⟩
      have hev : errV e (x.trunc (good : Int)).2 = errw.E e ((x.trunc (good : Int)).2 - 1) := by unfold errV; rw [if_neg h0]
      have HW := hide hw
      have HEV := hide hev
      rw [hev]
      clear hw hD1 hf1 hs1 hq h0 HT HS hev
      go_wp2_with fail
      go_ret
      exact ⟨by rw [HW.out, HEV.out]; rfl, HMV.out⟩
  · have q1 : decide ((good : Int) < (all : Int)) = false := by rw [decide_eq_false_iff_not]; omega
    have q2 : ¬ (good : Int) < (all : Int) := by omega
    have hw : kpS x good all = x.syncs := by unfold kpS; rw [if_neg hlt]
    rw [hw]
    clear hw hlt HT
    go_enter Tryd.func42, Tryd.ntmps42
    go_wp2_with fail
    refine HS.out.mono ?_
    rintro r' w2 ⟨rfl, hmv⟩
    have HMV := hide hmv
    clear hmv
    go_wp2_with fail
    go_ret
    exact ⟨rfl, HMV.out⟩
theorem sizeLog : (Tryd.prog.info? 80).map (·.size) = some 4 := by kernel_rfl
theorem own_frB {W W' : World} {base : Nat} {e : TypeId} {u : Value} {n : Nat} {xs : List Value} {F : List Nat} (h : W.ownsRow base e 1 u n xs) (hf : Fr F W W') (hF : ∀ k ∈ F, k < base) : W'.ownsRow base e 1 u n xs := by
  refine ⟨h.1, ?_⟩
  rcases h.2 with hh | ⟨g, cap, cur, rfl, hg, hh, hn⟩
  · exact Or.inl hh
  · refine Or.inr ⟨g, cap, cur, rfl, hg, (hf.block g (Array.getElem?_eq_some_iff.1 hh).1 (fun hm => ?_)).trans hh, hn⟩
    have := hF g hm
    omega
theorem ans_rc {w : World} {F' : List Nat} {v : Value} {l : List UInt8} {w' : World} (h : Ans w F' v l w') : Rc w' v l := by
  rcases h with ⟨rfl, rfl⟩ | ⟨g, rfl, _, _, h⟩
  · exact ⟨none, 0, rfl, Nat.le_refl _, fun h0 => absurd h0 (by decide)⟩
  · obtain ⟨oa, c, e, hr⟩ := h.rd l.length
    exact ⟨oa, c, e, by cases e; exact Nat.le_refl _, hr⟩

set_option maxRecDepth 100000 in
set_option maxHeartbeats 800000 in
/-- an Open that nothing disturbs -/
theorem openL_ok (w : World) (K p : Nat) (F : List Nat) (x : St) (h : Dk w p F x) (e : Nat → Addr) (he : Ed w K e) (hF : ∀ k ∈ F, K ≤ k) (hx : Fine x) (ht : crcw.Tab w) (y : St) (hr : x.reads = (y, 0)) (hy : Fine y) (hy2 : Fine (y.trunc (Wl.good y.b : Int)).1) (hb : y.b.length ≤ 4398046511104) (z : St) (hk : kpS y (Wl.good y.b) y.b.length = (z, 0)) (hG : 13 < K) :
    Calls Tryd.prog 11 #[ptr p] w fun r' w' => ∃ g F' v' its, r' = .returned (.tuple #[ptr g, v', .nilIface]) ∧ LgD w' g p F' ⟨z, its.length, Wl.good y.b, false⟩ ∧ ps its = Wl.scan y.b ∧ w'.ownsRow w.heap.size 22 1 v' its.length (its.map It.v) ∧ Its w' w.heap.size its ∧ Fr F w w' ∧ (∀ k ∈ F', k ∈ F ∨ w.heap.size ≤ k) ∧ w.heap.size ≤ g ∧ (∀ b, v'.ownBlock = some b → b ∉ F') ∧ ∀ x ∈ its, x.g ∉ F' := by
  have HR := hide (reads_any w K p F x h e he hF hx (fun y hy => by rw [hy]; exact gate_lenB x hx.ok))
  rw [hr] at HR
  simp only [if_true, errV_zero] at HR
  have hFlt := h.lt
  have HE := hide he
  have HTB := hide ht
  clear h he ht hr hx
  go_enter Tryd.func11, Tryd.ntmps11
  go_wp2_with fail
  refine HR.out.mono ?_
  rintro r' w1 ⟨v, F1, rfl, hA, hD1, hf1, hs1⟩
  have hE1 := HE.out.fr hf1 hF
  have hF1 : ∀ k ∈ F1, K ≤ k := fun k hk => by
    rcases hs1 k hk with h1 | h1
    · exact hF k h1
    · exact Nat.le_trans HE.out.size h1
  have hT1 : crcw.Tab w1 := fun i hi => by
    rw [← HTB.out i hi]
    refine World.cell?_of_block (hf1.block _ (Nat.lt_of_lt_of_le hG HE.out.size) (fun hm => ?_))
    have h1 : K ≤ 13 := hF _ hm
    omega
  have hRc := ans_rc hA
  have HSC := hide (scan_any w1 v y.b hRc hb hT1)
  obtain ⟨oa, ca, rfl⟩ := hRc.rd.len
  have hF1lt := hD1.lt
  have HD1 := hide hD1
  have HF1 := hide hf1
  have HS1 := hide hs1
  have HE1 := hide hE1
  clear hA hRc hT1 HR hD1 hf1 hs1 hE1
  go_wp2_with fail
  refine HSC.out.mono ?_
  rintro r' w2 ⟨v', its, rfl, hps, hown, hits, b2⟩
  have HKP := hide (keep_any w2 K p F1 y (HD1.out.below b2) (Wl.good y.b) y.b.length e (HE1.out.below b2) hF1 hy hy2)
  rw [hk] at HKP
  simp only [errV_zero] at HKP
  obtain ⟨ov, cv, rfl⟩ : ∃ ov cv, v' = .slice ov its.length cv := by
    rcases hown.2 with ⟨rfl, h0⟩ | ⟨g, c, cur, rfl, _⟩
    · exact ⟨none, 0, by rw [h0]⟩
    · exact ⟨_, c, rfl⟩
  have HOW := hide hown
  have HIT := hide hits
  have HB2 := hide b2
  have HPS := hide hps
  clear hown hits b2 HSC hps
  go_wp2_with fail
  refine HKP.out.mono ?_
  rintro r' w3 ⟨rfl, F3, hD3, hf3, hs3⟩
  have how3 := own_frB HOW.out hf3 hF1lt
  have hit3 : Its w3 w1.heap.size its := its_keep HIT.out (fun x hx => hf3.block _ (Array.getElem?_eq_some_iff.1 (HIT.out.1 x hx).1).1 (fun hm => by
    have h1 := hF1lt _ hm
    have h2 := (HIT.out.1 x hx).2
    omega))
  have hF3 : ∀ k ∈ F3, k ∈ F ∨ w.heap.size ≤ k := fun k hk => by
    rcases hs3 k hk with h1 | h1
    · exact HS1.out k h1
    · exact Or.inr (by have := HB2.out.size; have := HF1.out.size; omega)
  have hfr3 : Fr F w w3 := (HF1.out.next HB2.out).trans hf3 (fun i hi => HS1.out i hi)
  have HAP : Hid ((∀ b, (Value.slice ov its.length cv).ownBlock = some b → b ∉ F3) ∧ ∀ x ∈ its, x.g ∉ F3) := by
    refine ⟨fun b hb hm => ?_, fun x hx hm => ?_⟩
    · have h1 := (HOW.out.lt b hb).1
      have h3 := (HOW.out.lt b hb).2
      rcases hs3 b hm with h2 | h2
      · have := hF1lt _ h2; omega
      · omega
    · have h1 := (HIT.out.1 x hx).2
      have h3 := (Array.getElem?_eq_some_iff.1 (HIT.out.1 x hx).1).1
      rcases hs3 _ hm with h2 | h2
      · have := hF1lt _ h2; omega
      · omega
  obtain ⟨W4, hW4⟩ : ∃ W4, W4 = w3.alloc (.cells (lgc p its.length (Wl.good y.b) false) 80) := ⟨_, rfl⟩
  have b4 : Below w3.heap.size w3 W4 := by rw [hW4]; exact (Below.refl _ _).alloc (Nat.le_refl _) _
  have hF3lt := hD3.lt
  have HFIN : Hid (LgD W4 w3.heap.size p F3 ⟨z, its.length, Wl.good y.b, false⟩) := ⟨hD3.below b4, by rw [hW4]; exact heap_alloc_new _ _, fun hm => by have := hF3lt _ hm; omega⟩
  have HOW4 : Hid (W4.ownsRow w.heap.size 22 1 (.slice ov its.length cv) its.length (its.map It.v)) := own_mono' (own_below how3 b4) HF1.out.size
  have HIT4 : Hid (Its W4 w.heap.size its) := by
    have h1 := its_keep hit3 (W' := W4) (fun x hx => b4.block _ (Array.getElem?_eq_some_iff.1 (hit3.1 x hx).1).1)
    exact ⟨fun x hx => ⟨(h1.1 x hx).1, Nat.le_trans HF1.out.size (h1.1 x hx).2⟩, h1.2⟩
  have HFR4 := hide (hfr3.next b4)
  have HSZ : Hid (w.heap.size ≤ w3.heap.size) := hfr3.size
  have HF3 := hide hF3
  have HW4 := hide hW4
  clear how3 hit3 hF3 hfr3 b4 hD3 hf3 hs3 hW4 HKP HOW HIT
  go_wp2_with fail
  change bodyPost _ _ _ _ _ (w3.alloc (.cells (lgc p its.length (Wl.good y.b) false) 80))
  rw [← HW4.out]
  go_ret3
  exact ⟨w3.heap.size, F3, .slice ov its.length cv, its, rfl, HFIN.out, HPS.out, HOW4.out, HIT4.out, HFR4.out, HF3.out, HSZ.out, HAP.out⟩
end Go.Proofs.YticncaoecoehkaaDoor.wl
