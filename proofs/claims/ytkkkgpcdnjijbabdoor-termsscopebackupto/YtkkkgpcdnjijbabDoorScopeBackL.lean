import Derived.Test.YtkkkgpcdnjijbabDoorScopeWords
import Derived.Test.YtkkkgpcdnjijbabDoorTmErr2
import Derived.Test.YtkkkgpcdnjijbabDoorStrSame
import Derived.Test.YtkkkgpcdnjijbabDoorStrHas
import Derived.Laws.Cover1
import Derived.Sort.Walk0
namespace Go.Proofs.YtkkkgpcdnjijbabDoor.tm
open Go.ChangeShapes Go.WideShapes Go.ChangeAt Go.RowKit Go.Proofs.YtkkkgpcdnjijbabDoor.common Go.Proofs.YtkkkgpcdnjijbabDoor.bk
open Go.Proofs.YtkkkgpcdnjijbabDoor.ss (joinS tot Lies Room sc)
attribute [local go_sem ↓] Go.wp_at_zero Go.wp_at_succ

theorem env2 {w : World} {ea em : Addr} (h : Errs2 w ea em) (hm : ∃ m : Int, w.cell? ⟨15, 0, none⟩ = some (.int .i64 m)) : SEnv (X ea) (X em) w := ⟨h.txt, h.mny, hm⟩
theorem drewN_below (w : World) (n : Nat) : Below w.heap.size w (w.drewN n) := ⟨rfl, rfl, rfl, Nat.le_refl _, fun _ _ => rfl⟩

set_option maxRecDepth 100000 in
set_option maxHeartbeats 12800000 in
theorem lawScopeBack (s : ByteArray) (w : World) (hs : s.size ≤ 1048600) (ea em : Addr) (he : Errs2 w ea em) (hm : ∃ m : Int, w.cell? ⟨15, 0, none⟩ = some (.int .i64 m)) :
    Calls Tryd.prog 7 #[.string s] w fun e w' => e = .returned (.bool true) ∧ Below w.heap.size w w' := by
  have HE := hide he
  have HS := hide (env2 he hm)
  have HX := hide (scopes_any (X ea) (X em) ⟨#[98, 32, 97, 32, 98]⟩ w HS.out (by decide))
  rw [(good_bab _ _).1, (good_bab (X ea) (X em)).2] at HX
  clear he hm
  go_enter Tryd.func7, Tryd.ntmps7
  go_wp2_with fail
  refine HX.out.mono ?_
  rintro x w1 ⟨v1, rfl, ho1, hb1⟩
  obtain ⟨o1, c1, rfl, hc1⟩ := ss.lies_of_own ho1
  obtain ⟨b1, p1, rfl, _, d1⟩ := hc1 0 (by decide)
  obtain ⟨b1', p1', he1, _, d2⟩ := hc1 1 (by decide)
  cases he1
  have d1' : w1.cell? ⟨b1, p1, none⟩ = some (.string ⟨#[97]⟩) := by simpa using d1
  have d2' : w1.cell? ⟨b1, p1 + 1, none⟩ = some (.string ⟨#[98]⟩) := by simpa using d2
  have B1 := hide hb1
  clear hc1 d1 d2 ho1 hb1 HX
  have hq : (((⟨#[97]⟩ : ByteArray).toList == [97]) = true) := by rw [ByteArray.toList_eq]; rfl
  have hq2 : (((⟨#[98]⟩ : ByteArray).toList == [98]) = true) := by rw [ByteArray.toList_eq]; rfl
  go_wp2_with fail
  have HT : Hid (∀ X', Below w.heap.size w X' → Calls Tryd.prog 12 #[.string s] X' fun x W' => ∃ v, x = .returned (.tuple #[v, scE (X ea) (X em) s]) ∧ W'.ownsRow X'.heap.size 9 1 v (scL s).length (sc (scL s)) ∧ Below X'.heap.size X' W') := fun X' hX => scopes_any _ _ _ X' (HS.out.below hX) (by omega)
  refine (HT.out _ B1.out).mono ?_
  rintro x w2 ⟨v2, rfl, ho2, hb2⟩
  have B2 := hide (keepD B1.out hb2)
  have E2 := hide (HE.out.below B2.out)
  have y0 := E2.out.txt
  have y1 := E2.out.mny
  have q0 := same_err w2 ea
  have q1 := same_err w2 em
  have q2 := E2.out.other'
  cases ha : areSc s with
  | false =>
    have hsE : scE (X ea) (X em) s = X ea := by unfold scE; rw [ha]; rfl
    have hsL : scL s = [] := by unfold scL; rw [ha]; rfl
    rw [hsL] at ho2
    obtain ⟨o2, c2, rfl, _⟩ := ss.lies_of_own ho2
    rw [hsE]
    clear ho2 hb2 ha hsE hsL
    go_wp2_with fail
    go_ret
    exact ⟨rfl, B2.out⟩
  | true =>
    cases hmn : many s with
    | true =>
      have hsE : scE (X ea) (X em) s = X em := by unfold scE; rw [ha, hmn]; rfl
      have hsL : scL s = [] := by unfold scL; rw [ha, hmn]; rfl
      rw [hsL] at ho2
      obtain ⟨o2, c2, rfl, _⟩ := ss.lies_of_own ho2
      rw [hsE]
      clear ho2 hb2 ha hsE hsL
      go_wp2_with fail
      go_ret
      exact ⟨rfl, B2.out⟩
    | false =>
      have hsE : scE (X ea) (X em) s = .nilIface := by unfold scE; rw [ha, hmn]; rfl
      have HG := hide (good_of ha hmn)
      rw [hsE]
      have L2 := hide (ss.lies_of_own ho2)
      have RM := hide (ss.room_own ho2)
      have HP2 := HG.out.pos
      have HM2 := HG.out.most
      clear ho2 hb2 ha hmn hsE HT q0 q1 q2 y0 y1
      generalize scL s = l at *
      obtain ⟨o2, c2, rfl, hc2⟩ := L2.out
      have HC2 := hide hc2
      clear hc2
      go_wp2_with fail
      have HLT : Hid (∀ k (h : k + 1 < l.length), (l[k]'(by omega)).data.toList < (l[k + 1]'h).data.toList) := fun k h => List.pairwise_iff_getElem.1 HG.out.lt k (k + 1) (by omega) h (by omega)
      have HSC : Hid (∀ k (h : k < l.length), isSc (l[k]'h) = true) := fun k h => HG.out.sc _ (List.getElem_mem h)
      go_loopw [7] (fun i wr => ∃ k : Nat, k ≤ l.length ∧ i = .int .i64 k ∧ Hid (Below w2.heap.size w2 wr)) (fun i _ => l.length - (intOf i).toNat)
      case atStart => exact ⟨0, Nat.zero_le _, rfl, Below.refl _ _⟩
      case round =>
        obtain ⟨k, hk, rfl, HB⟩ := hrel
        have hll : l.length ≤ 4611686018427387904 := by omega
        by_cases hlt : k < l.length
        · have hki : (k : Int) < (l.length : Int) := by omega
          have k0 : (0 : Int) ≤ (k : Int) := Int.natCast_nonneg _
          obtain ⟨b, o, rfl, hb, c0⟩ := HC2.out k hlt
          have d0 := (HB.out.cell (p := ⟨b, o + k, none⟩) hb).trans c0
          have HSK := hide (HSC.out k hlt)
          by_cases hk0 : k = 0
          · subst hk0
            rw [Nat.add_zero] at d0
            rw [Nat.add_zero] at c0
            generalize l[0] = p at *
            go_wp2_with fail
            go_quiet (fail)
            rename_i nq
            have d0' := ((drewN_below wr nq).cell (p := ⟨b, o, none⟩) (Nat.lt_of_lt_of_le hb HB.out.size)).trans d0
            go_wp2_with fail
            have HSX := hide (scopes_any (X ea) (X em) p (wr.drewN nq) (HS.out.below (keepD (keepD B2.out HB.out) (drewN_below wr nq))) (by have := sc_size HSK.out; omega))
            rw [(sc_alone HSK.out _ _).1, (sc_alone HSK.out (X ea) (X em)).2] at HSX
            have hps := sc_size HSK.out
            have hpsi : ¬ (32 : Int) < (p.size : Int) := by omega
            refine HSX.out.mono ?_
            rintro x w4 ⟨v4, rfl, ho4, hb4⟩
            obtain ⟨o4, c4, rfl, hc4⟩ := ss.lies_of_own ho4
            obtain ⟨b4, p4, rfl, _, d4⟩ := hc4 0 (by simp)
            have d4' : w4.cell? ⟨b4, p4, none⟩ = some (.string p) := by simpa using d4
            have HB4 : Hid (Below w2.heap.size w2 w4) := keepD (keepD HB.out (drewN_below wr nq)) hb4
            have d5 := (HB4.out.cell (p := ⟨b, o, none⟩) hb).trans c0
            have hpe : (p.toList == p.toList) = true := by simp
            clear hc4 d4 ho4 hb4 HSX d0 d0'
            go_wp2_with fail
            go_quiet (fail)
            go_wp2_with fail
            go_roundw
            case rel => exact ⟨0 + 1, by omega, by go_num, keepD HB4.out (drewN_below _ _)⟩
            case measure => simp [intOf]; omega
          · obtain ⟨b', o', e', hb', c1⟩ := HC2.out (k - 1) (by omega)
            cases e'
            have d1 := (HB.out.cell (p := ⟨b, o + (k - 1), none⟩) hb).trans c1
            have HLK : Hid ((l[k - 1]'(by omega)).data.toList < (l[k]'hlt).data.toList) := List.pairwise_iff_getElem.1 HG.out.lt (k - 1) k (by omega) hlt (by omega)
            generalize l[k - 1]'(by omega) = q at *
            have kp : (0 : Int) < (k : Int) := by omega
            have kpn : 0 < k := by omega
            have hdi : decide ((0 : Int) < (k : Int)) = true := decide_eq_true kp
            have hdn : decide (0 < k) = true := decide_eq_true kpn
            have k1 : (1 : Int) ≤ (k : Int) := by omega
            have k5 : (k : Int) ≤ (l.length : Int) := by omega
            have km : IntKind.i64.wrap ((k : Int) - 1) = (k : Int) - 1 := wrap_le _ (by omega) (by omega)
            have kn : ((k : Int) - 1).toNat = k - 1 := by omega
            have k2 : (0 : Int) ≤ (k : Int) - 1 := by omega
            have k3 : (k : Int) - 1 < (l.length : Int) := by omega
            have hcmp : Op.bytesLess q.toList (l[k]'hlt).toList = true := by rw [Go.Proofs.bytesLess_eq, ByteArray.toList_eq, ByteArray.toList_eq]; exact decide_eq_true HLK.out
            generalize l[k]'hlt = p at *
            go_wp2_with fail
            go_quiet (fail)
            rename_i nq
            have d0' := ((drewN_below wr nq).cell (p := ⟨b, o + k, none⟩) (Nat.lt_of_lt_of_le hb HB.out.size)).trans d0
            clear d1 c1 kp km kn k2 k3 hcmp kpn hdi hdn k1 k5
            go_wp2_with fail
            have HSX := hide (scopes_any (X ea) (X em) p (wr.drewN nq) (HS.out.below (keepD (keepD B2.out HB.out) (drewN_below wr nq))) (by have := sc_size HSK.out; omega))
            rw [(sc_alone HSK.out _ _).1, (sc_alone HSK.out (X ea) (X em)).2] at HSX
            have hps := sc_size HSK.out
            have hpsi : ¬ (32 : Int) < (p.size : Int) := by omega
            refine HSX.out.mono ?_
            rintro x w4 ⟨v4, rfl, ho4, hb4⟩
            obtain ⟨o4, c4, rfl, hc4⟩ := ss.lies_of_own ho4
            obtain ⟨b4, p4, rfl, _, d4⟩ := hc4 0 (by simp)
            have d4' : w4.cell? ⟨b4, p4, none⟩ = some (.string p) := by simpa using d4
            have HB4 : Hid (Below w2.heap.size w2 w4) := keepD (keepD HB.out (drewN_below wr nq)) hb4
            have d5 := (HB4.out.cell (p := ⟨b, o + k, none⟩) hb).trans c0
            have hpe : (p.toList == p.toList) = true := by simp
            clear hc4 d4 ho4 hb4 HSX d0 d0'
            go_wp2_with fail
            go_quiet (fail)
            go_wp2_with fail
            go_roundw
            case rel => exact ⟨k + 1, by omega, by go_num, keepD HB4.out (drewN_below _ _)⟩
            case measure => simp [intOf]; omega
        · obtain rfl : k = l.length := by omega
          have BW := hide (keepD B2.out HB.out)
          have HGW := hide HG.out.mem
          have W1 : Hid (ss.win (tsq.parts 32 s) l = true) := ss.win_iff.2 fun x hx => (HGW.out x).2 hx
          have W2 : Hid (ss.win l (tsq.parts 32 s) = true) := ss.win_iff.2 fun x hx => (HGW.out x).1 hx
          have HPL : Hid ((tsq.parts 32 s).length ≤ 4611686018427387904) := by have := parts_le 32 s; show _ ≤ _; omega
          have HTT : Hid (tot l ≤ 528) := by
            have : ∀ m : List ByteArray, (∀ x ∈ m, x.size ≤ 32) → tot m ≤ 33 * m.length := by
              intro m
              induction m with
              | nil => intro _; exact Nat.le_refl _
              | cons y r ih =>
                intro hm
                have e1 := hm y (List.mem_cons_self ..)
                have e2 := ih fun z hz => hm z (List.mem_cons_of_mem _ hz)
                unfold tot at e2 ⊢
                simp only [List.map_cons, List.sum_cons, List.length_cons]
                omega
            have := this l fun x hx => sc_size (HG.out.sc x hx)
            show _ ≤ _
            omega
          have HBK := hide (good_back HG.out (X ea) (X em))
          have jl := ss.joinS_len l
          have HJ : Hid (∀ X', Below w.heap.size w X' → Calls Tryd.prog 12 #[S (joinS l)] X' fun x W' => ∃ v, x = .returned (.tuple #[v, .nilIface]) ∧ W'.ownsRow X'.heap.size 9 1 v l.length (sc l) ∧ Below X'.heap.size X' W') := fun X' hX => by
            have h := scopes_any (X ea) (X em) ⟨(joinS l).toArray⟩ X' (HS.out.below hX) (by rw [str_size]; have := HTT.out; omega)
            rw [HBK.out.1, HBK.out.2] at h
            exact h
          clear jl
          go_wp2_with fail
          refine (words_any s wr (by omega)).mono ?_
          rintro x w5 ⟨v5, rfl, ho5, hb5⟩
          have B5 := hide (keepD BW.out hb5)
          have LW := hide (ss.lies_of_own ho5)
          have LL := hide ((L2.out.below HB.out).below hb5)
          clear ho5 hb5
          go_wp2_with fail
          refine (ss.text_any _ l w5 LL.out RM.out (by have := HTT.out; omega)).mono ?_
          rintro x w6 ⟨rfl, hb6⟩
          have B6 := hide (keepD B5.out hb6)
          have LW6 := hide (LW.out.below hb6)
          have LL6 := hide (LL.out.below hb6)
          clear hb6
          go_wp2_with fail
          refine (HJ.out _ B6.out).mono ?_
          rintro x w7 ⟨v7, rfl, ho7, hb7⟩
          have B7 := hide (keepD B6.out hb7)
          have LW7 := hide (LW6.out.below hb7)
          have LL7 := hide (LL6.out.below hb7)
          have L7 := hide (ss.lies_of_own ho7)
          clear ho7 hb7
          have P1 := hide (ss.within_any _ _ (tsq.parts 32 s) l w7 LW7.out LL7.out HPL.out hll)
          have P2 := hide (ss.within_any _ _ l (tsq.parts 32 s) w7 LL7.out LW7.out hll HPL.out)
          rw [W1.out] at P1
          rw [W2.out] at P2
          go_wp2_with (first
            | (go_at_call 20; first
              | (with_reducible refine P1.out.mono ?_; rintro x w9 ⟨rfl, rfl⟩)
              | (with_reducible refine P2.out.mono ?_; rintro x w9 ⟨rfl, rfl⟩))
            | (go_at_call 15; refine (ss.same_any _ _ l _ L7.out LL7.out hll).mono ?_; rintro x w8 ⟨rfl, hb8⟩; have B8 := hide (keepD B7.out hb8); clear hb8))
          go_ret
          exact ⟨rfl, B8.out⟩

end Go.Proofs.YtkkkgpcdnjijbabDoor.tm
