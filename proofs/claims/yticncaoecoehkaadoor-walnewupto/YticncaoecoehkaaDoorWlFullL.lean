import Derived.Test.YticncaoecoehkaaDoorWlOpenW
import Derived.Test.YticncaoecoehkaaDoorWlBegun
import Derived.Test.YticncaoecoehkaaDoorWlArgP
import Derived.Test.YticncaoecoehkaaDoorDkOpen
import Derived.Test.YticncaoecoehkaaDoorPickWalk
namespace Go.Proofs.YticncaoecoehkaaDoor.wl
open Go.ChangeShapes Go.WideShapes Go.ChangeAt Go.RowKit Go.Proofs.YticncaoecoehkaaDoor.common Go.Proofs.YticncaoecoehkaaDoor.dk

theorem count_any (w : World) (g p n z : Nat) (d : Bool) (h : LgAt w g p n z d) : Calls Tryd.prog 18 #[ptr g] w fun r' w' => r' = .returned (.int .i64 (n : Int)) ∧ w' = w := by
  have c1 : w.cell? ⟨g, 1, none⟩ = some (.int .i64 (n : Int)) := cell_of h 1
  clear h
  go_enter Tryd.func18, Tryd.ntmps18
  go_wp2
  go_ret
  exact ⟨rfl, rfl⟩
theorem size_any (w : World) (g p n z : Nat) (d : Bool) (h : LgAt w g p n z d) : Calls Tryd.prog 19 #[ptr g] w fun r' w' => r' = .returned (.int .i64 (z : Int)) ∧ w' = w := by
  have c1 : w.cell? ⟨g, 2, none⟩ = some (.int .i64 (z : Int)) := cell_of h 2
  clear h
  go_enter Tryd.func19, Tryd.ntmps19
  go_wp2
  go_ret
  exact ⟨rfl, rfl⟩
theorem num_err (w : World) (e : Nat → Addr) (h : errw.Errs w e) (n : Nat) (hn : n = 0 ∨ n = 1 ∨ n = 9) : Calls Tryd.prog 23 #[errV e n] w fun r' w' => r' = .returned (.int .i64 (n : Int)) ∧ w' = w := by
  rcases hn with rfl | rfl | rfl
  · exact errw.num_nil w
  · exact errw.num_0 w e h
  · exact errw.num_8 w e h
theorem fine_plain (b : List UInt8) (rm : Nat) (hb : b.length ≤ 1073741824) (hr : rm ≤ 1073741824) : Fine ⟨b, b.length, rm, [], false⟩ :=
  ⟨⟨Nat.le_refl _, hr, by show b.length ≤ _; omega⟩, fun a ha => (by cases ha), fun a ha => (by cases ha)⟩
theorem append_plain (b : List UInt8) (rm : Nat) (l : List UInt8) : St.append ⟨b, b.length, rm, [], false⟩ l = if b.length + l.length ≤ rm then (⟨b ++ l, b.length, rm, [], false⟩, 0) else (⟨b, b.length, rm, [], false⟩, 9) := by
  unfold St.append St.oper St.put St.fits
  by_cases h : b.length + l.length ≤ rm
  · simp [h]
  · simp [h]
theorem put_plain (b : List UInt8) (rm n : Nat) (q : List UInt8) : Lg.put ⟨⟨b, b.length, rm, [], false⟩, n, b.length, false⟩ q =
    if Wl.fit q.length = false then (⟨⟨b, b.length, rm, [], false⟩, n, b.length, false⟩, 1)
    else if b.length + (Wl.fr q).length ≤ rm then (⟨⟨b ++ Wl.fr q, (b ++ Wl.fr q).length, rm, [], false⟩, n + 1, (b ++ Wl.fr q).length, false⟩, 0)
    else (⟨⟨b, b.length, rm, [], false⟩, n, b.length, false⟩, 9) := by
  unfold Lg.put wrS
  by_cases hf : Wl.fit q.length = false
  · rw [if_pos hf, if_pos hf]
  · rw [if_neg hf, if_neg hf]
    simp only [append_plain]
    by_cases h : b.length + (Wl.fr q).length ≤ rm
    · simp only [h, if_true]
      simp [St.syncs, St.oper, St.sync]
    · simp only [h, if_false]
      simp

set_option maxRecDepth 100000 in
set_option maxHeartbeats 6400000 in
theorem lawFull (w : World) (od : Option Addr) (nd cd : Nat) (room : Int) (vs : Value) (L : List (List UInt8)) (hs : LsP w vs L) (hL : L.length ≤ 2932031007402) (hq : ∀ q ∈ L, q.length ≤ reachBytes) (hr0 : -9223372036854775808 ≤ room) (hr1 : room ≤ 9223372036854775807) (ht : crcw.Tab w) (e : Nat → Addr) (he : errw.Errs w e) :
    Calls Tryd.prog 4 #[.agg #[.slice od nd cd, .int .i64 room, vs]] w fun r' w' => r' = .returned (.bool true) ∧ Below w.heap.size w w' := by
  obtain ⟨os, cs, rfl, _⟩ : ∃ os cs, vs = .slice os L.length cs ∧ True := by
    obtain ⟨os, cs, h, _⟩ := hs
    exact ⟨os, cs, h, trivial⟩
  obtain ⟨W0, hW0⟩ : ∃ W0, W0 = w.alloc (.cells #[.slice od nd cd, .int .i64 room, .slice os L.length cs] 44) := ⟨_, rfl⟩
  have hB0 : Below w.heap.size w W0 := by rw [hW0]; exact (Below.refl _ _).alloc (Nat.le_refl _) _
  have hX0 : W0.heap[w.heap.size]? = some (.cells #[.slice od nd cd, .int .i64 room, .slice os L.length cs] 44) := by rw [hW0]; exact heap_alloc_new _ _
  have hz0 : w.heap.size < W0.heap.size := by rw [hW0]; simp
  obtain ⟨K, hK⟩ : ∃ K, K = W0.heap.size := ⟨_, rfl⟩
  have HTE : Hid (∀ Y, Below W0.heap.size W0 Y → crcw.Tab Y) := fun Y hY => (ht.below hB0 ht.lt).below hY (Nat.lt_of_lt_of_le ht.lt hB0.size)
  have HEE : Hid (∀ Y, Below W0.heap.size W0 Y → errw.Errs Y e) := fun Y hY => (he.below hB0).below hY
  have HE0 : Hid (Er W0 K e) := by rw [hK]; exact er_of (he.below hB0)
  have HLP := hide (hs.below hB0)
  have HQ := hide hq
  have HTL : Hid (13 < K) := by rw [hK]; exact Nat.lt_of_lt_of_le ht.lt hB0.size
  have HEA : Hid (1 < W0.heap.size) := World.block_lt_of_cell? _ _ (he.below hB0 |>.cell 0 (by decide))
  have HX0 := hide hX0
  have HB0 := hide hB0
  have x1 : W0.cell? ⟨w.heap.size, 1, none⟩ = some (.int .i64 room) := cell_of hX0 1
  have hpb := kitw.pick_bounds room 300
  obtain ⟨rm, hrm⟩ : ∃ rm : Nat, kitw.pick room 300 = (rm : Int) := ⟨(kitw.pick room 300).toNat, by omega⟩
  have hrl : rm < 300 := by have := hpb.2 (by decide); omega
  have HPK := hide (kitw.pick_any room 300 W0 (by decide) (by decide) hr0 hr1)
  rw [hrm] at HPK
  have HW0 := hide hW0
  clear hpb hrm ht he hs hq hB0 hX0 hW0
  go_enter Tryd.func4, Tryd.ntmps4
  go_wp2_with fail
  rw [← HW0.out]
  refine HPK.out.mono ?_
  rintro r' w0 ⟨rfl, hw0⟩
  subst hw0
  clear HPK x1 HW0
  go_wp2_with fail
  refine (new_any w0 (rm : Int)).mono ?_
  rintro r' w1 ⟨p, F, rfl, hD1, hF1, b1⟩
  have hroom : roomOf (rm : Int) = rm := by
    unfold roomOf
    split
    · omega
    · split <;> omega
  rw [hroom] at hD1
  have hE1 := HE0.out.below b1
  have HB1 := hide b1
  have hFK : ∀ k ∈ F, K ≤ k := fun k hk => by have := hF1 k hk; omega
  have HOP := hide (openL_ok w1 K p F ⟨[], 0, rm, [], false⟩ hD1 e hE1.ed hFK (fine_plain [] rm (by decide) (by omega)) (HTE.out _ b1) ⟨[], 0, rm, [], false⟩ rfl (fine_plain [] rm (by decide) (by omega)) (by
      have hg0 : Wl.good [] = 0 := rfl
      show Fine (St.trunc ⟨[], 0, rm, [], false⟩ ((Wl.good [] : Nat) : Int)).1
      rw [hg0]
      exact fine_plain [] rm (by decide) (by omega)) (Nat.zero_le _) ⟨[], 0, rm, [], false⟩ rfl HTL.out)
  clear hD1 hF1 b1 hE1 hroom
  go_wp2_with fail
  refine HOP.out.mono ?_
  rintro r' w2 ⟨g, F2, v', its, rfl, hlg, hps, hown, hits, hf2, hs2, hg2, _⟩
  have hits0 : its = [] := by
    have h1 : ps its = [] := hps
    unfold ps at h1
    exact List.map_eq_nil_iff.1 h1
  subst hits0
  obtain ⟨ov, cv, rfl⟩ : ∃ ov cv, v' = .slice ov 0 cv := by
    rcases hown.2 with ⟨rfl, h0⟩ | ⟨g', c, cur, rfl, _⟩
    · exact ⟨none, 0, rfl⟩
    · exact ⟨_, c, rfl⟩
  have hgood0 : Wl.good [] = 0 := rfl
  have hlg' : LgD w2 g p F2 ⟨⟨[], 0, rm, [], false⟩, 0, 0, false⟩ := hlg
  have hb2 : Below w0.heap.size w0 w2 := HB1.out.trans (hf2.below (fun k hk => by have := hFK k hk; omega) HB1.out.size)
  have hF2K : ∀ k ∈ F2, K ≤ k := fun k hk => by
    rcases hs2 k hk with h1 | h1
    · exact hFK k h1
    · have := HB1.out.size; omega
  have hgK : K ≤ g := by have := HB1.out.size; omega
  have HBG := hide (begun_any w2 (HTE.out _ hb2) _ ((HEE.out _ hb2).cell 0 (by decide)) (by have := hb2.size; have := HEA.out; omega))
  have HLG2 := hide hlg'
  have HB2 := hide hb2
  have HF2K := hide hF2K
  clear hlg hlg' hps hown hits hf2 hs2 hb2 hF2K HOP hgood0
  go_wp2_with fail
  refine HBG.out.mono ?_
  rintro r' w3 ⟨rfl, b3⟩
  have HLG3 : Hid (LgD w3 g p F2 ⟨⟨[], 0, rm, [], false⟩, 0, 0, false⟩) := ⟨HLG2.out.1.below b3, (b3.block g (Array.getElem?_eq_some_iff.1 HLG2.out.2.1).1).trans HLG2.out.2.1, HLG2.out.2.2⟩
  have HB3 : Hid (Below w0.heap.size w0 w3) := HB2.out.trans (b3.mono HB2.out.size)
  clear b3 HBG HLG2
  go_wp2_with fail
  go_loopw [9, 10, 11] (fun sz ct i wr => ∃ (k n : Nat) (b : List UInt8) (F' : List Nat), k ≤ L.length ∧ i = .int .i64 k ∧ sz = .int .i64 (b.length : Int) ∧ ct = .int .i64 (n : Int) ∧ n ≤ k ∧ b.length ≤ rm ∧ LgD wr g p F' ⟨⟨b, b.length, rm, [], false⟩, n, b.length, false⟩ ∧ (∀ j ∈ F', K ≤ j) ∧ Below w0.heap.size w0 wr) (fun _ _ i _ => L.length - (intOf i).toNat)
  case atStart => exact ⟨0, 0, [], F2, Nat.zero_le _, rfl, rfl, rfl, Nat.le_refl _, Nat.zero_le _, HLG3.out, HF2K.out, HB3.out⟩
  case round =>
    obtain ⟨k, n, b, F', hk, rfl, rfl, rfl, hnk, hbr, hlg, hFk, hbw⟩ := hrel
    have x2 : wr.cell? ⟨w.heap.size, 2, none⟩ = some (.slice os L.length cs) := cell_of ((hbw.block _ hz0).trans HX0.out) 2
    by_cases hlt : k < L.length
    · obtain ⟨_, _, es, hsp⟩ := HLP.out.below hbw
      cases es
      obtain ⟨gs, oo, rfl, hgs, hsp⟩ := hsp (by omega)
      obtain ⟨u1, cu, ru⟩ := hsp k hlt
      obtain ⟨q, hqd⟩ : ∃ q, q = L[k] := ⟨_, rfl⟩
      rw [← hqd] at ru
      have hql : q.length ≤ 140737488351232 := by
        have := HQ.out q (by rw [hqd]; exact List.getElem_mem hlt)
        exact this
      obtain ⟨xo, xc, hxu⟩ := ru.len
      subst hxu
      have HRQ := hide ru
      have HLG := hide hlg
      have HFK := hide hFk
      have HBW := hide hbw
      have HEY : Hid (Er wr K e) := HE0.out.below hbw
      have HFN := hide (fine_plain b rm (by omega) (by omega))
      have HFN2 : Hid (Fine (St.append ⟨b, b.length, rm, [], false⟩ (Wl.fr q)).1) := by
        show Fine _
        rw [append_plain]
        split
        · exact ⟨⟨by show b.length ≤ (b ++ _).length; rw [List.length_append]; omega, by show rm ≤ _; omega, by show (b ++ Wl.fr q).length ≤ _; rw [List.length_append]; omega⟩, fun a ha => (by cases ha), fun a ha => (by cases ha)⟩
        · exact fine_plain b rm (by omega) (by omega)
      have hfr := Wl.fr_len q
      have k0 : (0 : Int) ≤ (k : Int) := Int.natCast_nonneg _
      have k1 : (k : Int) < (L.length : Int) := by omega
      obtain ⟨bl, hbl⟩ : ∃ bl, bl = b.length := ⟨_, rfl⟩
      clear hsp ru hlg hFk hbw hqd
      cases hf : Wl.fit q.length with
      | false =>
        have hnf : ¬ (1 ≤ q.length ∧ q.length ≤ 8192) := fun hc => by rw [(Wl.fit_iff _).2 hc] at hf; cases hf
        by_cases h0 : q.length = 0
        · obtain rfl : q = [] := List.eq_nil_of_length_eq_zero h0
          have HRZ : Hid (Rd wr (.slice xo 0 xc) []) := HRQ.out
          have HRQ := HRZ
          clear hql hfr h0 hnf
          have HPUT : Hid (Lg.put ⟨⟨b, b.length, rm, [], false⟩, n, b.length, false⟩ [] = (⟨⟨b, b.length, rm, [], false⟩, n, b.length, false⟩, 1)) := by show _ = _; rw [put_plain, if_pos hf]
          clear hf
          go_wp2_with fail
          refine (put_any wr K p g F' ⟨⟨b, b.length, rm, [], false⟩, n, b.length, false⟩ HLG.out _ [] HRQ.out (Nat.zero_le _) (HTE.out _ HBW.out) e HEY.out HFK.out HFN.out HFN2.out (by show n ≤ _; omega) (by show b.length ≤ _; omega)).mono ?_
          rintro r' w5 ⟨F5, rfl, hlg5, hf5, hs5⟩
          rw [HPUT.out] at hlg5 ⊢
          have hbw5 : Below w0.heap.size w0 w5 := HBW.out.trans (hf5.below (fun k hk => by
            rcases List.mem_cons.1 hk with h1 | h1
            · omega
            · have := HFK.out k h1; omega) HBW.out.size)
          have HB5 := hide hbw5
          have HFK5 : Hid (∀ k ∈ F5, K ≤ k) := fun k hk => by
            rcases hs5 k hk with h1 | h1
            · exact HFK.out k h1
            · have := HBW.out.size; omega
          have HLG5 := hide hlg5
          clear hbw5 hlg5 hf5 hs5
          go_wp2_with fail
          refine (look_any w5 p F5 _ HLG5.out.1 (by show b.length ≤ _; omega)).mono ?_
          rintro r' w6 ⟨va, rfl, hans, b6⟩
          obtain ⟨oa', ca', hva⟩ := hans.rd.len
          subst hva
          have HLG6 : Hid (LgD w6 g p F5 ⟨⟨b, b.length, rm, [], false⟩, n, b.length, false⟩) := ⟨HLG5.out.1.below b6, (b6.block g (Array.getElem?_eq_some_iff.1 HLG5.out.2.1).1).trans HLG5.out.2.1, HLG5.out.2.2⟩
          have HB6 : Hid (Below w0.heap.size w0 w6) := HB5.out.trans (b6.mono HB5.out.size)
          have HN6 := hide (num_err w6 e (HEE.out _ HB6.out) 1 (by omega))
          have HS6 := hide (size_any w6 g p _ _ _ HLG6.out.2.1)
          have HC6 := hide (count_any w6 g p _ _ _ HLG6.out.2.1)
          clear hans b6 HLG5 HB5
          go_wp2_with (first
            | (go_at_call 23; refine HN6.out.mono ?_; rintro r' w7 ⟨rfl, rfl⟩)
            | (go_at_call 19; refine HS6.out.mono ?_; rintro r' w7 ⟨rfl, rfl⟩)
            | (go_at_call 18; refine HC6.out.mono ?_; rintro r' w7 ⟨rfl, rfl⟩))
          go_roundw
          case rel => exact ⟨k + 1, n, b, F5, by omega, by go_num, rfl, rfl, by omega, hbr, HLG6.out, HFK5.out, HB6.out⟩
          case measure => simp [intOf]; omega
        · have z1 : ((q.length : Int) == 0) = false := by rw [beq_eq_false_iff_ne]; omega
          have z2 : decide ((8192 : Int) < (q.length : Int)) = true := by rw [decide_eq_true_eq]; omega
          have z2' : (8192 : Int) < (q.length : Int) := by omega
          have HPUT : Hid (Lg.put ⟨⟨b, b.length, rm, [], false⟩, n, b.length, false⟩ q = (⟨⟨b, b.length, rm, [], false⟩, n, b.length, false⟩, 1)) := by show _ = _; rw [put_plain, if_pos hf]
          clear hf
          go_wp2_with fail
          refine (put_any wr K p g F' ⟨⟨b, b.length, rm, [], false⟩, n, b.length, false⟩ HLG.out _ q HRQ.out (by omega) (HTE.out _ HBW.out) e HEY.out HFK.out HFN.out HFN2.out (by show n ≤ _; omega) (by show b.length ≤ _; omega)).mono ?_
          rintro r' w5 ⟨F5, rfl, hlg5, hf5, hs5⟩
          rw [HPUT.out] at hlg5 ⊢
          have hbw5 : Below w0.heap.size w0 w5 := HBW.out.trans (hf5.below (fun k hk => by
            rcases List.mem_cons.1 hk with h1 | h1
            · omega
            · have := HFK.out k h1; omega) HBW.out.size)
          have HB5 := hide hbw5
          have HFK5 : Hid (∀ k ∈ F5, K ≤ k) := fun k hk => by
            rcases hs5 k hk with h1 | h1
            · exact HFK.out k h1
            · have := HBW.out.size; omega
          have HLG5 := hide hlg5
          clear hbw5 hlg5 hf5 hs5
          go_wp2_with fail
          refine (look_any w5 p F5 _ HLG5.out.1 (by show b.length ≤ _; omega)).mono ?_
          rintro r' w6 ⟨va, rfl, hans, b6⟩
          obtain ⟨oa', ca', hva⟩ := hans.rd.len
          subst hva
          have HLG6 : Hid (LgD w6 g p F5 ⟨⟨b, b.length, rm, [], false⟩, n, b.length, false⟩) := ⟨HLG5.out.1.below b6, (b6.block g (Array.getElem?_eq_some_iff.1 HLG5.out.2.1).1).trans HLG5.out.2.1, HLG5.out.2.2⟩
          have HB6 : Hid (Below w0.heap.size w0 w6) := HB5.out.trans (b6.mono HB5.out.size)
          have HN6 := hide (num_err w6 e (HEE.out _ HB6.out) 1 (by omega))
          have HS6 := hide (size_any w6 g p _ _ _ HLG6.out.2.1)
          have HC6 := hide (count_any w6 g p _ _ _ HLG6.out.2.1)
          clear hans b6 HLG5 HB5
          go_wp2_with (first
            | (go_at_call 23; refine HN6.out.mono ?_; rintro r' w7 ⟨rfl, rfl⟩)
            | (go_at_call 19; refine HS6.out.mono ?_; rintro r' w7 ⟨rfl, rfl⟩)
            | (go_at_call 18; refine HC6.out.mono ?_; rintro r' w7 ⟨rfl, rfl⟩))
          go_roundw
          case rel => exact ⟨k + 1, n, b, F5, by omega, by go_num, rfl, rfl, by omega, hbr, HLG6.out, HFK5.out, HB6.out⟩
          case measure => simp [intOf]; omega
      | true =>
        have hfi := (Wl.fit_iff _).1 hf
        have z1 : ((q.length : Int) == 0) = false := by rw [beq_eq_false_iff_ne]; omega
        have z2 : decide ((8192 : Int) < (q.length : Int)) = false := by rw [decide_eq_false_iff_not]; omega
        have z2' : ¬ (8192 : Int) < (q.length : Int) := by omega
        by_cases hroom : b.length + 8 + q.length ≤ rm
        · have z3 : decide ((rm : Int) < (b.length : Int) + 8 + (q.length : Int)) = false := by rw [decide_eq_false_iff_not]; omega
          have z3' : ¬ (rm : Int) < (b.length : Int) + 8 + (q.length : Int) := by omega
          have HPUT : Hid (Lg.put ⟨⟨b, b.length, rm, [], false⟩, n, b.length, false⟩ q = (⟨⟨b ++ Wl.fr q, (b ++ Wl.fr q).length, rm, [], false⟩, n + 1, (b ++ Wl.fr q).length, false⟩, 0)) := by show _ = _; rw [put_plain, if_neg (by rw [hf]; decide), if_pos (by omega)]
          clear hf
          go_wp2_with fail
          refine (put_any wr K p g F' ⟨⟨b, b.length, rm, [], false⟩, n, b.length, false⟩ HLG.out _ q HRQ.out (by omega) (HTE.out _ HBW.out) e HEY.out HFK.out HFN.out HFN2.out (by show n ≤ _; omega) (by show b.length ≤ _; omega)).mono ?_
          rintro r' w5 ⟨F5, rfl, hlg5, hf5, hs5⟩
          rw [HPUT.out] at hlg5 ⊢
          have hbw5 : Below w0.heap.size w0 w5 := HBW.out.trans (hf5.below (fun k hk => by
            rcases List.mem_cons.1 hk with h1 | h1
            · omega
            · have := HFK.out k h1; omega) HBW.out.size)
          have HB5 := hide hbw5
          have HFK5 : Hid (∀ k ∈ F5, K ≤ k) := fun k hk => by
            rcases hs5 k hk with h1 | h1
            · exact HFK.out k h1
            · have := HBW.out.size; omega
          have HLG5 := hide hlg5
          clear hbw5 hlg5 hf5 hs5
          go_wp2_with fail
          refine (look_any w5 p F5 _ HLG5.out.1 (by show (b ++ Wl.fr q).length ≤ _; rw [List.length_append]; omega)).mono ?_
          rintro r' w6 ⟨va, rfl, hans, b6⟩
          obtain ⟨oa', ca', hva⟩ := hans.rd.len
          subst hva
          have HLG6 : Hid (LgD w6 g p F5 ⟨⟨b ++ Wl.fr q, (b ++ Wl.fr q).length, rm, [], false⟩, n + 1, (b ++ Wl.fr q).length, false⟩) := ⟨HLG5.out.1.below b6, (b6.block g (Array.getElem?_eq_some_iff.1 HLG5.out.2.1).1).trans HLG5.out.2.1, HLG5.out.2.2⟩
          have HB6 : Hid (Below w0.heap.size w0 w6) := HB5.out.trans (b6.mono HB5.out.size)
          have HN6 := hide (num_err w6 e (HEE.out _ HB6.out) 0 (by omega))
          have HS6 := hide (size_any w6 g p _ _ _ HLG6.out.2.1)
          have HC6 := hide (count_any w6 g p _ _ _ HLG6.out.2.1)
          clear hans b6 HLG5 HB5
          go_wp2_with (first
            | (go_at_call 23; refine HN6.out.mono ?_; rintro r' w7 ⟨rfl, rfl⟩)
            | (go_at_call 19; refine HS6.out.mono ?_; rintro r' w7 ⟨rfl, rfl⟩)
            | (go_at_call 18; refine HC6.out.mono ?_; rintro r' w7 ⟨rfl, rfl⟩))
          go_roundw
          case rel => exact ⟨k + 1, n + 1, b ++ Wl.fr q, F5, by omega, by go_num, by rw [List.length_append, hfr]; exact congrArg (Value.int .i64) (by omega), by go_num, by omega, by rw [List.length_append]; omega, HLG6.out, HFK5.out, HB6.out⟩
          case measure => simp [intOf]; omega
        · have z3 : decide ((rm : Int) < (b.length : Int) + 8 + (q.length : Int)) = true := by rw [decide_eq_true_eq]; omega
          have z3' : (rm : Int) < (b.length : Int) + 8 + (q.length : Int) := by omega
          have HPUT : Hid (Lg.put ⟨⟨b, b.length, rm, [], false⟩, n, b.length, false⟩ q = (⟨⟨b, b.length, rm, [], false⟩, n, b.length, false⟩, 9)) := by show _ = _; rw [put_plain, if_neg (by rw [hf]; decide), if_neg (by omega)]
          clear hf
          go_wp2_with fail
          refine (put_any wr K p g F' ⟨⟨b, b.length, rm, [], false⟩, n, b.length, false⟩ HLG.out _ q HRQ.out (by omega) (HTE.out _ HBW.out) e HEY.out HFK.out HFN.out HFN2.out (by show n ≤ _; omega) (by show b.length ≤ _; omega)).mono ?_
          rintro r' w5 ⟨F5, rfl, hlg5, hf5, hs5⟩
          rw [HPUT.out] at hlg5 ⊢
          have hbw5 : Below w0.heap.size w0 w5 := HBW.out.trans (hf5.below (fun k hk => by
            rcases List.mem_cons.1 hk with h1 | h1
            · omega
            · have := HFK.out k h1; omega) HBW.out.size)
          have HB5 := hide hbw5
          have HFK5 : Hid (∀ k ∈ F5, K ≤ k) := fun k hk => by
            rcases hs5 k hk with h1 | h1
            · exact HFK.out k h1
            · have := HBW.out.size; omega
          have HLG5 := hide hlg5
          clear hbw5 hlg5 hf5 hs5
          go_wp2_with fail
          refine (look_any w5 p F5 _ HLG5.out.1 (by show b.length ≤ _; omega)).mono ?_
          rintro r' w6 ⟨va, rfl, hans, b6⟩
          obtain ⟨oa', ca', hva⟩ := hans.rd.len
          subst hva
          have HLG6 : Hid (LgD w6 g p F5 ⟨⟨b, b.length, rm, [], false⟩, n, b.length, false⟩) := ⟨HLG5.out.1.below b6, (b6.block g (Array.getElem?_eq_some_iff.1 HLG5.out.2.1).1).trans HLG5.out.2.1, HLG5.out.2.2⟩
          have HB6 : Hid (Below w0.heap.size w0 w6) := HB5.out.trans (b6.mono HB5.out.size)
          have HN6 := hide (num_err w6 e (HEE.out _ HB6.out) 9 (by omega))
          have HS6 := hide (size_any w6 g p _ _ _ HLG6.out.2.1)
          have HC6 := hide (count_any w6 g p _ _ _ HLG6.out.2.1)
          clear hans b6 HLG5 HB5
          go_wp2_with (first
            | (go_at_call 23; refine HN6.out.mono ?_; rintro r' w7 ⟨rfl, rfl⟩)
            | (go_at_call 19; refine HS6.out.mono ?_; rintro r' w7 ⟨rfl, rfl⟩)
            | (go_at_call 18; refine HC6.out.mono ?_; rintro r' w7 ⟨rfl, rfl⟩))
          go_roundw
          case rel => exact ⟨k + 1, n, b, F5, by omega, by go_num, rfl, rfl, by omega, hbr, HLG6.out, HFK5.out, HB6.out⟩
          case measure => simp [intOf]; omega
    · obtain rfl : k = L.length := by omega
      have HBW := hide (HB0.out.trans (hbw.mono HB0.out.size))
      have k1 : ¬ ((L.length : Nat) : Int) < ((L.length : Nat) : Int) := by omega
      clear hlg hbw
      go_wp2_with fail
      go_ret
      exact ⟨rfl, HBW.out⟩
end Go.Proofs.YticncaoecoehkaaDoor.wl
