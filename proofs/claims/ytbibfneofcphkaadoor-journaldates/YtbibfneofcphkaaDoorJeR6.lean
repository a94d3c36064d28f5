import Derived.Test.YtbibfneofcphkaaDoorJeR5
import Derived.Deep.DeepCutAuto
import Derived.Test.YtbibfneofcphkaaDoorHeadQ
namespace Go.Proofs.YtbibfneofcphkaaDoor.je
open Go.ChangeShapes Go.WideShapes Go.ChangeAt Go.RowKit Go.Proofs.YtbibfneofcphkaaDoor.common Go.Proofs.YtbibfneofcphkaaDoor.Jc Go.Proofs.YtbibfneofcphkaaDoor.jc
attribute [local go_sem ↓] Go.wp_at_zero Go.wp_at_succ

theorem wrpI (x : Int) (h0 : 0 ≤ x) (h1 : x ≤ 9223372036854775807) : IntKind.i64.wrap x = x := by
  have hm : x % 18446744073709551616 = x := by omega
  unfold IntKind.wrap
  simp only [IntKind.bits, IntKind.signed, Int.reducePow, Nat.reduceSub, hm]
  rw [if_neg (by simp; omega)]
theorem q_wraps64 (q : Int) (h0 : 0 ≤ q) (h1 : q ≤ 11) : wrap64 (q + 7) = q + 7 ∧ wrap64 (q + 3) = q + 3 ∧ wrap64 (q + 10) = q + 10 := ⟨wrp _ ⟨by omega, by omega⟩, wrp _ ⟨by omega, by omega⟩, wrp _ ⟨by omega, by omega⟩⟩
theorem y_wraps64 (y : Nat) (h : y ≤ 9999) : wrap64 ((y : Int) + 50) = (y : Int) + 50 := wrp _ ⟨by omega, by omega⟩
theorem q_wraps (q : Int) (h0 : 0 ≤ q) (h1 : q ≤ 11) : IntKind.i64.wrap (q + 7) = q + 7 ∧ IntKind.i64.wrap (q + 3) = q + 3 ∧ IntKind.i64.wrap (q + 10) = q + 10 := ⟨wrpI _ (by omega) (by omega), wrpI _ (by omega) (by omega), wrpI _ (by omega) (by omega)⟩
theorem y_wraps (y : Nat) (h : y ≤ 9999) : IntKind.i64.wrap ((y : Int) + 50) = (y : Int) + 50 := wrpI _ (by omega) (by omega)
theorem l_wraps (k : Nat) (h : k ≤ 9) : wrap64 ((k : Int) + 2) = (k : Int) + 2 := wrp _ ⟨by omega, by omega⟩
theorem keepE {a w w' : World} (h : Below a.heap.size a w) (h' : Below w.heap.size w w') : Below a.heap.size a w' := keepW h h' h.size

set_option maxRecDepth 100000 in
set_option maxHeartbeats 6400000 in
theorem readDateR_any (l : List UInt8) (n : Nat) (x : Dt) (hx : Is n x) (hn : n ≤ 253402300799) (w : World) (hT : RTab w) (hG : LgT w) :
    Calls Tryd.prog 20 #[.string (tx l), .int .i64 (n : Int)] w fun e w' => ∃ r, e = .returned (ansV r) ∧ Ans l (min (x.y + 50) 9999) r ∧ Below w.heap.size w w' := by
  have hy1 := hx.year hn
  have hy0 := hx.ok.y0
  obtain ⟨L, hL⟩ : ∃ L, L = min (x.y + 50) 9999 := ⟨_, rfl⟩
  rw [← hL]
  have hL1 : 2000 ≤ L := by omega
  have hL2 : L ≤ 9999 := by omega
  have HCE : Hid (∀ (t : Int) W, -300000 ≤ t → t ≤ 300000 → Calls Tryd.prog 37 #[.int .i64 t, .int .i64 ((x.y : Int) + 50)] W fun e w' => e = .returned (.int .i64 (cent 100 (9900 + t) L)) ∧ w' = W) := fun t W h1 h2 => century_any t (x.y + 50) L h1 h2 (by omega) hL W
  clear hL
  have HNU : Hid (∀ (I : Int) W, 0 ≤ I → I ≤ 900 → Calls Tryd.prog 35 #[.string (tx l), .int .i64 I, .int .i64 2] W fun e w' => e = .returned (.int .i64 (nmS l I.toNat 2)) ∧ w' = W) := fun I W h0 h1 => by
    obtain ⟨p, rfl⟩ : ∃ p : Nat, I = (p : Int) := ⟨I.toNat, by omega⟩
    exact number_any l p 2 (by omega) (by omega) W
  have HN12 : Hid (∀ W, Calls Tryd.prog 35 #[.string (tx l), .int .i64 12, .int .i64 4] W fun e w' => e = .returned (.int .i64 (nmS l 12 4)) ∧ w' = W) := fun W => number_any l 12 4 (by omega) (by omega) W
  have HN5 : Hid (∀ W, Calls Tryd.prog 35 #[.string (tx l), .int .i64 5, .int .i64 2] W fun e w' => e = .returned (.int .i64 (nmS l 5 2)) ∧ w' = W) := fun W => number_any l 5 2 (by omega) (by omega) W
  have HMO : Hid (∀ (I : Int) W, 0 ≤ I → I ≤ 900 → Calls Tryd.prog 36 #[.string (tx l), .int .i64 I] W fun e w' => e = .returned (.int .i64 (moS l I.toNat : Int)) ∧ Below W.heap.size W w') := fun I W h0 h1 => by
    obtain ⟨p, rfl⟩ : ∃ p : Nat, I = (p : Int) := ⟨I.toNat, by omega⟩
    exact monthAt_any l p (by omega) W
  have HM8 : Hid (∀ W, Calls Tryd.prog 36 #[.string (tx l), .int .i64 8] W fun e w' => e = .returned (.int .i64 (moS l 8 : Int)) ∧ Below W.heap.size W w') := fun W => monthAt_any l 8 (by omega) W
  have HRT : Hid (∀ W, Below w.heap.size w W → RTab W) := fun W hW => hT.fr hW
  have HLG : Hid (∀ W, Below w.heap.size w W → LgT W) := fun W hW => hG.fr hW
  have HCV := hide (refCivil_ok n w hT hn)
  have HX := hide hx
  have HTI : Hid (∀ (a b c : Int) (p : Nat), p ≤ 900 → ∃ e0 e1 e2 e3 e4 e5 e6 k : Int, (∀ W, RTab W → Calls Tryd.prog 34 #[dI a b c 0 0 0 0, .string (tx l), .int .i64 (p : Int)] W (fun e w' => e = .returned (.tuple #[dI e0 e1 e2 e3 e4 e5 e6, .int .i64 k]) ∧ Below W.heap.size W w')) ∧ ((k = -1 ∧ gD a b c (nmS l p 2) (nmS l (p + 3) 2) (nmS l (p + 6) 2) = none) ∨ ∃ z, gD a b c (nmS l p 2) (nmS l (p + 3) 2) (nmS l (p + 6) 2) = some z ∧ dI e0 e1 e2 e3 e4 e5 e6 = dv z ∧ k = (z.sec : Int))) := fun a b c p hp => by
    obtain ⟨e0, e1, e2, e3, e4, e5, e6, k, h1, h2⟩ := tm_two a b c (nmS l p 2) (nmS l (p + 3) 2) (nmS l (p + 6) 2)
    refine ⟨e0, e1, e2, e3, e4, e5, e6, k, fun W hW => ?_, h2⟩
    have h3 := timed_any l p hp a b c 0 0 0 0 W hW
    rw [h1] at h3
    exact h3
  clear hx hT hG
  go_enter Tryd.func20, Tryd.ntmps20
  go_wp2_with fail
  refine HCV.out.mono ?_
  rintro e w1 ⟨z, rfl, hz, b1⟩
  obtain rfl := hz.one HX.out
  have HA := hide (heap_new w1 (.cells #[.int .i64 (z.y : Int), .int .i64 (z.m : Int), .int .i64 (z.d : Int), .int .i64 (z.h : Int), .int .i64 (z.i : Int), .int .i64 (z.s : Int), .int .i64 (z.w : Int)] 24))
  have B1 : Below w.heap.size w (w1.alloc (.cells #[.int .i64 (z.y : Int), .int .i64 (z.m : Int), .int .i64 (z.d : Int), .int .i64 (z.h : Int), .int .i64 (z.i : Int), .int .i64 (z.s : Int), .int .i64 (z.w : Int)] 24)) := b1.alloc b1.size _
  have HB1 := hide B1
  have hs1 := b1.size
  obtain ⟨A, hA⟩ : ∃ A, A = w1.heap.size := ⟨_, rfl⟩
  rw [← hA] at HA hs1
  have HAe := hide hA
  clear B1 b1 hz HCV
  unfold dv
  go_wp2_with fail
  rw [← HAe.out]
  obtain ⟨V, hV⟩ : ∃ V, V = (w1.alloc (.cells #[.int .i64 (z.y : Int), .int .i64 (z.m : Int), .int .i64 (z.d : Int), .int .i64 (z.h : Int), .int .i64 (z.i : Int), .int .i64 (z.s : Int), .int .i64 (z.w : Int)] 24)) := ⟨_, rfl⟩
  rw [← hV] at HA HB1 ⊢
  clear hA hV HAe
  refine (HN12.out V).mono ?_
  rintro e w2 ⟨rfl, e2⟩
  subst e2
  go_wp2_with fail
  refine (HM8.out w2).mono ?_
  rintro e w3 ⟨rfl, b3⟩
  have HA3 : Hid (Da w3 A z.y z.m z.d z.h z.i z.s z.w) := Da.next HA.out b3
  have HB3 := hide (keepW HB1.out b3 (Nat.le_trans hs1 (Nat.le_of_lt (Da.lt HA.out))))
  clear b3 HA HB1
  go_wp2_with fail
  refine (HN5.out w3).mono ?_
  rintro e w4 ⟨rfl, e4⟩
  subst e4
  obtain ⟨e0, e1, e2, e3, e4, e5, e6, k, h1, h2⟩ := HTI.out (nmS l 12 4) (moS l 8 : Int) (nmS l 5 2) 17 (by omega)
  have HC1 : Hid (Calls Tryd.prog 34 #[.agg #[.int .i64 (nmS l 12 4), .int .i64 (moS l 8 : Int), .int .i64 (nmS l 5 2), .int .i64 0, .int .i64 0, .int .i64 0, .int .i64 0], .string (tx l), .int .i64 17] w4 _) := h1 w4 (HRT.out _ HB3.out)
  have HG1 : Hid ((k = -1 ∧ G1 l = none) ∨ ∃ z, G1 l = some z ∧ dI e0 e1 e2 e3 e4 e5 e6 = dv z ∧ k = (z.sec : Int)) := h2
  clear h1 h2 HN12 HN5 HM8
  unfold dI at HC1
  go_wp2_with fail
  refine HC1.out.mono ?_
  rintro e w5 ⟨rfl, b5⟩
  have HAn := hide (HA3.out.next b5)
  have HBn := hide (keepW HB3.out b5 (Nat.le_trans hs1 (Nat.le_of_lt HA3.out.lt)))
  clear b5 HA3 HB3 HC1
  have HS : Hid (Rs w (w5.alloc (.cells #[.int .i64 e0, .int .i64 e1, .int .i64 e2, .int .i64 e3, .int .i64 e4, .int .i64 e5, .int .i64 e6] 24)) A w5.heap.size z e0 e1 e2 e3 e4 e5 e6) := by
    have hl := HAn.out.lt
    refine ⟨HAn.out.next ((Below.refl _ _).alloc (Nat.le_refl _) _), heap_new w5 _, by omega, hs1, HBn.out.size, HBn.out.alloc HBn.out.size _⟩
  obtain ⟨V5, hV5⟩ : ∃ V5, V5 = (w5.alloc (.cells #[.int .i64 e0, .int .i64 e1, .int .i64 e2, .int .i64 e3, .int .i64 e4, .int .i64 e5, .int .i64 e6] 24)) := ⟨_, rfl⟩
  have HV5 := hide hV5
  rw [← hV5] at HS
  clear hV5 HAn HBn
  by_cases hq : ∃ y, G1 l = some y ∧ imfL y = l
  · obtain ⟨zz, hg, hq⟩ := hq
    obtain ⟨_, hg'⟩ | ⟨zz', hg', hd, hk⟩ := HG1.out
    · rw [hg] at hg'; cases hg'
    rw [hg] at hg'
    cases hg'
    subst hk
    unfold dI dv at hd
    simp only [Value.agg.injEq, Array.mk.injEq, List.cons.injEq, Value.int.injEq, true_and, and_true] at hd
    obtain ⟨rfl, rfl, rfl, rfl, rfl, rfl, rfl⟩ := hd
    have HIM : Hid (Calls Tryd.prog 33 #[.agg #[.int .i64 (zz.y : Int), .int .i64 (zz.m : Int), .int .i64 (zz.d : Int), .int .i64 (zz.h : Int), .int .i64 (zz.i : Int), .int .i64 (zz.s : Int), .int .i64 (zz.w : Int)]] V5 _) := imf_any zz V5 (gD_some hg).1.fm
    have hge : (0 : Int) ≤ (zz.sec : Int) := by omega
    have heq := txt_eq (imfL zz) l
    obtain ⟨y0, y1, y2, y3, y4, y5, y6⟩ := HS.out.db.seven
    rw [HV5.out] at HIM y0 y1 y2 y3 y4 y5 y6
    rw [decide_eq_true hq] at heq
    have HANS : Hid (Ans l L (some zz.sec)) := ans_imf hg hq
    clear hg HG1 hq
    generalize tx (imfL zz) = TI at *
    go_wp2_with fail
    refine HIM.out.mono ?_
    rintro e w6 ⟨rfl, b6⟩
    have HB6 : Hid (Below w.heap.size w w6) := by rw [← HV5.out] at b6; exact keepW HS.out.bel b6 (Nat.le_trans HS.out.bb (Nat.le_of_lt HS.out.db.lt))
    clear b6
    go_wp2_with fail
    go_ret2
    exact ⟨some zz.sec, rfl, HANS.out, HB6.out⟩
  · have HN1 : Hid (∀ y, G1 l = some y → imfL y ≠ l) := fun y hy h => hq ⟨y, hy, h⟩
    clear hq
    obtain ⟨B, hB⟩ : ∃ B, B = w5.heap.size := ⟨_, rfl⟩
    have HBe := hide hB
    rw [← hB] at HS
    clear hB
    go_upto_region 5 with fail
    rw [← HV5.out, ← HBe.out]
    go_cut [39] (fun v wx => v = .bool false ∧ Rs w wx A B z e0 e1 e2 e3 e4 e5 e6)
    case first =>
      obtain ⟨y0, y1, y2, y3, y4, y5, y6⟩ := HS.out.db.seven
      rcases HG1.out with ⟨hk, hg⟩ | ⟨zz, hg, hd, hk⟩
      · subst hk
        clear hg HG1
        go_wp2_with fail
        go_meet
        case rel => exact ⟨rfl, HS.out⟩
      · subst hk
        unfold dI dv at hd
        simp only [Value.agg.injEq, Array.mk.injEq, List.cons.injEq, Value.int.injEq, true_and, and_true] at hd
        obtain ⟨rfl, rfl, rfl, rfl, rfl, rfl, rfl⟩ := hd
        have HIM : Hid (Calls Tryd.prog 33 #[.agg #[.int .i64 (zz.y : Int), .int .i64 (zz.m : Int), .int .i64 (zz.d : Int), .int .i64 (zz.h : Int), .int .i64 (zz.i : Int), .int .i64 (zz.s : Int), .int .i64 (zz.w : Int)]] V5 _) := imf_any zz V5 (gD_some hg).1.fm
        have hge : (0 : Int) ≤ (zz.sec : Int) := by omega
        have heq := txt_eq (imfL zz) l
        rw [decide_eq_false (HN1.out zz hg)] at heq
        clear hg HG1
        generalize tx (imfL zz) = TI at *
        go_wp2_with fail
        refine HIM.out.mono ?_
        rintro e w6 ⟨rfl, b6⟩
        have HS6 := hide (HS.out.next b6)
        clear b6
        go_wp2_with fail
        go_meet
        case rel => exact ⟨rfl, HS6.out⟩
    obtain ⟨rfl, hrs⟩ := hcut
    have HS5 := hide hrs
    clear hrs HS HG1 HV5 HBe
    generalize wc = W5 at *
    go_wp2_with fail
    go_loopw [10] (fun v wr => ∃ (i : Nat) (d0 d1 d2 d3 d4 d5 d6 : Int), v = .int .i64 (i : Int) ∧ i ≤ 7 ∧ Hid (∀ j, j < i → ∀ y, G2 l L j = some y → rfcL y ≠ l) ∧ Hid (Rs w wr A B z d0 d1 d2 d3 d4 d5 d6)) (fun v _ => 8 - (intOf v).toNat)
    case atStart => exact ⟨0, _, _, _, _, _, _, _, rfl, by omega, fun j hj => by omega, HS5⟩
    case round =>
      obtain ⟨i, d0, d1, d2, d3, d4, d5, d6, rfl, i7, HJ, HS⟩ := hrel
      by_cases hi : i < 7
      · have hii : (i : Int) < 7 := by omega
        have hlg := HLG.out wr HS.out.bel i hi
        have hsz : (tx (wdF.getD i [])).size = (wdF.getD i []).length := tx_size _
        have hp : plc i = (wdF.getD i []).length + 2 := rfl
        have hl9 := wdF_len i hi
        have Hv : Hid (Value.int .i64 (wrap64 ((i : Int) + 1)) = .int .i64 ((i + 1 : Nat) : Int)) := by show _ = _; rw [wrpN i (by omega)]; rfl
        obtain ⟨q, hq⟩ : ∃ q : Int, q = ((wdF.getD i []).length : Int) + 2 := ⟨_, rfl⟩
        have hq0 : 0 ≤ q := by omega
        have hq9 : q ≤ 11 := by omega
        have hQ : (plc i : Int) = q := by omega
        have hqp : plc i + 10 ≤ 900 := by omega
        have t7 : (q + 7).toNat = plc i + 7 := by omega
        have t3 : (q + 3).toNat = plc i + 3 := by omega
        have t0 : q.toNat = plc i := by omega
        have e10 : ((plc i + 10 : Nat) : Int) = q + 10 := by omega
        have hb7 := nmS_most l (q + 7).toNat 2 (by decide)
        obtain ⟨f0, f1, f2, f3, f4, f5, f6, kk, h1, h2⟩ := HTI.out (cent 100 (9900 + nmS l (q + 7).toNat 2) L) (moS l (q + 3).toNat : Int) (nmS l q.toNat 2) (plc i + 10) hqp
        rw [e10] at h1
        obtain ⟨nu, hnu⟩ : ∃ nu : Int → Int, nu = fun I => nmS l I.toNat 2 := ⟨_, rfl⟩
        obtain ⟨mu, hmu⟩ : ∃ mu : Int → Int, mu = fun I => (moS l I.toNat : Int) := ⟨_, rfl⟩
        obtain ⟨ce, hce⟩ : ∃ ce : Int → Int, ce = fun t => cent 100 (9900 + t) L := ⟨_, rfl⟩
        have HNU2 : Hid (∀ (I : Int) W, 0 ≤ I → I ≤ 900 → Calls Tryd.prog 35 #[.string (tx l), .int .i64 I, .int .i64 2] W fun e w' => e = .returned (.int .i64 (nu I)) ∧ w' = W) := by rw [hnu]; exact HNU.out
        have HMO2 : Hid (∀ (I : Int) W, 0 ≤ I → I ≤ 900 → Calls Tryd.prog 36 #[.string (tx l), .int .i64 I] W fun e w' => e = .returned (.int .i64 (mu I)) ∧ Below W.heap.size W w') := by rw [hmu]; exact HMO.out
        have HCE2 : Hid (∀ (t : Int) W, -300000 ≤ t → t ≤ 300000 → Calls Tryd.prog 37 #[.int .i64 t, .int .i64 ((z.y : Int) + 50)] W fun e w' => e = .returned (.int .i64 (ce t)) ∧ w' = W) := by rw [hce]; exact HCE.out
        have hb8 : -230000 ≤ nu (q + 7) ∧ nu (q + 7) ≤ 230000 := by rw [hnu]; exact hb7
        have g1 : nmS l q.toNat 2 = nu q := by rw [hnu]
        have g2 : (moS l (q + 3).toNat : Int) = mu (q + 3) := by rw [hmu]
        have g3 : cent 100 (9900 + nmS l (q + 7).toNat 2) L = ce (nu (q + 7)) := by rw [hce, hnu]
        rw [g3, g2, g1] at h1
        have HTM := hide h1
        clear hnu hmu hce g1 g2 g3 hb7
        rw [t7, t3, t0] at h2
        have HG2 : Hid ((kk = -1 ∧ G2 l L i = none) ∨ ∃ y, G2 l L i = some y ∧ dI f0 f1 f2 f3 f4 f5 f6 = dv y ∧ kk = (y.sec : Int)) := h2
        have HSW : Hid (∀ W, Below wr.heap.size wr W → RTab W) := fun W hW => HRT.out _ (HS.out.next hW).bel
        have HRN : Hid (∀ W, Below wr.heap.size wr W → Rs w (W.setCells B 0 [.int .i64 f0, .int .i64 f1, .int .i64 f2, .int .i64 f3, .int .i64 f4, .int .i64 f5, .int .i64 f6]) A B z f0 f1 f2 f3 f4 f5 f6) := fun W hW => (HS.out.next hW).put _ _ _ _ _ _ _
        obtain ⟨fc, hf, hg⟩ := rc.class_of wr
        have cy : ∀ n, (fc n).cell? ⟨A, 0, none⟩ = some (.int .i64 (z.y : Int)) := fun n => (HS.out.next (hf n)).ty.seven.1
        have HTH : Hid (∀ n, (fc n).there B 0 7) := fun n => (HS.out.next (hf n)).there
        have HRF : Hid (∀ n, Rs w ((fc n).setCells B 0 [.int .i64 f0, .int .i64 f1, .int .i64 f2, .int .i64 f3, .int .i64 f4, .int .i64 f5, .int .i64 f6]) A B z f0 f1 f2 f3 f4 f5 f6) := fun n => HRN.out _ (hf n)
        have HD : Hid (wr.drew = fc wr.drew) := (hg _ (Below.refl _ _).drew).symm
        haveI : Nonempty World := ⟨w⟩
        have K7 : Hid (∀ n, Calls Tryd.prog 35 #[.string (tx l), .int .i64 (q + 7), .int .i64 2] (fc n) fun e w' => e = .returned (.int .i64 (nu (q + 7))) ∧ ∃ m, w' = fc m) := fun n => (HNU2.out _ _ (by omega) (by omega)).mono fun _ _ hh => ⟨hh.1, n, hh.2⟩
        have K0 : Hid (∀ n, Calls Tryd.prog 35 #[.string (tx l), .int .i64 q, .int .i64 2] (fc n) fun e w' => e = .returned (.int .i64 (nu q)) ∧ ∃ m, w' = fc m) := fun n => (HNU2.out _ _ (by omega) (by omega)).mono fun _ _ hh => ⟨hh.1, n, hh.2⟩
        have K3 : Hid (∀ n, Calls Tryd.prog 36 #[.string (tx l), .int .i64 (q + 3)] (fc n) fun e w' => e = .returned (.int .i64 (mu (q + 3))) ∧ ∃ m, w' = fc m) := fun n => (HMO2.out _ _ (by omega) (by omega)).mono fun _ w1 hh => ⟨hh.1, w1, (hg _ (keepW (hf n) hh.2 (hf n).size)).symm⟩
        have KC : Hid (∀ n, Calls Tryd.prog 37 #[.int .i64 (nu (q + 7)), .int .i64 ((z.y : Int) + 50)] (fc n) fun e w' => e = .returned (.int .i64 (ce (nu (q + 7)))) ∧ ∃ m, w' = fc m) := fun n => (HCE2.out _ _ (by omega) (by omega)).mono fun _ _ hh => ⟨hh.1, n, hh.2⟩
        have KT : Hid (∀ n, Calls Tryd.prog 34 #[.agg #[.int .i64 (ce (nu (q + 7))), .int .i64 (mu (q + 3)), .int .i64 (nu q), .int .i64 0, .int .i64 0, .int .i64 0, .int .i64 0], .string (tx l), .int .i64 (q + 10)] (fc n) fun e w' => e = .returned (.tuple #[.agg #[.int .i64 f0, .int .i64 f1, .int .i64 f2, .int .i64 f3, .int .i64 f4, .int .i64 f5, .int .i64 f6], .int .i64 kk]) ∧ ∃ m, w' = fc m) := fun n => (HTM.out _ (HSW.out _ (hf n))).mono fun _ w1 hh => ⟨hh.1, w1, (hg _ (keepW (hf n) hh.2 (hf n).size)).symm⟩
        have wq := l_wraps _ hl9
        clear h1 h2 hp hQ e10 t7 t3 t0 hqp hf hg HTM HNU2 HMO2 HCE2 hb8 HSW HRN
        generalize (wdF.getD i []).length = N at *
        generalize tx (wdF.getD i []) = T at *
        subst hq
        go_upto_region 11 with fail
        go_cut [9] (fun v wx => v = .int .i64 kk ∧ Rs w wx A B z f0 f1 f2 f3 f4 f5 f6)
        case first =>
          clear HX HTI HN1 HRT HLG HG2 HJ Hv hi hii i7 hl9 hsz hlg wq
          obtain ⟨ww7, ww3, ww10⟩ := q_wraps ((N : Int) + 2) hq0 hq9
          have wwy := y_wraps z.y hy1
          obtain ⟨xw7, xw3, xw10⟩ := q_wraps64 ((N : Int) + 2) hq0 hq9
          have xwy := y_wraps64 z.y hy1
          clear hq0 hq9 hL1 hL2 hn hy0 hy1
          try simp only [List.append_eq, List.cons_append, List.nil_append]
          refine hq.wp_region_headn 21 fc (by kernel_rfl) (by kernel_rfl) (by kernel_rfl) (by kernel_rfl) (by kernel_rfl) _ HD.out ?_
          simp only [List.take_succ_cons, List.take_zero, List.drop_succ_cons, List.drop_zero]
          repeat (go_big_quiet_step (first | with_reducible exact K7.out _ | with_reducible exact K0.out _ | with_reducible exact K3.out _ | with_reducible exact KC.out _ | with_reducible exact KT.out _))
          refine wpQuiet_nil ?_
          rintro _ ⟨nq, rfl⟩
          refine wpAny_take (i := 21) (oi := { dst := some 71, op := Op.extract (.tmp 50) 0, type := _, pos := _, after := _, guard := none }) (v := .agg #[.int .i64 f0, .int .i64 f1, .int .i64 f2, .int .i64 f3, .int .i64 f4, .int .i64 f5, .int .i64 f6]) rfl (by kernel_rfl) (by kernel_rfl) (by kernel_rfl) (fun _ _ _ h => h) (Or.inl ⟨by rfl, by intro w; go_simp⟩) ?_
          refine wpAny_take (i := 22) (oi := { dst := some 72, op := Op.extract (.tmp 50) 1, type := _, pos := _, after := _, guard := none }) (v := .int .i64 kk) rfl (by kernel_rfl) (by kernel_rfl) (by kernel_rfl) (fun _ _ _ h => h) (Or.inl ⟨by rfl, by intro w; go_simp⟩) ?_
          refine wpAny_ready (rs := [23]) (by kernel_rfl) (by simp) ?_
          refine AllReady.cons (o := { dst := none, op := Op.store 24 (.tmp 8) (.tmp 71), type := _, pos := _, after := _, guard := none }) rfl (fun K hK => ?_) AllReady.nil
          rw [if_pos (by rfl)]
          refine wp_store_mid 24 (.tmp 8) (.tmp 71) rfl B 0 #[.int .i64 f0, .int .i64 f1, .int .i64 f2, .int .i64 f3, .int .i64 f4, .int .i64 f5, .int .i64 f6] rfl rfl (HTH.out nq) sizeD (one7 _ _ _ _ _ _ _) ?_
          refine hK _ _ ?_
          refine wpAny_take (i := 24) (oi := { dst := some 9, op := Op.assign (.tmp 72), type := _, pos := _, after := _, guard := none }) (v := .int .i64 kk) rfl (by kernel_rfl) (by kernel_rfl) (by kernel_rfl) (fun _ _ _ h => h) (Or.inl ⟨by rfl, by intro w; go_simp⟩) ?_
          refine wpAny_done (by kernel_rfl) ?_ _
          simp only [Act.put, List.setIfInBounds_toArray, List.set_cons_zero, List.set_cons_succ]
          go_wp2_with fail
          go_meet
          case rel => exact ⟨rfl, HRF.out nq⟩
        obtain ⟨rfl, hrs⟩ := hcut
        have HS2 := hide hrs
        obtain ⟨y0, y1, y2, y3, y4, y5, y6⟩ := hrs.db.seven
        have HLW := hide (HLG.out wc hrs.bel)
        clear hrs HS HD HTH HRF K7 K0 K3 KC KT cy hlg
        generalize wc = W2 at *
        rcases HG2.out with ⟨hk, hg⟩ | ⟨y, hg, hd, hk⟩
        · subst hk
          have HJ2 : Hid (∀ j, j < i + 1 → ∀ y, G2 l L j = some y → rfcL y ≠ l) := fun j hj y hy => by
            rcases Nat.lt_or_ge j i with h1 | h1
            · exact HJ.out j h1 y hy
            · rw [show j = i by omega, hg] at hy; cases hy
          clear hg HG2 HJ wq hq0 hq9
          go_wp2_with fail
          go_roundw
          case rel => exact ⟨i + 1, _, _, _, _, _, _, _, by first | exact Hv.out | go_num, by omega, HJ2, HS2⟩
          case measure => simp [intOf]; omega
        · subst hk
          unfold dI dv at hd
          simp only [Value.agg.injEq, Array.mk.injEq, List.cons.injEq, Value.int.injEq, true_and, and_true] at hd
          obtain ⟨rfl, rfl, rfl, rfl, rfl, rfl, rfl⟩ := hd
          have hge : (0 : Int) ≤ (y.sec : Int) := by omega
          have HRC : Hid (Calls Tryd.prog 38 #[.agg #[.int .i64 (y.y : Int), .int .i64 (y.m : Int), .int .i64 (y.d : Int), .int .i64 (y.h : Int), .int .i64 (y.i : Int), .int .i64 (y.s : Int), .int .i64 (y.w : Int)]] W2 _) := rfc850_ref y W2 HLW.out (gD_some hg).1.fm
          have heq := txt_eq (rfcL y) l
          by_cases hq2 : rfcL y = l
          · rw [decide_eq_true hq2] at heq
            have HANS : Hid (Ans l L (some y.sec)) := ans_rfc hi hg hq2 hL1 hL2
            clear hg HG2 HJ hq2 wq hq0 hq9
            generalize tx (rfcL y) = TI at *
            go_wp2_with fail
            refine HRC.out.mono ?_
            rintro e w6 ⟨rfl, b6⟩
            have HB6 := hide (keepW HS2.out.bel b6 (Nat.le_trans HS2.out.bb (Nat.le_of_lt HS2.out.db.lt)))
            clear b6
            go_wp2_with fail
            go_ret2
            exact ⟨some y.sec, rfl, HANS.out, HB6.out⟩
          · rw [decide_eq_false hq2] at heq
            have HJ2 : Hid (∀ j, j < i + 1 → ∀ y, G2 l L j = some y → rfcL y ≠ l) := fun j hj z' hz' => by
              rcases Nat.lt_or_ge j i with h1 | h1
              · exact HJ.out j h1 z' hz'
              · rw [show j = i by omega, hg] at hz'; cases hz'; exact hq2
            clear hg HG2 HJ hq2 wq hq0 hq9
            generalize tx (rfcL y) = TI at *
            go_wp2_with fail
            refine HRC.out.mono ?_
            rintro e w6 ⟨rfl, b6⟩
            have HS6 := hide (HS2.out.next b6)
            clear b6 HS2
            go_wp2_with fail
            go_roundw
            case rel => exact ⟨i + 1, _, _, _, _, _, _, _, by first | exact Hv.out | go_num, by omega, HJ2, HS6⟩
            case measure => simp [intOf]; omega
      · have hii : ¬ ((i : Int) < 7) := by omega
        have HN2 : Hid (∀ y, VD y → y.y ≤ L → L < y.y + 100 → l ≠ rfcL y) := not_rfcD hL1 hL2 (fun j hj => HJ.out j (by omega))
        clear HJ HS5 HCE HMO HNU
        generalize wr = W1 at *
        have HDY : Hid ((9 < l.length ∧ l[8]? = some 32 → dyS l = nmS l 9 1) ∧ (¬ (9 < l.length ∧ l[8]? = some 32) → dyS l = nmS l 8 2)) := ⟨fun h => if_pos h, fun h => if_neg h⟩
        have HN82 := hide (number_any l 8 2 (by decide) (by decide) W1)
        have HN91 := hide (number_any l 9 1 (by decide) (by decide) W1)
        have HN204 := hide (number_any l 20 4 (by decide) (by decide) W1)
        have HM4 := hide (monthAt_any l 4 (by decide) W1)
        have HN82 : Hid (Calls Tryd.prog 35 #[.string (tx l), .int .i64 8, .int .i64 2] W1 _) := HN82
        have HN91 : Hid (Calls Tryd.prog 35 #[.string (tx l), .int .i64 9, .int .i64 1] W1 _) := HN91
        have HN204 : Hid (Calls Tryd.prog 35 #[.string (tx l), .int .i64 20, .int .i64 4] W1 _) := HN204
        have HM4 : Hid (Calls Tryd.prog 36 #[.string (tx l), .int .i64 4] W1 _) := HM4
        obtain ⟨g0, g1, g2, g3, g4, g5, g6, kk, h1, h2⟩ := HTI.out (nmS l 20 4) (moS l 4 : Int) (dyS l) 11 (by decide)
        have HTM : Hid (∀ W, RTab W → Calls Tryd.prog 34 #[.agg #[.int .i64 (nmS l 20 4), .int .i64 (moS l 4 : Int), .int .i64 (dyS l), .int .i64 0, .int .i64 0, .int .i64 0, .int .i64 0], .string (tx l), .int .i64 11] W (fun e w' => e = .returned (.tuple #[.agg #[.int .i64 g0, .int .i64 g1, .int .i64 g2, .int .i64 g3, .int .i64 g4, .int .i64 g5, .int .i64 g6], .int .i64 kk]) ∧ Below W.heap.size W w')) := h1
        have HG3 : Hid ((kk = -1 ∧ G3 l = none) ∨ ∃ y, G3 l = some y ∧ dI g0 g1 g2 g3 g4 g5 g6 = dv y ∧ kk = (y.sec : Int)) := h2
        have hsl : (tx l).size = l.length := tx_size l
        have hbyte : ∀ hh, (tx l)[8]'hh = l.getD 8 0 := fun hh => by
          have : 8 < l.length := by rw [← hsl]; exact hh
          simp only [List.getD_eq_getElem?_getD, List.getElem?_eq_getElem this, Option.getD_some]
          rfl
        have hopt : 9 < l.length → (l[8]? = some 32 ↔ l.getD 8 0 = 32) := fun h => by
          have h8 : 8 < l.length := by omega
          simp [h8]
        have HOPT := hide hopt
        clear h1 h2 hopt HTI
        generalize hdd : dyS l = D at *
        clear hdd
        go_wp2_with fail
        refine HN82.out.mono ?_
        rintro e w2 ⟨rfl, e2⟩
        subst e2
        obtain ⟨Bd, hBd⟩ : ∃ Bd : Bool, Bd = decide (9 < l.length ∧ l[8]? = some 32) := ⟨_, rfl⟩
        have HBd := hide hBd
        clear hBd
        go_upto_region 15 with fail
        go_cut [91] (fun v wx => v = .bool Bd ∧ wx = w2)
        case first =>
          have hT : Hid ((tx l).size = l.length) := hsl
          by_cases h9 : 9 < l.length
          · have h9i : (9 : Int) < (l.length : Int) := by omega
            have h9d : decide ((9 : Int) < (l.length : Int)) = true := decide_eq_true h9i
            have h8s : 8 < (tx l).size := by omega
            have hb8 := hbyte h8s
            by_cases h32 : l.getD 8 0 = 32
            · have e1 : Bd = true := by rw [HBd.out]; exact decide_eq_true ⟨h9, (HOPT.out h9).2 h32⟩
              have H32 := hide h32
              clear HBd h9 h32
              subst e1
              generalize l.getD 8 0 = c8 at *
              go_wp2_with fail
              go_meet
              case rel => exact ⟨by rw [H32.out]; rfl, rfl⟩
            · have e1 : Bd = false := by rw [HBd.out]; exact decide_eq_false fun h => h32 ((HOPT.out h9).1 h.2)
              have h32b : (l.getD 8 0 == 32) = false := beq_false_of_ne h32
              have h32n : ¬ (l.getD 8 0).toNat = 32 := fun h => h32 (UInt8.toNat_inj.1 h)
              clear HBd h9 h32
              subst e1
              generalize l.getD 8 0 = c8 at *
              have HNE : Hid (((c8.toNat : Int) == 32) = false) := beq_false_of_ne fun h => h32n (by omega)
              clear h32b h32n
              go_wp2_with fail
              go_meet
              case rel => exact ⟨by rw [HNE.out], rfl⟩
          · have h9i : ¬ (9 : Int) < (l.length : Int) := by omega
            have h9d : decide ((9 : Int) < (l.length : Int)) = false := decide_eq_false h9i
            have e1 : Bd = false := by rw [HBd.out]; exact decide_eq_false fun h => h9 h.1
            clear HBd h9
            subst e1
            go_wp2_with fail
            go_meet
            case rel => exact ⟨rfl, rfl⟩
        obtain ⟨rfl, ew⟩ := hcut
        subst ew
        have HSD : Hid ((Bd = true → D = nmS l 9 1) ∧ (Bd = false → D = nmS l 8 2)) := ⟨fun h => HDY.out.1 (of_decide_eq_true (HBd.out.symm.trans h)), fun h => HDY.out.2 (of_decide_eq_false (HBd.out.symm.trans h))⟩
        clear HBd HDY HOPT hbyte HN82
        generalize nmS l 8 2 = d82 at *
        generalize nmS l 9 1 = d91 at *
        rename World => W2
        go_upto_if 91 with fail
        go_cut [12] (fun v wx => v = .int .i64 D ∧ wx = W2)
        case first =>
          cases Bd with
          | true =>
            have HDD := hide (HSD.out.1 rfl)
            clear HSD
            go_wp2_with fail
            refine HN91.out.mono ?_
            rintro e w3 ⟨rfl, e3⟩
            subst e3
            go_wp2_with fail
            go_meet
            case rel => exact ⟨by rw [HDD.out], rfl⟩
          | false =>
            have HDD := hide (HSD.out.2 rfl)
            clear HSD
            go_wp2_with fail
            go_meet
            case rel => exact ⟨by rw [HDD.out], rfl⟩
        obtain ⟨rfl, ew⟩ := hcut
        subst ew
        clear HSD HN91
        have HNI := hide (not_imf HN1.out)
        go_wp2_with fail
        refine HN204.out.mono ?_
        rintro e w3 ⟨rfl, e3⟩
        subst e3
        go_wp2_with fail
        refine HM4.out.mono ?_
        rintro e w4 ⟨rfl, b4⟩
        have HS4 := hide (HS.out.next b4)
        have HTC := hide (HTM.out w4 (HRT.out _ HS4.out.bel))
        clear b4 HTM HS HN204 HM4 HN1 HX HLG HRT
        go_wp2_with fail
        refine HTC.out.mono ?_
        rintro e w5 ⟨rfl, b5⟩
        have HS5 := hide (HS4.out.next b5)
        have HTH := hide HS5.out.there
        clear b5 HTC HS4
        rcases HG3.out with ⟨hk, hg⟩ | ⟨y, hg, hd, hk⟩
        · subst hk
          obtain ⟨Z, hZ⟩ : ∃ Z, Z = w5.setCells B 0 (#[.int .i64 g0, .int .i64 g1, .int .i64 g2, .int .i64 g3, .int .i64 g4, .int .i64 g5, .int .i64 g6] : Array Value).toList := ⟨_, rfl⟩
          have HZ := hide hZ
          have HSZ : Hid (Rs w Z A B z g0 g1 g2 g3 g4 g5 g6) := by rw [hZ]; exact HS5.out.put _ _ _ _ _ _ _
          have HANS : Hid (Ans l L none) := ans_none HNI.out HN2.out (fun x hx => by rw [hg] at hx; cases hx)
          clear hZ hg HG3 HS5
          go_upto_region 18 with (refine wpList_store_mid rfl 24 (.tmp 8) (.tmp 103) rfl B 0 #[.int .i64 g0, .int .i64 g1, .int .i64 g2, .int .i64 g3, .int .i64 g4, .int .i64 g5, .int .i64 g6] rfl rfl HTH.out sizeD (one7 _ _ _ _ _ _ _) ?_; rw [← HZ.out])
          clear HZ HTH
          go_wp2_with fail
          go_ret2
          exact ⟨none, rfl, HANS.out, HSZ.out.bel⟩
        · subst hk
          unfold dI dv at hd
          simp only [Value.agg.injEq, Array.mk.injEq, List.cons.injEq, Value.int.injEq, true_and, and_true] at hd
          obtain ⟨rfl, rfl, rfl, rfl, rfl, rfl, rfl⟩ := hd
          obtain ⟨Z, hZ⟩ : ∃ Z, Z = w5.setCells B 0 (#[.int .i64 (y.y : Int), .int .i64 (y.m : Int), .int .i64 (y.d : Int), .int .i64 (y.h : Int), .int .i64 (y.i : Int), .int .i64 (y.s : Int), .int .i64 (y.w : Int)] : Array Value).toList := ⟨_, rfl⟩
          have HZ := hide hZ
          have HSZ : Hid (Rs w Z A B z y.y y.m y.d y.h y.i y.s y.w) := by rw [hZ]; exact HS5.out.put _ _ _ _ _ _ _
          have hge : (0 : Int) ≤ (y.sec : Int) := by omega
          have hfm := (gD_some hg).1.fm
          have HA1 : Hid (Calls Tryd.prog 39 #[.agg #[.int .i64 (y.y : Int), .int .i64 (y.m : Int), .int .i64 (y.d : Int), .int .i64 (y.h : Int), .int .i64 (y.i : Int), .int .i64 (y.s : Int), .int .i64 (y.w : Int)], .bool true] Z _) := asctime_ref y Z true hfm
          have HA2 : Hid (∀ W, Calls Tryd.prog 39 #[.agg #[.int .i64 (y.y : Int), .int .i64 (y.m : Int), .int .i64 (y.d : Int), .int .i64 (y.h : Int), .int .i64 (y.i : Int), .int .i64 (y.s : Int), .int .i64 (y.w : Int)], .bool false] W fun e w' => e = .returned (.string (tx (ascL false y))) ∧ Below W.heap.size W w') := fun W => asctime_ref y W false hfm
          obtain ⟨y0, y1, y2, y3, y4, y5, y6⟩ := HSZ.out.db.seven
          have heq1 := txt_eq (ascL true y) l
          have heq2 := txt_eq (ascL false y) l
          clear hZ HS5 hfm
          by_cases hq1 : ascL true y = l
          · rw [decide_eq_true hq1] at heq1
            have HANS : Hid (Ans l L (some y.sec)) := ans_asc true hg hq1
            clear hg HG3 heq2 hq1 HA2
            generalize tx (ascL true y) = TI at *
            go_wp2_with (refine wpList_store_mid rfl 24 (.tmp 8) (.tmp 103) rfl B 0 #[.int .i64 (y.y : Int), .int .i64 (y.m : Int), .int .i64 (y.d : Int), .int .i64 (y.h : Int), .int .i64 (y.i : Int), .int .i64 (y.s : Int), .int .i64 (y.w : Int)] rfl rfl HTH.out sizeD (one7 _ _ _ _ _ _ _) ?_; rw [← HZ.out])
            refine HA1.out.mono ?_
            rintro e w6 ⟨rfl, b6⟩
            have HB6 := hide (HSZ.out.next b6).bel
            clear b6
            go_wp2_with fail
            go_ret2
            exact ⟨some y.sec, rfl, HANS.out, HB6.out⟩
          · rw [decide_eq_false hq1] at heq1
            by_cases hq2 : ascL false y = l
            · rw [decide_eq_true hq2] at heq2
              have HANS : Hid (Ans l L (some y.sec)) := ans_asc false hg hq2
              clear hg HG3 hq1 hq2
              generalize tx (ascL true y) = TI at *
              generalize tx (ascL false y) = TJ at *
              go_wp2_with (refine wpList_store_mid rfl 24 (.tmp 8) (.tmp 103) rfl B 0 #[.int .i64 (y.y : Int), .int .i64 (y.m : Int), .int .i64 (y.d : Int), .int .i64 (y.h : Int), .int .i64 (y.i : Int), .int .i64 (y.s : Int), .int .i64 (y.w : Int)] rfl rfl HTH.out sizeD (one7 _ _ _ _ _ _ _) ?_; rw [← HZ.out])
              refine HA1.out.mono ?_
              rintro e w6 ⟨rfl, b6⟩
              have HS6 := hide (HSZ.out.next b6)
              have HA3 := hide (HA2.out w6)
              clear b6 y0 y1 y2 y3 y4 y5 y6 HA1 HA2
              obtain ⟨y0, y1, y2, y3, y4, y5, y6⟩ := HS6.out.db.seven
              go_wp2_with fail
              refine HA3.out.mono ?_
              rintro e w7 ⟨rfl, b7⟩
              have HB7 := hide (HS6.out.next b7).bel
              clear b7
              go_wp2_with fail
              go_ret2
              exact ⟨some y.sec, rfl, HANS.out, HB7.out⟩
            · rw [decide_eq_false hq2] at heq2
              have HANS : Hid (Ans l L none) := ans_none HNI.out HN2.out (fun x hx => by rw [hg] at hx; cases hx; exact ⟨hq1, hq2⟩)
              clear hg HG3 hq1 hq2
              generalize tx (ascL true y) = TI at *
              generalize tx (ascL false y) = TJ at *
              go_wp2_with (refine wpList_store_mid rfl 24 (.tmp 8) (.tmp 103) rfl B 0 #[.int .i64 (y.y : Int), .int .i64 (y.m : Int), .int .i64 (y.d : Int), .int .i64 (y.h : Int), .int .i64 (y.i : Int), .int .i64 (y.s : Int), .int .i64 (y.w : Int)] rfl rfl HTH.out sizeD (one7 _ _ _ _ _ _ _) ?_; rw [← HZ.out])
              refine HA1.out.mono ?_
              rintro e w6 ⟨rfl, b6⟩
              have HS6 := hide (HSZ.out.next b6)
              have HA3 := hide (HA2.out w6)
              clear b6 y0 y1 y2 y3 y4 y5 y6 HA1 HA2
              obtain ⟨y0, y1, y2, y3, y4, y5, y6⟩ := HS6.out.db.seven
              go_wp2_with fail
              refine HA3.out.mono ?_
              rintro e w7 ⟨rfl, b7⟩
              have HB7 := hide (HS6.out.next b7).bel
              clear b7
              go_wp2_with fail
              go_ret2
              exact ⟨none, rfl, HANS.out, HB7.out⟩
end Go.Proofs.YtbibfneofcphkaaDoor.je
