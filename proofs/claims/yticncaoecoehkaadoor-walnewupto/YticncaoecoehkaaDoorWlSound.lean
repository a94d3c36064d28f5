import Derived.Test.YticncaoecoehkaaDoorWlRef
import Derived.Test.YticncaoecoehkaaDoorWlFirst
namespace Go.Proofs.YticncaoecoehkaaDoor.wl
open Go.ChangeShapes Go.WideShapes Go.ChangeAt Go.RowKit Go.Proofs.YticncaoecoehkaaDoor.common Go.Proofs.YticncaoecoehkaaDoor.dk

theorem head4 (l : List UInt8) (h : 4 ≤ l.length) : ∃ a0 a1 a2 a3 t, l = [a0, a1, a2, a3] ++ t := by
  match l, h with
  | a0 :: a1 :: a2 :: a3 :: t, _ => exact ⟨a0, a1, a2, a3, t, rfl⟩

set_option maxRecDepth 100000 in
set_option maxHeartbeats 1600000 in
theorem told_any (w : World) (v : Value) (l : List UInt8) (h : Rc w v l) (hl : l.length ≤ 4611686018427387904) (i : Nat) (hi : i + 4 ≤ l.length) :
    Calls Tryd.prog 81 #[v, .int .i64 (i : Int)] w fun e w' => e = .returned (.int .i64 (Wl.val4 (l.drop i) : Int)) ∧ ∃ n, w' = w.drewN n := by
  obtain ⟨oa, cap, rfl, hcap, hr⟩ := h
  obtain ⟨g, o, rfl, hg, hr⟩ := hr (by omega)
  obtain ⟨a0, a1, a2, a3, t, hd⟩ := head4 (l.drop i) (by rw [List.length_drop]; omega)
  have cc : ∀ j (hj : j < 4), w.cell? ⟨g, o + (i + j), none⟩ = some (B ([a0, a1, a2, a3][j])) := fun j hj => hr (i + j) _ (by
    have : (l.map B)[i + j]? = ((l.drop i).map B)[j]? := by rw [List.map_drop, List.getElem?_drop]
    rw [this, hd, List.map_append, List.getElem?_append_left (by simpa using hj), List.getElem?_map, List.getElem?_eq_getElem (by simpa using hj)]; rfl)
  have c0 := cc 0 (by decide)
  have c1 := cc 1 (by decide)
  have c2 := cc 2 (by decide)
  have c3 := cc 3 (by decide)
  simp only [List.getElem_cons_zero, List.getElem_cons_succ, Nat.add_zero] at c0 c1 c2 c3
  have g0 := a0.toNat_lt
  have g1 := a1.toNat_lt
  have g2 := a2.toNat_lt
  have g3 := a3.toNat_lt
  have hv : (Wl.val4 (l.drop i) : Int) = (a0.toNat : Int) * 16777216 + (a1.toNat : Int) * 65536 + (a2.toNat : Int) * 256 + (a3.toNat : Int) := by rw [hd]; rfl
  rw [hv]
  have k0 : (0 : Int) ≤ (i : Int) := Int.natCast_nonneg _
  have k1 : (i : Int) + 3 < (l.length : Int) := by omega
  have k2 : (i : Int) + 2 < (l.length : Int) := by omega
  have k3 : (i : Int) + 1 < (l.length : Int) := by omega
  have k4 : (i : Int) < (l.length : Int) := by omega
  clear hd hv cc hr
  go_enter Tryd.func81, Tryd.ntmps81
  go_wp2_with fail
  go_quiet (fail)
  go_wp2
  go_ret
  exact ⟨rfl, _, rfl⟩

theorem num4_inj {a b : Nat} (ha : a < 4294967296) (hb : b < 4294967296) (h : Wl.num4 a = Wl.num4 b) : a = b := by
  have h1 := Wl.val4_num4 a ha []
  have h2 := Wl.val4_num4 b hb []
  rw [h] at h1
  omega
theorem val4_lt (l : List UInt8) : Wl.val4 l < 4294967296 := by
  unfold Wl.val4
  have := (l.getD 0 0).toNat_lt; have := (l.getD 1 0).toNat_lt; have := (l.getD 2 0).toNat_lt; have := (l.getD 3 0).toNat_lt
  omega
theorem first_sum (r : List UInt8) (h8 : 8 ≤ r.length) (hf : Wl.fit (Wl.val4 r) = true) (hn : Wl.val4 r ≤ r.length - 8) :
    Wl.first r = if Wl.val4 (r.drop 4) = Wl.csum ((r.drop 8).take (Wl.val4 r)) then some ((r.drop 8).take (Wl.val4 r)) else none := by
  have hpl : ((r.drop 8).take (Wl.val4 r)).length = Wl.val4 r := by rw [List.length_take, List.length_drop]; omega
  have ht : r.take 8 = Wl.num4 (Wl.val4 r) ++ Wl.num4 (Wl.val4 (r.drop 4)) := by
    rw [Wl.num4_val4 r (by omega), Wl.num4_val4 (r.drop 4) (by rw [List.length_drop]; omega)]
    have := List.take_add (l := r) (i := 4) (j := 4)
    exact this
  unfold Wl.first
  by_cases hc : Wl.val4 (r.drop 4) = Wl.csum ((r.drop 8).take (Wl.val4 r))
  · have hd : r.take 8 = Wl.hd ((r.drop 8).take (Wl.val4 r)) := by
      unfold Wl.hd
      rw [hpl, ht, hc]
    rw [if_pos hc, if_pos ⟨h8, hf, hn, hd⟩]
  · rw [if_neg hc, if_neg]
    rintro ⟨_, _, _, hd⟩
    apply hc
    unfold Wl.hd at hd
    rw [hpl, ht] at hd
    exact num4_inj (val4_lt _) (Wl.csum_lt _) (List.append_cancel_left hd)
/-- how long the sound frame at the head is -/
def sndN (r : List UInt8) : Nat := match Wl.first r with
  | none => 0
  | some p => 8 + p.length

theorem Rc.drewN {w : World} {v : Value} {l : List UInt8} (h : Rc w v l) (n : Nat) : Rc (w.drewN n) v l := h

set_option maxRecDepth 100000 in
set_option maxHeartbeats 800000 in
theorem sound_any (w : World) (v : Value) (l : List UInt8) (h : Rc w v l) (hl : l.length ≤ 4398046511104) (i : Nat) (hi : i ≤ l.length) :
    Calls Tryd.prog 71 #[v, .int .i64 (i : Int)] w fun e w' => e = .returned (.int .i64 (sndN (l.drop i) : Int)) ∧ Below w.heap.size w w' := by
  have HR := hide h
  have hrl : (l.drop i).length = l.length - i := List.length_drop
  obtain ⟨r, hr⟩ : ∃ r, r = l.drop i := ⟨_, rfl⟩
  rw [← hr] at hrl ⊢
  obtain ⟨oa, cap, rfl, hcap, hrg⟩ := h
  by_cases h8 : i + 8 ≤ l.length
  · obtain ⟨g, o, rfl, hg, _⟩ := hrg (by omega)
    have b0 : decide ((i : Int) < 0) = false := by rw [decide_eq_false_iff_not]; omega
    have b1 : decide ((l.length : Int) < (i : Int) + 8) = false := by rw [decide_eq_false_iff_not]; omega
    have b0' : ¬ (i : Int) < 0 := by omega
    have b1' : ¬ (l.length : Int) < (i : Int) + 8 := by omega
    obtain ⟨n, hn⟩ : ∃ n, n = Wl.val4 r := ⟨_, rfl⟩
    have hn32 : n < 4294967296 := by rw [hn]; exact val4_lt _
    have HT := hide (told_any w _ l HR.out (by omega) i (by omega))
    rw [← hr, ← hn] at HT
    clear hrg
    go_enter Tryd.func71, Tryd.ntmps71
    go_wp2_with fail
    refine HT.out.mono ?_
    rintro r' w1 ⟨rfl, n1, rfl⟩
    cases hf : Wl.fit n with
    | false =>
      have e0 : sndN r = 0 := by
        unfold sndN Wl.first
        rw [if_neg (fun hc => by rw [← hn, hf] at hc; exact absurd hc.2.1 (by decide))]
      have hnf : ¬ (1 ≤ n ∧ n ≤ 8192) := fun hc => by rw [(Wl.fit_iff n).2 hc] at hf; cases hf
      by_cases h1 : n < 1
      · have q1 : decide ((n : Int) < 1) = true := by rw [decide_eq_true_eq]; omega
        have q1' : (n : Int) < 1 := by omega
        have HE0 := hide e0
        clear HT e0 hr hrl hn hf hnf
        go_wp2
        go_ret
        exact ⟨by rw [HE0.out]; rfl, (Fr.refl [] w |>.drewN _).below (fun k hk => by cases hk) (Nat.le_refl _)⟩
      · have q1 : decide ((n : Int) < 1) = false := by rw [decide_eq_false_iff_not]; omega
        have q2 : decide ((8192 : Int) < (n : Int)) = true := by rw [decide_eq_true_eq]; omega
        have q3 : (8192 : Int) < (n : Int) := by omega
        have HE0 := hide e0
        clear HT e0 hr hrl hn hf hnf
        go_wp2
        go_ret
        exact ⟨by rw [HE0.out]; rfl, (Fr.refl [] w |>.drewN _).below (fun k hk => by cases hk) (Nat.le_refl _)⟩
    | true =>
      have hnf := (Wl.fit_iff n).1 hf
      have q1 : decide ((n : Int) < 1) = false := by rw [decide_eq_false_iff_not]; omega
      have q2 : decide ((8192 : Int) < (n : Int)) = false := by rw [decide_eq_false_iff_not]; omega
      have q1' : ¬ (n : Int) < 1 := by omega
      have q2' : ¬ (8192 : Int) < (n : Int) := by omega
      by_cases hn2 : i + 8 + n ≤ l.length
      · have q3 : decide ((l.length : Int) < (i : Int) + 8 + (n : Int)) = false := by rw [decide_eq_false_iff_not]; omega
        have q3' : ¬ (l.length : Int) < (i : Int) + 8 + (n : Int) := by omega
        obtain ⟨p, hp⟩ : ∃ p, p = (r.drop 8).take n := ⟨_, rfl⟩
        have hpl : p.length = n := by rw [hp, List.length_take, List.length_drop]; omega
        obtain ⟨s4, hs4⟩ : ∃ s4, s4 = Wl.val4 (r.drop 4) := ⟨_, rfl⟩
        have e0 : sndN r = if s4 = Wl.csum p then 8 + n else 0 := by
          unfold sndN
          rw [first_sum r (by omega) (by rw [← hn]; exact hf) (by rw [← hn]; omega), ← hn, ← hp, ← hs4]
          split
          · rename_i he
            split at he
            · cases he
            · rename_i hc
              rw [if_neg hc]
          · rename_i q he
            split at he
            · rename_i hc
              cases he
              rw [if_pos hc, hpl]
            · cases he
        have HS : Hid (Rd (w.drewN n1) (.slice (some ⟨g, o + (i + 8), none⟩) n (cap - (i + 8))) p) := by
          obtain ⟨oa', c', e, _, hrr⟩ := HR.out
          cases e
          obtain ⟨g', o', e, _, hrr⟩ := hrr (by omega)
          cases e
          refine ⟨_, _, by rw [hpl], fun _ => ⟨g, o + (i + 8), rfl, hg, fun j u hu => ?_⟩⟩
          have hj : j < n := by have := (List.getElem?_eq_some_iff.1 hu).1; rw [List.length_map, hpl] at this; exact this
          have := hrr (i + 8 + j) u (by
            rw [hp, hr, List.drop_drop, List.map_take, List.getElem?_take, if_pos hj, List.map_drop, List.getElem?_drop] at hu
            exact hu)
          rwa [← Nat.add_assoc] at this
        have HT4 := told_any (w.drewN n1) _ l (Rc.drewN HR.out n1) (by omega) (i + 4) (by omega)
        have hd4 : l.drop (i + 4) = r.drop 4 := by rw [hr, List.drop_drop]
        have hi4 : ((i + 4 : Nat) : Int) = (i : Int) + 4 := by omega
        rw [hd4, ← hs4, hi4] at HT4
        have HTT := hide HT4
        clear hi4
        have hsl : i + 8 + n - (i + 8) = n := by omega
        have hs432 : s4 < 4294967296 := by rw [hs4]; exact val4_lt _
        have hcs := Wl.csum_lt p
        have k8 : (i : Int) + 8 + (n : Int) ≤ (cap : Int) := by omega
        have k9 : (0 : Int) ≤ (i : Int) + 8 := by omega
        have kc : ¬ cap = i + 8 := by omega
        have HE0 := hide e0
        have HPL := hide hpl
        have HNF := hide hnf
        clear HT HT4 hd4 e0 hp hpl hs4 hr hrl hn hf hnf
        go_wp2_with fail
        refine HTT.out.mono ?_
        rintro r' w2 ⟨rfl, n2, rfl⟩
        have HS2 : Hid (Rd (w.drewN (n1 + n2)) (.slice (some ⟨g, o + (i + 8), none⟩) n (cap - (i + 8))) p) := HS.out
        have HPN : Hid (p.length ≤ 8192 ∧ 0 < p.length) := ⟨by rw [HPL.out]; exact HNF.out.2, by rw [HPL.out]; exact HNF.out.1⟩
        go_wp2_with fail
        refine (sum_any _ _ p HS2.out HPN.out.1 HPN.out.2).mono ?_
        rintro r' w3 ⟨rfl, b3⟩
        have HB3 : Hid (Below w.heap.size w w3) := ((Fr.refl [] w |>.drewN (n1 + n2)).below (fun k hk => by cases hk) (Nat.le_refl _)).trans b3
        clear b3
        by_cases hc : s4 = Wl.csum p
        · have hq : ((s4 : Int) != (Wl.csum p : Int)) = false := by rw [hc]; simp
          have HC := hide hc
          clear hc
          go_wp2
          go_ret
          refine ⟨?_, HB3.out⟩
          rw [HE0.out, if_pos HC.out]
          rfl
        · have hq : ((s4 : Int) != (Wl.csum p : Int)) = true := by rw [bne_iff_ne]; omega
          have HC := hide hc
          clear hc
          go_wp2
          go_ret
          refine ⟨?_, HB3.out⟩
          rw [HE0.out, if_neg HC.out]
          rfl
      · have q3 : decide ((l.length : Int) < (i : Int) + 8 + (n : Int)) = true := by rw [decide_eq_true_eq]; omega
        have q3' : (l.length : Int) < (i : Int) + 8 + (n : Int) := by omega
        have e0 : sndN r = 0 := by
          unfold sndN Wl.first
          rw [if_neg (fun hc => by rw [← hn] at hc; have := hc.2.2.1; omega)]
        have HE0 := hide e0
        clear HT e0 hr hrl hn hf hnf
        go_wp2
        go_ret
        exact ⟨by rw [HE0.out]; rfl, (Fr.refl [] w |>.drewN _).below (fun k hk => by cases hk) (Nat.le_refl _)⟩
  · have e0 : sndN r = 0 := by
      unfold sndN Wl.first
      rw [if_neg (fun hc => by omega)]
    have b0 : decide ((i : Int) < 0) = false := by rw [decide_eq_false_iff_not]; omega
    have b1 : decide ((l.length : Int) < (i : Int) + 8) = true := by rw [decide_eq_true_eq]; omega
    have b1' : (l.length : Int) < (i : Int) + 8 := by omega
    have HE0 := hide e0
    clear e0 hr hrl
    go_enter Tryd.func71, Tryd.ntmps71
    go_wp2
    go_ret
    exact ⟨by rw [HE0.out]; rfl, Below.refl _ _⟩
end Go.Proofs.YticncaoecoehkaaDoor.wl
