import Derived.Test.YticncaoecoehkaaDoorWlRows
namespace Go.Proofs.YticncaoecoehkaaDoor.wl
open Go.ChangeShapes Go.WideShapes Go.ChangeAt Go.RowKit Go.Proofs.YticncaoecoehkaaDoor.common Go.Proofs.YticncaoecoehkaaDoor.dk

theorem take_same {α : Type} {l m : List α} {k : Nat} (h : l.take k = m.take k) (hl : k < l.length) (hm : k < m.length) (he : l[k] = m[k]) : l.take (k + 1) = m.take (k + 1) := by
  rw [List.take_succ_eq_append_getElem hl, List.take_succ_eq_append_getElem hm, h, he]
theorem take_diff {α : Type} {l m : List α} {k : Nat} (hl : k < l.length) (hm : k < m.length) (he : l[k] ≠ m[k]) : l ≠ m := fun e => by subst e; exact he rfl

set_option maxRecDepth 100000 in
set_option maxHeartbeats 1600000 in
theorem sameBytes_dec (w : World) (va vb : Value) (l m : List UInt8) (ha : Rd w va l) (hb : Rd w vb m) (hl : l.length ≤ 4611686018427387904) (_ : m.length ≤ 4611686018427387904) :
    Calls Tryd.prog 17 #[va, vb] w fun r' w' => r' = .returned (.bool (decide (l = m))) ∧ Below w.heap.size w w' := by
  obtain ⟨oa, ca, rfl⟩ := ha.len
  obtain ⟨ob, cb, rfl⟩ := hb.len
  have HA := hide ha
  have HB := hide hb
  clear ha hb
  by_cases hlen : l.length = m.length
  · rw [hlen] at HA hl ⊢
    have HLEN := hide hlen
    clear hlen
    go_enter Tryd.func17, Tryd.ntmps17
    go_wp2
    go_loopw [5] (fun i wr => ∃ k : Nat, k ≤ m.length ∧ i = .int .i64 k ∧ l.take k = m.take k ∧ ∃ n, wr = w.drewN n) (fun i _ => m.length - (intOf i).toNat)
    case atStart => exact ⟨0, Nat.zero_le _, rfl, rfl, 0, rfl⟩
    case round =>
      obtain ⟨k, hk, rfl, htk, n, rfl⟩ := hrel
      have HTK := hide htk
      clear htk
      by_cases hlt : k < m.length
      · have HL1 : Hid (k < l.length) := by show _ < _; rw [HLEN.out]; exact hlt
        have HA' : Hid (Rd w (.slice oa l.length ca) l) := by rw [HLEN.out]; exact HA.out
        obtain ⟨ga, o1, rfl, h1⟩ := HA'.out.cell (Nat.lt_of_le_of_lt (Nat.zero_le _) HL1.out)
        obtain ⟨gb, o2, rfl, h2⟩ := HB.out.cell (by omega)
        have c1 : w.cell? ⟨ga, o1 + k, none⟩ = some (B (l[k]'HL1.out)) := h1 k HL1.out
        have c2 : w.cell? ⟨gb, o2 + k, none⟩ = some (B m[k]) := h2 k hlt
        have k0 : (0 : Int) ≤ (k : Int) := Int.natCast_nonneg _
        have k1 : (k : Int) < (m.length : Int) := by omega
        clear h1 h2 HA'
        by_cases he : l[k]'HL1.out = m[k]
        · have HN := hide (take_same HTK.out HL1.out hlt he)
          rw [he] at c1
          clear he
          generalize m[k] = x at *
          go_wp2_with fail
          go_quiet (fail)
          go_wp2
          go_roundw
          case rel => exact ⟨k + 1, by omega, by go_num, HN.out, _, rfl⟩
          case measure => simp [intOf]; omega
        · have HN : Hid (decide (l = m) = false) := decide_eq_false (take_diff HL1.out hlt he)
          generalize l[k]'HL1.out = x at *
          generalize m[k] = y at *
          have q : ((x.toNat : Int) != (y.toNat : Int)) = true := by
            rw [bne_iff_ne]
            intro e
            exact he (UInt8.toNat_inj.1 (by omega))
          clear he
          go_wp2_with fail
          go_quiet (fail)
          go_wp2
          go_ret
          exact ⟨by rw [HN.out]; rfl, by first | exact bdN (bdN (Below.refl _ _) _) _ | exact bdN (Below.refl _ _) _⟩
      · obtain rfl : k = m.length := by omega
        have HN : Hid (decide (l = m) = true) := decide_eq_true (by
          have h := HTK.out
          rw [List.take_of_length_le (by rw [HLEN.out]; exact Nat.le_refl _), List.take_length] at h
          exact h)
        go_wp2
        go_ret
        exact ⟨by rw [HN.out]; rfl, bdN (Below.refl _ _) _⟩
  · have HN : Hid (decide (l = m) = false) := decide_eq_false (fun e => hlen (by rw [e]))
    have q : ((l.length : Int) != (m.length : Int)) = true := by rw [bne_iff_ne]; omega
    clear hlen
    go_enter Tryd.func17, Tryd.ntmps17
    go_wp2
    go_ret
    exact ⟨by rw [HN.out]; rfl, Below.refl _ _⟩

set_option maxRecDepth 100000 in
set_option maxHeartbeats 1600000 in
theorem same_dec (w : World) (va vb : Value) (ps qs : List (List UInt8)) (ha : Ls w va ps) (hb : Ls w vb qs) (hl : ps.length ≤ 4611686018427387904) (hl2 : qs.length ≤ 4611686018427387904) (hq : ∀ q ∈ ps, q.length ≤ 4611686018427387904) (hq2 : ∀ q ∈ qs, q.length ≤ 4611686018427387904) :
    Calls Tryd.prog 16 #[va, vb] w fun r' w' => r' = .returned (.bool (decide (ps = qs))) ∧ Below w.heap.size w w' := by
  obtain ⟨oa, ca, rfl⟩ := ha.len
  obtain ⟨ob, cb, rfl⟩ := hb.len
  have HA := hide ha
  have HB := hide hb
  have HQ := hide hq
  have HQ2 := hide hq2
  clear ha hb hq hq2
  by_cases hlen : ps.length = qs.length
  · obtain ⟨n, hn⟩ : ∃ n, n = qs.length := ⟨_, rfl⟩
    have hn2 : ps.length = n := by omega
    rw [← hn] at hl2 HB ⊢
    rw [hn2] at HA hl ⊢
    have HN1 := hide hn
    have HN2 := hide hn2
    clear hlen hn hn2
    go_enter Tryd.func16, Tryd.ntmps16
    go_wp2
    go_loopw [5] (fun i wr => ∃ k : Nat, k ≤ n ∧ i = .int .i64 k ∧ ps.take k = qs.take k ∧ Below w.heap.size w wr) (fun i _ => n - (intOf i).toNat)
    case atStart => exact ⟨0, Nat.zero_le _, rfl, rfl, Below.refl _ _⟩
    case round =>
      obtain ⟨k, hk, rfl, htk, hnx⟩ := hrel
      have HTK := hide htk
      clear htk
      by_cases hlt : k < n
      · have HP : Hid (k < ps.length) := by rw [HN2.out]; exact hlt
        have HQK : Hid (k < qs.length) := by rw [← HN1.out]; exact hlt
        have HA' : Hid (Ls w (.slice oa ps.length ca) ps) := by rw [HN2.out]; exact HA.out
        have HB' : Hid (Ls w (.slice ob qs.length cb) qs) := by rw [← HN1.out]; exact HB.out
        obtain ⟨_, _, e, h1⟩ := HA'.out.below hnx
        cases e
        obtain ⟨_, _, e, h2⟩ := HB'.out.below hnx
        cases e
        obtain ⟨g1, o1, rfl, hg1, h1⟩ := h1 (Nat.lt_of_le_of_lt (Nat.zero_le _) HP.out)
        obtain ⟨g2, o2, rfl, hg2, h2⟩ := h2 (Nat.lt_of_le_of_lt (Nat.zero_le _) HQK.out)
        obtain ⟨u1, c1, r1⟩ := h1 k HP.out
        obtain ⟨u2, c2, r2⟩ := h2 k HQK.out
        have hql := HQ.out _ (List.getElem_mem HP.out)
        have hql2 := HQ2.out _ (List.getElem_mem HQK.out)
        have k0 : (0 : Int) ≤ (k : Int) := Int.natCast_nonneg _
        have k1 : (k : Int) < (n : Int) := by omega
        obtain ⟨d, hd⟩ : ∃ d, d = decide (ps[k]'HP.out = qs[k]'HQK.out) := ⟨_, rfl⟩
        have HSB : Hid (∀ Y, Below wr.heap.size wr Y → Calls Tryd.prog 17 #[u1, u2] Y fun r' w' => r' = .returned (.bool d) ∧ Below Y.heap.size Y w') := fun Y hY => by
          rw [hd]
          exact sameBytes_dec Y _ _ _ _ (r1.below hY) (r2.below hY) hql hql2
        have q1 : ∀ Y, Below wr.heap.size wr Y → Y.cell? ⟨g1, o1 + k, none⟩ = some u1 := fun Y hY => by rw [World.cell?_of_block (hY.block g1 hg1)]; exact c1
        have q2 : ∀ Y, Below wr.heap.size wr Y → Y.cell? ⟨g2, o2 + k, none⟩ = some u2 := fun Y hY => by rw [World.cell?_of_block (hY.block g2 hg2)]; exact c2
        have HD := hide hd
        obtain ⟨x1, y1, e1⟩ := r1.len
        obtain ⟨x2, y2, e2⟩ := r2.len
        have HX := hide hnx
        clear h1 h2 r1 r2 c1 c2 hnx hql hql2 hd
        generalize (ps[k]'HP.out).length = pl at *
        generalize (qs[k]'HQK.out).length = pl2 at *
        subst e1 e2
        cases d with
        | true =>
          have HN : Hid (ps.take (k + 1) = qs.take (k + 1)) := take_same HTK.out HP.out HQK.out (of_decide_eq_true HD.out.symm)
          go_wp2_with fail
          go_region_held3 (fun Y => Below wr.heap.size wr Y)
            (first
              | exact Below.refl _ _
              | assumption
              | exact keepD (by assumption) (by assumption)
              | exact Below.drew (by assumption)
              | exact (Below.refl _ _).drew)
            ((go_at_call 17; with_reducible refine (HSB.out _ (by assumption)).mono ?_; rintro x w5 ⟨rfl, b5⟩))
          all_goals
            have HB5 : Hid (Below wr.heap.size wr w5) := by assumption
            clear b5 HSB q1 q2
            go_wp2
            go_roundw
            case rel => exact ⟨k + 1, by omega, by go_num, HN.out, keepD HX.out HB5.out⟩
            case measure => simp [intOf]; omega
        | false =>
          have HN : Hid (decide (ps = qs) = false) := decide_eq_false (take_diff HP.out HQK.out (of_decide_eq_false HD.out.symm))
          go_wp2_with fail
          go_region_held3 (fun Y => Below wr.heap.size wr Y)
            (first
              | exact Below.refl _ _
              | assumption
              | exact keepD (by assumption) (by assumption)
              | exact Below.drew (by assumption)
              | exact (Below.refl _ _).drew)
            ((go_at_call 17; with_reducible refine (HSB.out _ (by assumption)).mono ?_; rintro x w5 ⟨rfl, b5⟩))
          all_goals
            have HB5 : Hid (Below wr.heap.size wr w5) := by assumption
            clear b5 HSB q1 q2
            go_wp2
            go_ret
            exact ⟨by rw [HN.out]; rfl, keepD HX.out HB5.out⟩
      · obtain rfl : k = n := by omega
        have HN : Hid (decide (ps = qs) = true) := decide_eq_true (by
          have h := HTK.out
          rw [List.take_of_length_le (by rw [HN2.out]; exact Nat.le_refl _), List.take_of_length_le (by rw [← HN1.out]; exact Nat.le_refl _)] at h
          exact h)
        have HX := hide hnx
        clear hnx
        go_wp2
        go_ret
        exact ⟨by rw [HN.out]; rfl, HX.out⟩
  · have HN : Hid (decide (ps = qs) = false) := decide_eq_false (fun e => hlen (by rw [e]))
    have q : ((ps.length : Int) != (qs.length : Int)) = true := by rw [bne_iff_ne]; omega
    clear hlen
    go_enter Tryd.func16, Tryd.ntmps16
    go_wp2
    go_ret
    exact ⟨by rw [HN.out]; rfl, Below.refl _ _⟩
end Go.Proofs.YticncaoecoehkaaDoor.wl
