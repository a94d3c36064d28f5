import Derived.Test.YticncaoecoehkaaDoorWlFirst
import Derived.Test.YticncaoecoehkaaDoorRdSame
import Derived.Test.YticncaoecoehkaaDoorWlOwn
import Derived.Deep.RegionHeld3
namespace Go.Proofs.YticncaoecoehkaaDoor.wl
open Go.ChangeShapes Go.WideShapes Go.ChangeAt Go.RowKit Go.Proofs.YticncaoecoehkaaDoor.common Go.Proofs.YticncaoecoehkaaDoor.dk

/-- a list of lists of bytes that can be read -/
def Ls (W : World) (v : Value) (ps : List (List UInt8)) : Prop := ∃ oa cap, v = .slice oa ps.length cap ∧ (0 < ps.length → ∃ g o, oa = some ⟨g, o, none⟩ ∧ g < W.heap.size ∧ ∀ i (hi : i < ps.length), ∃ u, W.cell? ⟨g, o + i, none⟩ = some u ∧ Rd W u ps[i])
theorem Ls.below {W W' : World} {v : Value} {ps : List (List UInt8)} (h : Ls W v ps) (hb : Below W.heap.size W W') : Ls W' v ps := by
  obtain ⟨oa, cap, rfl, h⟩ := h
  refine ⟨oa, cap, rfl, fun h0 => ?_⟩
  obtain ⟨g, o, rfl, hg, hc⟩ := h h0
  refine ⟨g, o, rfl, Nat.lt_of_lt_of_le hg hb.size, fun i hi => ?_⟩
  obtain ⟨u, h1, h2⟩ := hc i hi
  exact ⟨u, by rw [World.cell?_of_block (hb.block g hg)]; exact h1, h2.below hb⟩
theorem Ls.len {W : World} {v : Value} {ps : List (List UInt8)} (h : Ls W v ps) : ∃ oa cap, v = .slice oa ps.length cap := by
  obtain ⟨oa, cap, rfl, _⟩ := h
  exact ⟨oa, cap, rfl⟩
/-- a row of one's own of such lists -/
theorem ls_own {W : World} {base : Nat} {v : Value} {us : List Value} {ps : List (List UInt8)} (h : W.ownsRow base 22 1 v us.length us) (hl : us.length = ps.length) (hr : ∀ i (h1 : i < us.length) (h2 : i < ps.length), Rd W us[i] ps[i]) : Ls W v ps := by
  rcases h.2 with ⟨rfl, h0⟩ | ⟨g, cap, cur, rfl, _, hc, h1, _, h3, h4⟩
  · exact ⟨none, 0, by rw [← hl, h0], fun hp => absurd hp (by omega)⟩
  · refine ⟨_, cap, by rw [hl], fun _ => ⟨g, 0, rfl, (Array.getElem?_eq_some_iff.1 hc).1, fun i hi => ⟨us[i]'(by omega), ?_, hr i (by omega) hi⟩⟩⟩
    have e : (cur.toList.take (us.length * 1))[i]? = us[i]? := by rw [h4]
    rw [List.getElem?_take_of_lt (by omega)] at e
    simp only [World.cell?, hc]
    rw [List.getElem?_eq_getElem (l := us) (by omega)] at e
    simpa using e

set_option maxRecDepth 100000 in
set_option maxHeartbeats 1600000 in
theorem same_any (w : World) (va vb : Value) (ps : List (List UInt8)) (ha : Ls w va ps) (hb : Ls w vb ps) (hl : ps.length ≤ 4611686018427387904) (hq : ∀ q ∈ ps, q.length ≤ 4611686018427387904) :
    Calls Tryd.prog 16 #[va, vb] w fun r' w' => r' = .returned (.bool true) ∧ Below w.heap.size w w' := by
  obtain ⟨oa, ca, rfl⟩ := ha.len
  obtain ⟨ob, cb, rfl⟩ := hb.len
  have HA := hide ha
  have HB := hide hb
  have HQ := hide hq
  clear ha hb hq
  go_enter Tryd.func16, Tryd.ntmps16
  go_wp2
  go_loopw [5] (fun i wr => ∃ k : Nat, k ≤ ps.length ∧ i = .int .i64 k ∧ Below w.heap.size w wr) (fun i _ => ps.length - (intOf i).toNat)
  case atStart => exact ⟨0, Nat.zero_le _, rfl, Below.refl _ _⟩
  case round =>
    obtain ⟨k, hk, rfl, hnx⟩ := hrel
    by_cases hlt : k < ps.length
    · obtain ⟨_, _, e, h1⟩ := HA.out.below hnx
      cases e
      obtain ⟨_, _, e, h2⟩ := HB.out.below hnx
      cases e
      obtain ⟨g1, o1, rfl, hg1, h1⟩ := h1 (by omega)
      obtain ⟨g2, o2, rfl, hg2, h2⟩ := h2 (by omega)
      obtain ⟨u1, c1, r1⟩ := h1 k hlt
      obtain ⟨u2, c2, r2⟩ := h2 k hlt
      have hql := HQ.out ps[k] (List.getElem_mem hlt)
      have k0 : (0 : Int) ≤ (k : Int) := Int.natCast_nonneg _
      have k1 : (k : Int) < (ps.length : Int) := by omega
      have HSB : Hid (∀ Y, Below wr.heap.size wr Y → Calls Tryd.prog 17 #[u1, u2] Y fun r' w' => r' = .returned (.bool true) ∧ Below Y.heap.size Y w') := fun Y hY => sameBytes_eq Y _ _ ps[k] (r1.below hY) (r2.below hY) hql
      have q1 : ∀ Y, Below wr.heap.size wr Y → Y.cell? ⟨g1, o1 + k, none⟩ = some u1 := fun Y hY => by rw [World.cell?_of_block (hY.block g1 hg1)]; exact c1
      have q2 : ∀ Y, Below wr.heap.size wr Y → Y.cell? ⟨g2, o2 + k, none⟩ = some u2 := fun Y hY => by rw [World.cell?_of_block (hY.block g2 hg2)]; exact c2
      obtain ⟨x1, y1, e1⟩ := r1.len
      obtain ⟨x2, y2, e2⟩ := r2.len
      have HX := hide hnx
      clear h1 h2 r1 r2 c1 c2 hnx hql
      generalize ps[k].length = pl at *
      subst e1 e2
      go_wp2_with fail
      go_region_held3 (fun Y => Below wr.heap.size wr Y)
        (first
          | exact Below.refl _ _
          | assumption
          | exact keepD (by assumption) (by assumption)
          | exact Below.drew (by assumption)
          | exact (Below.refl _ _).drew)
        ((go_at_call 17; with_reducible refine (HSB.out _ (by assumption)).mono ?_; rintro x w5 ⟨rfl, b5⟩))
      all_goals
        have HB5 : Hid (Below wr.heap.size wr w5) := by assumption
        clear b5 HSB q1 q2
        go_wp2
        go_roundw
        case rel => exact ⟨k + 1, by omega, by go_num, keepD HX.out HB5.out⟩
        case measure => simp [intOf]; omega
    · obtain rfl : k = ps.length := by omega
      have HX := hide hnx
      clear hnx
      go_wp2
      go_ret
      exact ⟨rfl, HX.out⟩
end Go.Proofs.YticncaoecoehkaaDoor.wl
