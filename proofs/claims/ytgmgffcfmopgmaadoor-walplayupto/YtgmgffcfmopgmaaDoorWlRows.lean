import Derived.Test.YtgmgffcfmopgmaaDoorRdKit
import Derived.BigQuiet
import Derived.Test.YtgmgffcfmopgmaaDoorWlFirst
import Derived.Deep.RegionHeld3
namespace Go.Proofs.YtgmgffcfmopgmaaDoor.dk
open Go.ChangeShapes Go.WideShapes Go.ChangeAt Go.RowKit Go.Proofs.YtgmgffcfmopgmaaDoor.common
set_option maxRecDepth 100000 in
set_option maxHeartbeats 1600000 in
theorem sameBytes_eq (w : World) (va vb : Value) (l : List UInt8) (ha : Rd w va l) (hb : Rd w vb l) (hl : l.length ≤ 4611686018427387904) :
    Calls Tryd.prog 17 #[va, vb] w fun r' w' => r' = .returned (.bool true) ∧ Below w.heap.size w w' := by
  obtain ⟨oa, ca, rfl⟩ := ha.len
  obtain ⟨ob, cb, rfl⟩ := hb.len
  have HA := hide ha
  have HB := hide hb
  clear ha hb
  go_enter Tryd.func17, Tryd.ntmps17
  go_wp2
  go_loopw [5] (fun i wr => ∃ k : Nat, k ≤ l.length ∧ i = .int .i64 k ∧ ∃ n, wr = w.drewN n) (fun i _ => l.length - (intOf i).toNat)
  case atStart => exact ⟨0, Nat.zero_le _, rfl, 0, rfl⟩
  case round =>
    obtain ⟨k, hk, rfl, n, rfl⟩ := hrel
    by_cases hlt : k < l.length
    · obtain ⟨ga, o1, rfl, h1⟩ := HA.out.cell (by omega)
      obtain ⟨gb, o2, rfl, h2⟩ := HB.out.cell (by omega)
      have c1 : w.cell? ⟨ga, o1 + k, none⟩ = some (B l[k]) := h1 k hlt
      have c2 : w.cell? ⟨gb, o2 + k, none⟩ = some (B l[k]) := h2 k hlt
      have k0 : (0 : Int) ≤ (k : Int) := Int.natCast_nonneg _
      have k1 : (k : Int) < (l.length : Int) := by omega
      clear h1 h2
      generalize l[k] = x at *
      go_wp2_with fail
      go_quiet (fail)
      go_wp2
      go_roundw
      case rel => exact ⟨k + 1, by omega, by go_num, _, rfl⟩
      case measure => simp [intOf]; omega
    · obtain rfl : k = l.length := by omega
      go_wp2
      go_ret
      exact ⟨rfl, bdN (Below.refl _ _) _⟩

end Go.Proofs.YtgmgffcfmopgmaaDoor.dk

namespace Go.Proofs.YtgmgffcfmopgmaaDoor.wl
open Go.ChangeShapes Go.WideShapes Go.ChangeAt Go.RowKit Go.Proofs.YtgmgffcfmopgmaaDoor.common Go.Proofs.YtgmgffcfmopgmaaDoor.dk

/-- bytes of one's own in a block from lo up to hi -/
def Ow (w : World) (lo hi : Nat) (v : Value) (l : List UInt8) : Prop := w.ownsRow lo 5 1 v l.length (l.map B) ∧ hi ≤ w.heap.size ∧ ∀ b, v.ownBlock = some b → b < hi
theorem ow_of {w : World} {lo : Nat} {v : Value} {l : List UInt8} (h : w.ownsRow lo 5 1 v l.length (l.map B)) : Ow w lo w.heap.size v l := ⟨h, Nat.le_refl _, fun b hb => by
  rcases h.2 with ⟨rfl, _⟩ | ⟨g, cap, cur, rfl, hg, hh, _⟩
  · cases hb
  · cases hb
    exact (Array.getElem?_eq_some_iff.1 hh).1⟩
theorem Ow.fr {w w' : World} {lo hi : Nat} {v : Value} {l : List UInt8} {F : List Nat} (h : Ow w lo hi v l) (hf : Fr F w w') (hF : ∀ k ∈ F, k < lo ∨ hi ≤ k) : Ow w' lo hi v l := by
  refine ⟨⟨h.1.1, ?_⟩, Nat.le_trans h.2.1 hf.size, h.2.2⟩
  rcases h.1.2 with hh | ⟨g, cap, cur, rfl, hg, hh, hn⟩
  · exact Or.inl hh
  · have h1 := h.2.2 g rfl
    refine Or.inr ⟨g, cap, cur, rfl, hg, (hf.block g (Array.getElem?_eq_some_iff.1 hh).1 (fun hm => ?_)).trans hh, hn⟩
    have := hF g hm
    omega
theorem Ow.below {w w' : World} {lo hi : Nat} {v : Value} {l : List UInt8} (h : Ow w lo hi v l) (hb : Below w.heap.size w w') : Ow w' lo hi v l := h.fr (F := []) (Fr.of hb) (fun k hk => by cases hk)
theorem Ow.low {w w' : World} {lo hi K : Nat} {v : Value} {l : List UInt8} (h : Ow w lo hi v l) (hb : Below K w w') (hK : hi ≤ K) : Ow w' lo hi v l := by
  refine ⟨⟨h.1.1, ?_⟩, Nat.le_trans h.2.1 hb.size, h.2.2⟩
  rcases h.1.2 with hh | ⟨g, cap, cur, rfl, hg, hh, hn⟩
  · exact Or.inl hh
  · have h1 := h.2.2 g rfl
    exact Or.inr ⟨g, cap, cur, rfl, hg, (hb.block g (by omega)).trans hh, hn⟩
theorem Ow.own {w : World} {lo hi : Nat} {v : Value} {l : List UInt8} (h : Ow w lo hi v l) : ∀ k ∈ v.ownBlock.toList, lo ≤ k ∧ k < hi := fun k hk => by
  have hk' : v.ownBlock = Option.some k := by simpa using hk
  exact ⟨own_ge h.1 k hk', h.2.2 k hk'⟩
theorem Ow.rd {w : World} {lo hi : Nat} {v : Value} {l : List UInt8} (h : Ow w lo hi v l) : Rd w v l := rd_own h.1
theorem Ow.slot {w : World} {lo hi : Nat} {v : Value} {l : List UInt8} (h : Ow w lo hi v l) (hl : 0 < l.length) : ∃ g cap, v = .slice (some ⟨g, 0, none⟩) l.length cap ∧ lo ≤ g ∧ g < hi ∧ l.length ≤ cap := by
  rcases h.1.2 with ⟨_, h0⟩ | ⟨g, cap, cur, rfl, hg, _, h1, _⟩
  · omega
  · exact ⟨g, cap, rfl, hg, h.2.2 g rfl, h1⟩
/-- one byte is written -/
theorem Ow.set {w : World} {lo hi g cap : Nat} {l : List UInt8} (h : Ow w lo hi (.slice (some ⟨g, 0, none⟩) l.length cap) l) (k : Nat) (c : UInt8) : Ow (w.setCell ⟨g, k, none⟩ (B c)) lo hi (.slice (some ⟨g, 0, none⟩) (l.set k c).length cap) (l.set k c) := by
  refine ⟨⟨by simp, ?_⟩, by rw [size_set]; exact h.2.1, fun b hb => h.2.2 b hb⟩
  rcases h.1.2 with ⟨hv, _⟩ | ⟨g', cap', cur, hv, hg, hh, h1, h2, h3, h4⟩
  · cases hv
  · cases hv
    refine Or.inr ⟨g, cap, cur.setIfInBounds k (B c), by rw [List.length_set], hg, ?_, by rw [List.length_set]; exact h1, h2, by rw [Array.size_setIfInBounds]; exact h3, ?_⟩
    · simp [World.setCell, Array.getElem?_modify, hh]
    · rw [List.length_set, Array.toList_setIfInBounds, List.map_set, ← h4, List.take_set]
theorem Ow.cell {w : World} {lo hi g cap n : Nat} {l : List UInt8} (h : Ow w lo hi (.slice (some ⟨g, 0, none⟩) n cap) l) (k : Nat) (hk : k < l.length) : w.cell? ⟨g, k, none⟩ = some (B l[k]) ∧ w.frozen? ⟨g, k, none⟩ = false := by
  rcases h.1.2 with ⟨hv, _⟩ | ⟨g', cap', cur, hv, hg, hh, h1, h2, h3, h4⟩
  · cases hv
  · cases hv
    refine ⟨?_, free_of hh k⟩
    have e : (cur.toList.take (l.length * 1))[k]? = (l.map B)[k]? := by rw [h4]
    rw [List.getElem?_take_of_lt (by omega)] at e
    simp only [World.cell?, hh]
    simp [hk] at e
    simpa using e
/-- the head of bytes that can be read -/
theorem Rd.take {w : World} {oa : Option Addr} {c : Nat} {l : List UInt8} (h : Rd w (.slice oa l.length c) l) (k : Nat) (hk : k ≤ l.length) (c' : Nat) : Rd w (.slice oa k c') (l.take k) := by
  obtain ⟨oa', c2, hv, h⟩ := h
  cases hv
  refine ⟨oa, c', by rw [List.length_take, Nat.min_eq_left hk], fun hl => ?_⟩
  rw [List.length_take] at hl
  obtain ⟨g, o, e, hg, hr⟩ := h (by omega)
  refine ⟨g, o, e, hg, fun j u hu => hr j u ?_⟩
  rw [List.map_take, List.getElem?_take] at hu
  split at hu
  · exact hu
  · cases hu
theorem xor255 (x : UInt8) : bits .xor .u8 (x.toNat : Int) 255 = ((x ^^^ 255).toNat : Int) := by
  have h := u8_xor_nat x.toNat 255 x.toNat_lt (by decide)
  have e : ((255 : Nat) : Int) = 255 := rfl
  rw [e] at h
  rw [h, UInt8.toNat_xor]
  rfl
theorem add_one (x : UInt8) : ((x.toNat : Int) + 1) % 256 = ((x + 1).toNat : Int) := by
  rw [UInt8.toNat_add]
  simp
end Go.Proofs.YtgmgffcfmopgmaaDoor.wl

namespace Go.Proofs.YtgmgffcfmopgmaaDoor.wl
open Go.ChangeShapes Go.WideShapes Go.ChangeAt Go.RowKit Go.Proofs.YtgmgffcfmopgmaaDoor.common Go.Proofs.YtgmgffcfmopgmaaDoor.dk

/-- a list of lists of bytes that can be read -/
def Ls (W : World) (v : Value) (ps : List (List UInt8)) : Prop := ∃ oa cap, v = .slice oa ps.length cap ∧ (0 < ps.length → ∃ g o, oa = some ⟨g, o, none⟩ ∧ g < W.heap.size ∧ ∀ i (hi : i < ps.length), ∃ u, W.cell? ⟨g, o + i, none⟩ = some u ∧ Rd W u ps[i])
theorem Ls.below {W W' : World} {v : Value} {ps : List (List UInt8)} (h : Ls W v ps) (hb : Below W.heap.size W W') : Ls W' v ps := by
  obtain ⟨oa, cap, rfl, h⟩ := h
  refine ⟨oa, cap, rfl, fun h0 => ?_⟩
  obtain ⟨g, o, rfl, hg, hc⟩ := h h0
  refine ⟨g, o, rfl, Nat.lt_of_lt_of_le hg hb.size, fun i hi => ?_⟩
  obtain ⟨u, h1, h2⟩ := hc i hi
  exact ⟨u, by rw [World.cell?_of_block (hb.block g hg)]; exact h1, h2.below hb⟩
theorem Ls.len {W : World} {v : Value} {ps : List (List UInt8)} (h : Ls W v ps) : ∃ oa cap, v = .slice oa ps.length cap := by
  obtain ⟨oa, cap, rfl, _⟩ := h
  exact ⟨oa, cap, rfl⟩
/-- a row of one's own of such lists -/
theorem ls_own {W : World} {base : Nat} {v : Value} {us : List Value} {ps : List (List UInt8)} (h : W.ownsRow base 22 1 v us.length us) (hl : us.length = ps.length) (hr : ∀ i (h1 : i < us.length) (h2 : i < ps.length), Rd W us[i] ps[i]) : Ls W v ps := by
  rcases h.2 with ⟨rfl, h0⟩ | ⟨g, cap, cur, rfl, _, hc, h1, _, h3, h4⟩
  · exact ⟨none, 0, by rw [← hl, h0], fun hp => absurd hp (by omega)⟩
  · refine ⟨_, cap, by rw [hl], fun _ => ⟨g, 0, rfl, (Array.getElem?_eq_some_iff.1 hc).1, fun i hi => ⟨us[i]'(by omega), ?_, hr i (by omega) hi⟩⟩⟩
    have e : (cur.toList.take (us.length * 1))[i]? = us[i]? := by rw [h4]
    rw [List.getElem?_take_of_lt (by omega)] at e
    simp only [World.cell?, hc]
    rw [List.getElem?_eq_getElem (l := us) (by omega)] at e
    simpa using e

set_option maxRecDepth 100000 in
set_option maxHeartbeats 1600000 in
theorem same_any (w : World) (va vb : Value) (ps : List (List UInt8)) (ha : Ls w va ps) (hb : Ls w vb ps) (hl : ps.length ≤ 4611686018427387904) (hq : ∀ q ∈ ps, q.length ≤ 4611686018427387904) :
    Calls Tryd.prog 16 #[va, vb] w fun r' w' => r' = .returned (.bool true) ∧ Below w.heap.size w w' := by
  obtain ⟨oa, ca, rfl⟩ := ha.len
  obtain ⟨ob, cb, rfl⟩ := hb.len
  have HA := hide ha
  have HB := hide hb
  have HQ := hide hq
  clear ha hb hq
  go_enter Tryd.func16, Tryd.ntmps16
  go_wp2
  go_loopw [5] (fun i wr => ∃ k : Nat, k ≤ ps.length ∧ i = .int .i64 k ∧ Below w.heap.size w wr) (fun i _ => ps.length - (intOf i).toNat)
  case atStart => exact ⟨0, Nat.zero_le _, rfl, Below.refl _ _⟩
  case round =>
    obtain ⟨k, hk, rfl, hnx⟩ := hrel
    by_cases hlt : k < ps.length
    · obtain ⟨_, _, e, h1⟩ := HA.out.below hnx
      cases e
      obtain ⟨_, _, e, h2⟩ := HB.out.below hnx
      cases e
      obtain ⟨g1, o1, rfl, hg1, h1⟩ := h1 (by omega)
      obtain ⟨g2, o2, rfl, hg2, h2⟩ := h2 (by omega)
      obtain ⟨u1, c1, r1⟩ := h1 k hlt
      obtain ⟨u2, c2, r2⟩ := h2 k hlt
      have hql := HQ.out ps[k] (List.getElem_mem hlt)
      have k0 : (0 : Int) ≤ (k : Int) := Int.natCast_nonneg _
      have k1 : (k : Int) < (ps.length : Int) := by omega
      have HSB : Hid (∀ Y, Below wr.heap.size wr Y → Calls Tryd.prog 17 #[u1, u2] Y fun r' w' => r' = .returned (.bool true) ∧ Below Y.heap.size Y w') := fun Y hY => sameBytes_eq Y _ _ ps[k] (r1.below hY) (r2.below hY) hql
      have q1 : ∀ Y, Below wr.heap.size wr Y → Y.cell? ⟨g1, o1 + k, none⟩ = some u1 := fun Y hY => by rw [World.cell?_of_block (hY.block g1 hg1)]; exact c1
      have q2 : ∀ Y, Below wr.heap.size wr Y → Y.cell? ⟨g2, o2 + k, none⟩ = some u2 := fun Y hY => by rw [World.cell?_of_block (hY.block g2 hg2)]; exact c2
      obtain ⟨x1, y1, e1⟩ := r1.len
      obtain ⟨x2, y2, e2⟩ := r2.len
      have HX := hide hnx
      clear h1 h2 r1 r2 c1 c2 hnx hql
      generalize ps[k].length = pl at *
      subst e1 e2
      go_wp2_with fail
      go_region_held3 (fun Y => Below wr.heap.size wr Y)
        (first
          | exact Below.refl _ _
          | assumption
          | exact keepD (by assumption) (by assumption)
          | exact Below.drew (by assumption)
          | exact (Below.refl _ _).drew)
        ((go_at_call 17; with_reducible refine (HSB.out _ (by assumption)).mono ?_; rintro x w5 ⟨rfl, b5⟩))
      all_goals
        have HB5 : Hid (Below wr.heap.size wr w5) := by assumption
        clear b5 HSB q1 q2
        go_wp2
        go_roundw
        case rel => exact ⟨k + 1, by omega, by go_num, keepD HX.out HB5.out⟩
        case measure => simp [intOf]; omega
    · obtain rfl : k = ps.length := by omega
      have HX := hide hnx
      clear hnx
      go_wp2
      go_ret
      exact ⟨rfl, HX.out⟩
end Go.Proofs.YtgmgffcfmopgmaaDoor.wl
