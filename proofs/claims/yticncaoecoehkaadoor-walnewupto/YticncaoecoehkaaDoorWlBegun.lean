import Derived.Test.YticncaoecoehkaaDoorWlScan
import Derived.Test.YticncaoecoehkaaDoorWlFrame
import Derived.Test.YticncaoecoehkaaDoorWlOwn
namespace Go.Proofs.YticncaoecoehkaaDoor.wl
open Go.ChangeShapes Go.WideShapes Go.ChangeAt Go.RowKit Go.Proofs.YticncaoecoehkaaDoor.common Go.Proofs.YticncaoecoehkaaDoor.dk

def F9 : List UInt8 := [0, 0, 0, 1, 229, 140, 151, 146, 97]
theorem f9_is : frL [97] = F9 := by decide +kernel
theorem f9_flat : F9 = Wl.flat [[97]] := by decide +kernel
theorem fit_97 : ∀ p ∈ [[(97 : UInt8)]], Wl.fit p.length = true := by
  intro p hp
  rw [List.mem_singleton.1 hp]
  decide
theorem f9_scan : Wl.scan F9 = [[97]] := by
  have h := Wl.scan_flat [[97]] fit_97
  rw [f9_flat]
  exact h
theorem f9_good : Wl.good F9 = 9 := by
  unfold Wl.good
  rw [f9_scan, ← f9_flat]
  rfl
theorem own_cell' {w : World} {base : Nat} {e : TypeId} {v : Value} {n : Nat} {xs : List Value} (h : w.ownsRow base e 1 v n xs) (k : Nat) (hk : k < xs.length) : ∃ g cap, v = .slice (some ⟨g, 0, none⟩) n cap ∧ g < w.heap.size ∧ w.cell? ⟨g, k, none⟩ = some xs[k] := by
  have hl := h.1
  rcases h.2 with ⟨_, h0⟩ | ⟨g, cap, cur, rfl, _, hc, h1, _, h3, h4⟩
  · omega
  · refine ⟨g, cap, rfl, (Array.getElem?_eq_some_iff.1 hc).1, ?_⟩
    have e : (cur.toList.take (n * 1))[k]? = xs[k]? := by rw [h4]
    rw [List.getElem?_take_of_lt (by omega), List.getElem?_eq_getElem (l := xs) hk] at e
    simp only [World.cell?, hc]
    simpa using e

set_option maxRecDepth 100000 in
set_option maxHeartbeats 1600000 in
theorem begun_any (w : World) (ht : crcw.Tab w) (ea : Value) (he : w.cell? ⟨1, 0, none⟩ = some ea) (hg : 1 < w.heap.size) :
    Calls Tryd.prog 8 #[] w fun e w' => e = .returned (.bool true) ∧ Below w.heap.size w w' := by
  have HTE : Hid (∀ Y, Below w.heap.size w Y → crcw.Tab Y ∧ Y.cell? ⟨1, 0, none⟩ = some ea) := fun Y hY => ⟨ht.below hY ht.lt, by rw [World.cell?_of_block (hY.block _ hg)]; exact he⟩
  clear ht he
  go_enter Tryd.func8, Tryd.ntmps8
  go_wp2_with fail
  obtain ⟨W, hW⟩ : ∃ W, W = (w.alloc (.cells (F9.map B).toArray 71)).alloc (.cells #[.int .u8 97] 5) := ⟨_, rfl⟩
  have hb0 : Below w.heap.size w W := by rw [hW]; exact ((Below.refl _ w).alloc (Nat.le_refl _) _).alloc (by simp) _
  have hs0 : (w.alloc (.cells (F9.map B).toArray 71)).heap.size = w.heap.size + 1 := Array.size_push ..
  have hg1 : W.heap[w.heap.size + 1]? = some (.cells (([97] : List UInt8).map B).toArray 5 (0, 0)) := by
    rw [hW]
    have := heap_alloc_new (w.alloc (.cells (F9.map B).toArray 71)) (.cells #[.int .u8 97] 5)
    rw [hs0] at this
    exact this
  have hg0 : W.heap[w.heap.size]? = some (.cells (F9.map B).toArray 71 (0, 0)) := by
    rw [hW]
    exact (Below.heap_alloc _ _ _ (by rw [hs0]; omega)).trans (heap_alloc_new _ _)
  have hz : W.heap.size = w.heap.size + 2 := by rw [hW]; show (Array.push _ _).size = _; rw [Array.size_push, hs0]
  have hR : Rd W (.slice (some ⟨w.heap.size + 1, 0, none⟩) 1 1) [97] := Nw.rd (l := [97]) hg1 1
  change Calls _ _ _ ((w.alloc (.cells (F9.map B).toArray 71)).alloc (.cells #[.int .u8 97] 5)) _
  rw [← hW]
  clear hW
  refine (frame_any W _ [97] hR (by decide) (HTE.out _ hb0).1 ea (HTE.out _ hb0).2).mono ?_
  rintro r w1 ⟨v1, rfl, h1, b1⟩
  rw [f9_is] at h1
  have hfe : frE ea ([97] : List UInt8).length = .nilIface := rfl
  rw [hfe]
  have H1 := hide (ow_of h1)
  have HB1 : Hid (Below w.heap.size w w1) := hb0.trans (b1.mono hb0.size)
  have HW0 : Hid (w1.heap[w.heap.size]? = some (.cells (F9.map B).toArray 71 (0, 0))) := (b1.block _ (by omega)).trans hg0
  obtain ⟨g1, cp1, rfl, _, _, _⟩ := H1.out.slot (by decide)
  have hf9 : F9.length = 9 := rfl
  rw [hf9] at H1 ⊢
  clear h1 b1 hg0 hg1 hb0 hR hfe
  go_wp2_with fail
  go_loopw [4] (fun i wr => ∃ k n : Nat, k ≤ 9 ∧ i = .int .i64 k ∧ wr = w1.drewN n) (fun i _ => 9 - (intOf i).toNat)
  case atStart => exact ⟨0, 0, by decide, rfl, rfl⟩
  case round =>
    obtain ⟨k, n, hk, rfl, rfl⟩ := hrel
    by_cases hlt : k < 9
    · have q1 : w1.cell? ⟨g1, k, none⟩ = some (B (F9[k]'(by rw [hf9]; exact hlt))) := (H1.out.cell k (by rw [hf9]; exact hlt)).1
      have q2 : w1.cell? ⟨w.heap.size, k, none⟩ = some (B (F9[k]'(by rw [hf9]; exact hlt))) := by
        rw [cell_of HW0.out k, List.getElem?_toArray, List.getElem?_map, List.getElem?_eq_getElem (by rw [hf9]; exact hlt)]
        rfl
      have k0 : (0 : Int) ≤ (k : Int) := Int.natCast_nonneg _
      have k1 : (k : Int) < 9 := by omega
      generalize F9[k]'(by rw [hf9]; exact hlt) = c at *
      go_wp2_with fail
      go_quiet (fail)
      go_wp2
      go_roundw
      case rel => exact ⟨k + 1, _, by omega, by go_num, rfl⟩
      case measure => simp [intOf]; omega
    · obtain rfl : k = 9 := by omega
      have HRC : Hid (Rc (w1.drewN n) (.slice (some ⟨g1, 0, none⟩) 9 cp1) F9) := rc_own H1.out.1
      have HBn : Hid (Below w.heap.size w (w1.drewN n)) := HB1.out.trans ((Fr.refl [] w1 |>.drewN n).below (fun k hk => by cases hk) HB1.out.size)
      go_wp2_with fail
      refine (scan_any (w1.drewN n) _ F9 HRC.out (by rw [hf9]; decide) (HTE.out _ HBn.out).1).mono ?_
      rintro r w2 ⟨vl, its, rfl, hps, hown, hits, b2⟩
      rw [f9_scan] at hps
      rw [f9_good]
      have hln : its.length = 1 := by have := congrArg List.length hps; simpa [ps] using this
      obtain ⟨x, rfl⟩ := List.length_eq_one_iff.1 hln
      clear hln
      have hxp : x.p = [97] := by simpa [ps] using hps
      obtain ⟨gl, cl, rfl, hgl, hcl⟩ := own_cell' hown 0 (by simp)
      have hcl' : w2.cell? ⟨gl, 0, none⟩ = some (.slice (some ⟨x.g, 0, none⟩) 1 1) := by
        rw [hcl]
        simp only [List.map_cons, List.map_nil, List.getElem_cons_zero, It.v]
        rw [hxp]; rfl
      have hnw : w2.heap[x.g]? = some (.cells #[B 97] 5 (0, 0)) := by
        have h1 : w2.heap[x.g]? = some (.cells (x.p.map B).toArray 5 (0, 0)) := (hits.1 x (by simp)).1
        rw [hxp] at h1
        exact h1
      have hc0 : w2.cell? ⟨x.g, 0, none⟩ = some (.int .u8 97) := cell_of hnw 0
      have HB2 : Hid (Below w.heap.size w w2) := HBn.out.trans (b2.mono HBn.out.size)
      have hl1 : ([x] : List It).length = 1 := rfl
      rw [hl1]
      clear hcl hnw hits hown hps b2 hxp HRC HBn H1 HW0
      go_wp2
      go_ret
      exact ⟨rfl, HB2.out⟩
end Go.Proofs.YticncaoecoehkaaDoor.wl
