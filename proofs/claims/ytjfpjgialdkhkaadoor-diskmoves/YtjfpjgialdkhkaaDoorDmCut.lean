import Derived.Test.YtjfpjgialdkhkaaDoorDmWent
import Derived.Deep.RegionHeld3
namespace Go.Proofs.YtjfpjgialdkhkaaDoor.dk
open Go.ChangeShapes Go.WideShapes Go.ChangeAt Go.RowKit Go.Proofs.YtjfpjgialdkhkaaDoor.common

set_option maxRecDepth 100000 in
set_option maxHeartbeats 3200000 in
theorem went_cut (w : World) (y : St) (hyr : y.r ≤ 1073741824) (hm : y.b.length ≤ 140737488355328) (hys : y.s ≤ y.b.length) (k o mm : Int) (t : ByteArray) (m : Nat) (ht : t.size ≤ 140737488355328) (hk : k = 4) (hmn : m ≤ y.b.length) (ow : Option Addr) (cw : Nat) (hw : Rd w (.slice ow y.b.length cw) y.b) (hcw : y.b.length ≤ cw) (og : Option Addr) (cg : Nat) (hg : Rd w (.slice og 0 cg) []) (on : Option Addr) (cn : Nat) (xb : List UInt8) (xs : Nat) (hxb : xb = y.b.take m) (hxs : xs = min y.s m) (hn : Rd w (.slice on xb.length cn) xb) :
    Calls Tryd.prog 35 #[spv ⟨k, o, (m : Int), mm, t⟩, .int .i64 (y.r : Int), .agg #[.slice ow y.b.length cw, .int .i64 (y.s : Int), .int .i64 0], .agg #[.slice og 0 cg, .int .i64 0, .int .i64 0], .agg #[.slice on xb.length cn, .int .i64 (xs : Int), .int .i64 0]] w fun r' w' => r' = .returned (.bool true) ∧ Below w.heap.size w w' := by
  have _ : y.r ≤ 1073741824 ∧ y.s ≤ y.b.length ∧ y.b.length ≤ cw := ⟨hyr, hys, hcw⟩
  obtain ⟨V, hV⟩ : ∃ V, V = (((w.alloc (stc ⟨k, o, (m : Int), mm, t⟩)).alloc (said ow y.b.length cw (y.s : Int) 0)).alloc (said og 0 cg 0 0)).alloc (said on xb.length cn (xs : Int) 0) := ⟨_, rfl⟩
  have h4 : Four w V (stc ⟨k, o, (m : Int), mm, t⟩) (said ow y.b.length cw (y.s : Int) 0) (said og 0 cg 0 0) (said on xb.length cn (xs : Int) 0) := by rw [hV]; exact four_of _ _ _ _ _
  have HW : Hid (∀ Z, Below w.heap.size w Z → Rd Z (.slice ow y.b.length cw) y.b) := fun Z hZ => hw.below hZ
  have HN : Hid (∀ Z, Below w.heap.size w Z → Rd Z (.slice on xb.length cn) xb) := fun Z hZ => hn.below hZ
  have HG : Hid (∀ Z, Below w.heap.size w Z → Rd Z (.slice og 0 cg) []) := fun Z hZ => hg.below hZ
  have hz4 : w.heap.size + 1 + 1 + 1 < V.heap.size := (Array.getElem?_eq_some_iff.1 h4.b3).1
  have H4 := hide h4
  have HV := hide hV
  have HL := hide h4.low
  have HQ : Hid (∀ Z, Below V.heap.size V Z → Z.heap[w.heap.size]? = some (stc ⟨k, o, (m : Int), mm, t⟩) ∧ Z.heap[w.heap.size + 1]? = some (said ow y.b.length cw (y.s : Int) 0) ∧ Z.heap[w.heap.size + 1 + 1]? = some (said og 0 cg 0 0) ∧ Z.heap[w.heap.size + 1 + 1 + 1]? = some (said on xb.length cn (xs : Int) 0)) := fun Z hZ => ⟨(hZ.block _ (by omega)).trans H4.out.b0, (hZ.block _ (by omega)).trans H4.out.b1, (hZ.block _ (by omega)).trans H4.out.b2, (hZ.block _ (by omega)).trans H4.out.b3⟩
  have vq := HQ.out V (Below.refl _ _)
  have vk : V.cell? ⟨w.heap.size, 0, none⟩ = some (.int .i64 k) := cell_of vq.1 0
  have vn : V.cell? ⟨w.heap.size, 2, none⟩ = some (.int .i64 (m : Int)) := cell_of vq.1 2
  have vt : V.cell? ⟨w.heap.size, 4, none⟩ = some (.string t) := cell_of vq.1 4
  have va0 : V.cell? ⟨w.heap.size + 1, 0, none⟩ = some (.slice ow y.b.length cw) := cell_of vq.2.1 0
  have va1 : V.cell? ⟨w.heap.size + 1, 0 + 1, none⟩ = some (.int .i64 (y.s : Int)) := cell_of vq.2.1 1
  have va1' : V.cell? ⟨w.heap.size + 1, 1, none⟩ = some (.int .i64 (y.s : Int)) := cell_of vq.2.1 1
  have va2 : V.cell? ⟨w.heap.size + 1, 0 + 2, none⟩ = some (.int .i64 0) := cell_of vq.2.1 2
  have vg0 := cell_of vq.2.2.1 0
  have vg2 := cell_of vq.2.2.1 2
  have vc0 : V.cell? ⟨w.heap.size + 1 + 1 + 1, 0, none⟩ = some (.slice on xb.length cn) := cell_of vq.2.2.2 0
  have vc1 : V.cell? ⟨w.heap.size + 1 + 1 + 1, 0 + 1, none⟩ = some (.int .i64 (xs : Int)) := cell_of vq.2.2.2 1
  have vc1' : V.cell? ⟨w.heap.size + 1 + 1 + 1, 1, none⟩ = some (.int .i64 (xs : Int)) := cell_of vq.2.2.2 1
  have vc2 : V.cell? ⟨w.heap.size + 1 + 1 + 1, 0 + 2, none⟩ = some (.int .i64 0) := cell_of vq.2.2.2 2
  simp at vg0 vg2
  clear vq
  have HXB := hide hxb
  have hb1 : (y.b.length : Int) + (t.size : Int) ≤ 4611686018427387904 := by omega
  have e1 : (k == 1) = false := by rw [hk]; rfl
  have e2 : (k == 2) = false := by rw [hk]; rfl
  have e3 : (k == 3) = false := by rw [hk]; rfl
  have hnd : ¬ (m : Int) < 0 := by omega
  have hne : ¬ (y.b.length : Int) < (m : Int) := by omega
  have hnd' : decide ((m : Int) < 0) = false := decide_eq_false hnd
  have hne' : decide ((y.b.length : Int) < (m : Int)) = false := decide_eq_false hne
  have hmc : m ≤ cw := by omega
  have hmc' : (m : Int) ≤ (cw : Int) := by omega
  have HLS : Hid (∀ W, Calls Tryd.prog 58 #[.int .i64 (y.s : Int), .int .i64 (m : Int)] W fun r' w' => r' = .returned (.int .i64 (xs : Int)) ∧ w' = W) := fun W => by
    have e : (xs : Int) = if (y.s : Int) < (m : Int) then (y.s : Int) else (m : Int) := by rw [hxs]; split <;> omega
    rw [e]; exact least_int W _ _
  have hxl : xb.length = m := by rw [hxb, List.length_take]; omega
  have HSB : Hid (∀ Z, Below V.heap.size V Z → Calls Tryd.prog 11 #[.slice on xb.length cn, .slice ow m cw] Z fun r' w' => r' = .returned (.bool true) ∧ Below Z.heap.size Z w') := fun Z hZ => by
    have h5 := HN.out Z (keepD HL.out hZ)
    have h6 : Rd Z (.slice ow m cw) xb := by
      obtain ⟨oa', c', hv, hr⟩ := HW.out Z (keepD HL.out hZ)
      cases hv
      refine ⟨ow, cw, by rw [hxl], fun h0 => ?_⟩
      obtain ⟨g, o, e, hg, hr⟩ := hr (by omega)
      refine ⟨g, o, e, hg, fun j u hu => hr j u ?_⟩
      rw [hxb, List.map_take, List.getElem?_take] at hu
      split at hu
      · exact hu
      · cases hu
    exact sameBytes_eq Z _ _ xb h5 h6 (by omega)
  have z1 : ∀ X, Below V.heap.size V X → X.cell? ⟨w.heap.size + 1 + 1, 2, none⟩ = some (.int .i64 0) := fun X hX => cell_of (HQ.out X hX).2.2.1 2
  have z2 : ∀ X, Below V.heap.size V X → X.cell? ⟨w.heap.size + 1 + 1 + 1, 1, none⟩ = some (.int .i64 (xs : Int)) := fun X hX => cell_of (HQ.out X hX).2.2.2 1
  have z3 : ∀ X, Below V.heap.size V X → X.cell? ⟨w.heap.size + 1, 1, none⟩ = some (.int .i64 (y.s : Int)) := fun X hX => cell_of (HQ.out X hX).2.1 1
  have z4 : ∀ X, Below V.heap.size V X → X.cell? ⟨w.heap.size, 2, none⟩ = some (.int .i64 (m : Int)) := fun X hX => cell_of (HQ.out X hX).1 2
  have z5 : ∀ X, Below V.heap.size V X → X.cell? ⟨w.heap.size + 1 + 1 + 1, 0, none⟩ = some (.slice on xb.length cn) := fun X hX => cell_of (HQ.out X hX).2.2.2 0
  have z6 : ∀ X, Below V.heap.size V X → X.cell? ⟨w.heap.size + 1, 0, none⟩ = some (.slice ow y.b.length cw) := fun X hX => cell_of (HQ.out X hX).2.1 0
  clear hw hn hg h4 hV hxb H4 hk hxl hxs
  go_enter Tryd.func35, Tryd.ntmps35
  go_wp2_with fail
  rw [← HV.out]
  go_region_held3 (fun X => Below V.heap.size V X)
    (first
      | exact Below.refl _ _
      | assumption
      | exact keepD (by assumption) (by assumption)
      | exact Below.drew (by assumption)
      | exact (Below.refl _ _).drew)
    (first
      | (go_at_call 58; refine (HLS.out _).mono ?_; rintro r' w7 ⟨rfl, rfl⟩)
      | (go_at_call 11; refine (HSB.out _ (by first | exact Below.refl _ _ | assumption | exact (Below.refl _ _).drew | exact Below.drew (by assumption))).mono ?_; rintro r' w8 ⟨rfl, b8⟩))
  have HZ := hide (keepD HL.out (show Below V.heap.size V w8 by assumption))
  go_wp2_with fail
  go_ret
  exact ⟨by simp, HZ.out⟩

end Go.Proofs.YtjfpjgialdkhkaaDoor.dk
