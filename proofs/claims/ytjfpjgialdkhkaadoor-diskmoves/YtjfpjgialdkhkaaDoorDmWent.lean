import Derived.Test.YtjfpjgialdkhkaaDoorDmDied
import Derived.Deep.RegionHeld3
namespace Go.Proofs.YtjfpjgialdkhkaaDoor.dk
open Go.ChangeShapes Go.WideShapes Go.ChangeAt Go.RowKit Go.Proofs.YtjfpjgialdkhkaaDoor.common

set_option maxRecDepth 100000 in
set_option maxHeartbeats 3200000 in
theorem went_full (w : World) (y : St) (hyr : y.r ≤ 1073741824) (hm : y.b.length ≤ 140737488355328) (hys : y.s ≤ y.b.length) (s : Sp) (ht : s.t.size ≤ 140737488355328) (hk : s.k = 1) (hr : y.r < y.b.length + s.t.size) (ow : Option Addr) (cw : Nat) (hw : Rd w (.slice ow y.b.length cw) y.b) (hcw : y.b.length ≤ cw) (og : Option Addr) (cg : Nat) (hg : Rd w (.slice og 0 cg) []) (on : Option Addr) (cn : Nat) (xb : List UInt8) (xs : Nat) (hxb : xb = y.b) (hxs : xs = y.s) (hn : Rd w (.slice on xb.length cn) xb) :
    Calls Tryd.prog 35 #[spv s, .int .i64 (y.r : Int), .agg #[.slice ow y.b.length cw, .int .i64 (y.s : Int), .int .i64 0], .agg #[.slice og 0 cg, .int .i64 0, .int .i64 9], .agg #[.slice on xb.length cn, .int .i64 (xs : Int), .int .i64 0]] w fun r' w' => r' = .returned (.bool true) ∧ Below w.heap.size w w' := by
  have _ : y.r ≤ 1073741824 ∧ y.s ≤ y.b.length ∧ y.b.length ≤ cw := ⟨hyr, hys, hcw⟩
  subst hxs
  subst hxb
  obtain ⟨V, hV⟩ : ∃ V, V = (((w.alloc (stc s)).alloc (said ow y.b.length cw (y.s : Int) 0)).alloc (said og 0 cg 0 9)).alloc (said on y.b.length cn (y.s : Int) 0) := ⟨_, rfl⟩
  have h4 : Four w V (stc s) (said ow y.b.length cw (y.s : Int) 0) (said og 0 cg 0 9) (said on y.b.length cn (y.s : Int) 0) := by rw [hV]; exact four_of _ _ _ _ _
  have HW : Hid (∀ Z, Below w.heap.size w Z → Rd Z (.slice ow y.b.length cw) y.b) := fun Z hZ => hw.below hZ
  have HN : Hid (∀ Z, Below w.heap.size w Z → Rd Z (.slice on y.b.length cn) y.b) := fun Z hZ => hn.below hZ
  have HG : Hid (∀ Z, Below w.heap.size w Z → Rd Z (.slice og 0 cg) []) := fun Z hZ => hg.below hZ
  have hz4 : w.heap.size + 1 + 1 + 1 < V.heap.size := (Array.getElem?_eq_some_iff.1 h4.b3).1
  have H4 := hide h4
  have HV := hide hV
  have HL := hide h4.low
  have HQ : Hid (∀ Z, Below V.heap.size V Z → Z.heap[w.heap.size]? = some (stc s) ∧ Z.heap[w.heap.size + 1]? = some (said ow y.b.length cw (y.s : Int) 0) ∧ Z.heap[w.heap.size + 1 + 1]? = some (said og 0 cg 0 9) ∧ Z.heap[w.heap.size + 1 + 1 + 1]? = some (said on y.b.length cn (y.s : Int) 0)) := fun Z hZ => ⟨(hZ.block _ (by omega)).trans H4.out.b0, (hZ.block _ (by omega)).trans H4.out.b1, (hZ.block _ (by omega)).trans H4.out.b2, (hZ.block _ (by omega)).trans H4.out.b3⟩
  have vq := HQ.out V (Below.refl _ _)
  have vk : V.cell? ⟨w.heap.size, 0, none⟩ = some (.int .i64 s.k) := cell_of vq.1 0
  have vn : V.cell? ⟨w.heap.size, 2, none⟩ = some (.int .i64 s.n) := cell_of vq.1 2
  have vt : V.cell? ⟨w.heap.size, 4, none⟩ = some (.string s.t) := cell_of vq.1 4
  have va0 : V.cell? ⟨w.heap.size + 1, 0, none⟩ = some (.slice ow y.b.length cw) := cell_of vq.2.1 0
  have va1 : V.cell? ⟨w.heap.size + 1, 0 + 1, none⟩ = some (.int .i64 (y.s : Int)) := cell_of vq.2.1 1
  have va1' : V.cell? ⟨w.heap.size + 1, 1, none⟩ = some (.int .i64 (y.s : Int)) := cell_of vq.2.1 1
  have va2 : V.cell? ⟨w.heap.size + 1, 0 + 2, none⟩ = some (.int .i64 0) := cell_of vq.2.1 2
  have vg0 := cell_of vq.2.2.1 0
  have vg2 := cell_of vq.2.2.1 2
  have vc0 : V.cell? ⟨w.heap.size + 1 + 1 + 1, 0, none⟩ = some (.slice on y.b.length cn) := cell_of vq.2.2.2 0
  have vc1 : V.cell? ⟨w.heap.size + 1 + 1 + 1, 0 + 1, none⟩ = some (.int .i64 (y.s : Int)) := cell_of vq.2.2.2 1
  have vc1' : V.cell? ⟨w.heap.size + 1 + 1 + 1, 1, none⟩ = some (.int .i64 (y.s : Int)) := cell_of vq.2.2.2 1
  have vc2 : V.cell? ⟨w.heap.size + 1 + 1 + 1, 0 + 2, none⟩ = some (.int .i64 0) := cell_of vq.2.2.2 2
  simp at vg0 vg2
  clear vq
  have hb1 : (y.b.length : Int) + (s.t.size : Int) ≤ 4611686018427387904 := by omega
  have e1 : (s.k == 1) = true := by rw [hk]; rfl
  have hri : (y.r : Int) < (y.b.length : Int) + (s.t.size : Int) := by omega
  have hrd : decide ((y.r : Int) < (y.b.length : Int) + (s.t.size : Int)) = true := decide_eq_true hri
  have HCP := hide (copy_any V _ y.b (HW.out V HL.out) (by omega))
  clear hw hn hg h4 hV H4 hk
  go_enter Tryd.func35, Tryd.ntmps35
  go_wp2_with fail
  rw [← HV.out]
  refine HCP.out.mono ?_
  rintro r' w1 ⟨v1, rfl, o1, b1⟩
  obtain ⟨oa1, ca1, hv1, _⟩ := own_form o1
  subst hv1
  have xq := HQ.out w1 (b1)
  have xk : w1.cell? ⟨w.heap.size, 0, none⟩ = some (.int .i64 s.k) := cell_of xq.1 0
  have xn : w1.cell? ⟨w.heap.size, 2, none⟩ = some (.int .i64 s.n) := cell_of xq.1 2
  have xt : w1.cell? ⟨w.heap.size, 4, none⟩ = some (.string s.t) := cell_of xq.1 4
  have xa0 : w1.cell? ⟨w.heap.size + 1, 0, none⟩ = some (.slice ow y.b.length cw) := cell_of xq.2.1 0
  have xa1 : w1.cell? ⟨w.heap.size + 1, 0 + 1, none⟩ = some (.int .i64 (y.s : Int)) := cell_of xq.2.1 1
  have xa1' : w1.cell? ⟨w.heap.size + 1, 1, none⟩ = some (.int .i64 (y.s : Int)) := cell_of xq.2.1 1
  have xa2 : w1.cell? ⟨w.heap.size + 1, 0 + 2, none⟩ = some (.int .i64 0) := cell_of xq.2.1 2
  have xg0 := cell_of xq.2.2.1 0
  have xg2 := cell_of xq.2.2.1 2
  have xc0 : w1.cell? ⟨w.heap.size + 1 + 1 + 1, 0, none⟩ = some (.slice on y.b.length cn) := cell_of xq.2.2.2 0
  have xc1 : w1.cell? ⟨w.heap.size + 1 + 1 + 1, 0 + 1, none⟩ = some (.int .i64 (y.s : Int)) := cell_of xq.2.2.2 1
  have xc1' : w1.cell? ⟨w.heap.size + 1 + 1 + 1, 1, none⟩ = some (.int .i64 (y.s : Int)) := cell_of xq.2.2.2 1
  have xc2 : w1.cell? ⟨w.heap.size + 1 + 1 + 1, 0 + 2, none⟩ = some (.int .i64 0) := cell_of xq.2.2.2 2
  simp at xg0 xg2
  clear xq
  have HSM := hide (same_eq w1 _ _ ⟨y.b, y.s, 0⟩ (HW.out w1 (by first | exact HL.out | exact keepD HL.out (by assumption))) (HN.out w1 (by first | exact HL.out | exact keepD HL.out (by assumption))) (by show y.b.length ≤ _; omega))
  have HB1 := hide (keepD HL.out b1)
  clear o1 b1 HCP
  go_wp2_with fail
  refine HSM.out.mono ?_
  rintro r' w2 ⟨rfl, b2⟩
  have HZ := hide (keepD HB1.out b2)
  clear b2 HSM
  go_wp2
  go_ret
  exact ⟨by simp, HZ.out⟩


set_option maxRecDepth 100000 in
set_option maxHeartbeats 3200000 in
theorem went_put (w : World) (y : St) (hyr : y.r ≤ 1073741824) (hm : y.b.length ≤ 140737488355328) (hys : y.s ≤ y.b.length) (s : Sp) (ht : s.t.size ≤ 140737488355328) (hk : s.k = 1) (hr : y.b.length + s.t.size ≤ y.r) (ow : Option Addr) (cw : Nat) (hw : Rd w (.slice ow y.b.length cw) y.b) (hcw : y.b.length ≤ cw) (og : Option Addr) (cg : Nat) (hg : Rd w (.slice og 0 cg) []) (on : Option Addr) (cn : Nat) (xb : List UInt8) (xs : Nat) (hxb : xb = y.b ++ s.t.data.toList) (hxs : xs = y.s) (hn : Rd w (.slice on xb.length cn) xb) :
    Calls Tryd.prog 35 #[spv s, .int .i64 (y.r : Int), .agg #[.slice ow y.b.length cw, .int .i64 (y.s : Int), .int .i64 0], .agg #[.slice og 0 cg, .int .i64 0, .int .i64 0], .agg #[.slice on xb.length cn, .int .i64 (xs : Int), .int .i64 0]] w fun r' w' => r' = .returned (.bool true) ∧ Below w.heap.size w w' := by
  have _ : y.r ≤ 1073741824 ∧ y.s ≤ y.b.length ∧ y.b.length ≤ cw := ⟨hyr, hys, hcw⟩
  subst hxs
  obtain ⟨V, hV⟩ : ∃ V, V = (((w.alloc (stc s)).alloc (said ow y.b.length cw (y.s : Int) 0)).alloc (said og 0 cg 0 0)).alloc (said on xb.length cn (y.s : Int) 0) := ⟨_, rfl⟩
  have h4 : Four w V (stc s) (said ow y.b.length cw (y.s : Int) 0) (said og 0 cg 0 0) (said on xb.length cn (y.s : Int) 0) := by rw [hV]; exact four_of _ _ _ _ _
  have HW : Hid (∀ Z, Below w.heap.size w Z → Rd Z (.slice ow y.b.length cw) y.b) := fun Z hZ => hw.below hZ
  have HN : Hid (∀ Z, Below w.heap.size w Z → Rd Z (.slice on xb.length cn) xb) := fun Z hZ => hn.below hZ
  have HG : Hid (∀ Z, Below w.heap.size w Z → Rd Z (.slice og 0 cg) []) := fun Z hZ => hg.below hZ
  have hz4 : w.heap.size + 1 + 1 + 1 < V.heap.size := (Array.getElem?_eq_some_iff.1 h4.b3).1
  have H4 := hide h4
  have HV := hide hV
  have HL := hide h4.low
  have HQ : Hid (∀ Z, Below V.heap.size V Z → Z.heap[w.heap.size]? = some (stc s) ∧ Z.heap[w.heap.size + 1]? = some (said ow y.b.length cw (y.s : Int) 0) ∧ Z.heap[w.heap.size + 1 + 1]? = some (said og 0 cg 0 0) ∧ Z.heap[w.heap.size + 1 + 1 + 1]? = some (said on xb.length cn (y.s : Int) 0)) := fun Z hZ => ⟨(hZ.block _ (by omega)).trans H4.out.b0, (hZ.block _ (by omega)).trans H4.out.b1, (hZ.block _ (by omega)).trans H4.out.b2, (hZ.block _ (by omega)).trans H4.out.b3⟩
  have vq := HQ.out V (Below.refl _ _)
  have vk : V.cell? ⟨w.heap.size, 0, none⟩ = some (.int .i64 s.k) := cell_of vq.1 0
  have vn : V.cell? ⟨w.heap.size, 2, none⟩ = some (.int .i64 s.n) := cell_of vq.1 2
  have vt : V.cell? ⟨w.heap.size, 4, none⟩ = some (.string s.t) := cell_of vq.1 4
  have va0 : V.cell? ⟨w.heap.size + 1, 0, none⟩ = some (.slice ow y.b.length cw) := cell_of vq.2.1 0
  have va1 : V.cell? ⟨w.heap.size + 1, 0 + 1, none⟩ = some (.int .i64 (y.s : Int)) := cell_of vq.2.1 1
  have va1' : V.cell? ⟨w.heap.size + 1, 1, none⟩ = some (.int .i64 (y.s : Int)) := cell_of vq.2.1 1
  have va2 : V.cell? ⟨w.heap.size + 1, 0 + 2, none⟩ = some (.int .i64 0) := cell_of vq.2.1 2
  have vg0 := cell_of vq.2.2.1 0
  have vg2 := cell_of vq.2.2.1 2
  have vc0 : V.cell? ⟨w.heap.size + 1 + 1 + 1, 0, none⟩ = some (.slice on xb.length cn) := cell_of vq.2.2.2 0
  have vc1 : V.cell? ⟨w.heap.size + 1 + 1 + 1, 0 + 1, none⟩ = some (.int .i64 (y.s : Int)) := cell_of vq.2.2.2 1
  have vc1' : V.cell? ⟨w.heap.size + 1 + 1 + 1, 1, none⟩ = some (.int .i64 (y.s : Int)) := cell_of vq.2.2.2 1
  have vc2 : V.cell? ⟨w.heap.size + 1 + 1 + 1, 0 + 2, none⟩ = some (.int .i64 0) := cell_of vq.2.2.2 2
  simp at vg0 vg2
  clear vq
  have HXB := hide hxb
  have hb1 : (y.b.length : Int) + (s.t.size : Int) ≤ 4611686018427387904 := by omega
  have e1 : (s.k == 1) = true := by rw [hk]; rfl
  have hri : ¬ (y.r : Int) < (y.b.length : Int) + (s.t.size : Int) := by omega
  have hrd : decide ((y.r : Int) < (y.b.length : Int) + (s.t.size : Int)) = false := decide_eq_false hri
  have HCP := hide (copy_any V _ y.b (HW.out V HL.out) (by omega))
  have HLN : Hid (xb.length ≤ 4611686018427387904) := by
    have hts : s.t.data.toList.length = s.t.size := by rw [Array.length_toList]; rfl
    show _ ≤ _
    rw [hxb, List.length_append, hts]; omega
  clear hw hn hg h4 hV hxb H4 hk
  go_enter Tryd.func35, Tryd.ntmps35
  go_wp2_with fail
  rw [← HV.out]
  refine HCP.out.mono ?_
  rintro r' w1 ⟨v1, rfl, o1, b1⟩
  obtain ⟨v2, W2, hrun, o2, f2, hv2⟩ := append_text w1 V.heap.size v1 y.b o1 s.t (by omega) b1.size
  have b2 : Below V.heap.size V W2 := b1.trans (f2.below (fun k hk => (own_lt o1 k (by simpa using hk)).1) b1.size)
  rw [← HXB.out] at o2
  obtain ⟨oa1, ca1, hv1, _⟩ := own_form o1
  subst hv1
  obtain ⟨oa2, ca2, hv2', hc2⟩ := own_form o2
  subst hv2'
  have xq := HQ.out w1 (b1)
  have xk : w1.cell? ⟨w.heap.size, 0, none⟩ = some (.int .i64 s.k) := cell_of xq.1 0
  have xn : w1.cell? ⟨w.heap.size, 2, none⟩ = some (.int .i64 s.n) := cell_of xq.1 2
  have xt : w1.cell? ⟨w.heap.size, 4, none⟩ = some (.string s.t) := cell_of xq.1 4
  have xa0 : w1.cell? ⟨w.heap.size + 1, 0, none⟩ = some (.slice ow y.b.length cw) := cell_of xq.2.1 0
  have xa1 : w1.cell? ⟨w.heap.size + 1, 0 + 1, none⟩ = some (.int .i64 (y.s : Int)) := cell_of xq.2.1 1
  have xa1' : w1.cell? ⟨w.heap.size + 1, 1, none⟩ = some (.int .i64 (y.s : Int)) := cell_of xq.2.1 1
  have xa2 : w1.cell? ⟨w.heap.size + 1, 0 + 2, none⟩ = some (.int .i64 0) := cell_of xq.2.1 2
  have xg0 := cell_of xq.2.2.1 0
  have xg2 := cell_of xq.2.2.1 2
  have xc0 : w1.cell? ⟨w.heap.size + 1 + 1 + 1, 0, none⟩ = some (.slice on xb.length cn) := cell_of xq.2.2.2 0
  have xc1 : w1.cell? ⟨w.heap.size + 1 + 1 + 1, 0 + 1, none⟩ = some (.int .i64 (y.s : Int)) := cell_of xq.2.2.2 1
  have xc1' : w1.cell? ⟨w.heap.size + 1 + 1 + 1, 1, none⟩ = some (.int .i64 (y.s : Int)) := cell_of xq.2.2.2 1
  have xc2 : w1.cell? ⟨w.heap.size + 1 + 1 + 1, 0 + 2, none⟩ = some (.int .i64 0) := cell_of xq.2.2.2 2
  simp at xg0 xg2
  clear xq
  have zq := HQ.out W2 (b2)
  have zk : W2.cell? ⟨w.heap.size, 0, none⟩ = some (.int .i64 s.k) := cell_of zq.1 0
  have zn : W2.cell? ⟨w.heap.size, 2, none⟩ = some (.int .i64 s.n) := cell_of zq.1 2
  have zt : W2.cell? ⟨w.heap.size, 4, none⟩ = some (.string s.t) := cell_of zq.1 4
  have za0 : W2.cell? ⟨w.heap.size + 1, 0, none⟩ = some (.slice ow y.b.length cw) := cell_of zq.2.1 0
  have za1 : W2.cell? ⟨w.heap.size + 1, 0 + 1, none⟩ = some (.int .i64 (y.s : Int)) := cell_of zq.2.1 1
  have za1' : W2.cell? ⟨w.heap.size + 1, 1, none⟩ = some (.int .i64 (y.s : Int)) := cell_of zq.2.1 1
  have za2 : W2.cell? ⟨w.heap.size + 1, 0 + 2, none⟩ = some (.int .i64 0) := cell_of zq.2.1 2
  have zg0 := cell_of zq.2.2.1 0
  have zg2 := cell_of zq.2.2.1 2
  have zc0 : W2.cell? ⟨w.heap.size + 1 + 1 + 1, 0, none⟩ = some (.slice on xb.length cn) := cell_of zq.2.2.2 0
  have zc1 : W2.cell? ⟨w.heap.size + 1 + 1 + 1, 0 + 1, none⟩ = some (.int .i64 (y.s : Int)) := cell_of zq.2.2.2 1
  have zc1' : W2.cell? ⟨w.heap.size + 1 + 1 + 1, 1, none⟩ = some (.int .i64 (y.s : Int)) := cell_of zq.2.2.2 1
  have zc2 : W2.cell? ⟨w.heap.size + 1 + 1 + 1, 0 + 2, none⟩ = some (.int .i64 0) := cell_of zq.2.2.2 2
  simp at zg0 zg2
  clear zq
  have HSM := hide (sameBytes_eq W2 _ _ xb (HN.out W2 (keepD HL.out b2)) (rd_own o2) HLN.out)
  have HB1 := hide (keepD HL.out b2)
  clear o1 b1 HCP f2 b2 hv2 o2 hc2
  go_wp2_with (at_builtin; refine wpList_append_run rfl _ _ 27 9 rfl _ _ rfl rfl _ _ hrun ?_)
  refine HSM.out.mono ?_
  rintro r' w3 ⟨rfl, b3⟩
  have HZ := hide (keepD HB1.out b3)
  clear b3 HSM
  go_wp2
  go_ret
  exact ⟨by simp, HZ.out⟩


set_option maxRecDepth 100000 in
set_option maxHeartbeats 3200000 in
theorem went_sync (w : World) (y : St) (hyr : y.r ≤ 1073741824) (hm : y.b.length ≤ 140737488355328) (hys : y.s ≤ y.b.length) (s : Sp) (ht : s.t.size ≤ 140737488355328) (hk : s.k = 2) (ow : Option Addr) (cw : Nat) (hw : Rd w (.slice ow y.b.length cw) y.b) (hcw : y.b.length ≤ cw) (og : Option Addr) (cg : Nat) (hg : Rd w (.slice og 0 cg) []) (on : Option Addr) (cn : Nat) (xb : List UInt8) (xs : Nat) (hxb : xb = y.b) (hxs : xs = y.b.length) (hn : Rd w (.slice on xb.length cn) xb) :
    Calls Tryd.prog 35 #[spv s, .int .i64 (y.r : Int), .agg #[.slice ow y.b.length cw, .int .i64 (y.s : Int), .int .i64 0], .agg #[.slice og 0 cg, .int .i64 0, .int .i64 0], .agg #[.slice on xb.length cn, .int .i64 (xs : Int), .int .i64 0]] w fun r' w' => r' = .returned (.bool true) ∧ Below w.heap.size w w' := by
  have _ : y.r ≤ 1073741824 ∧ y.s ≤ y.b.length ∧ y.b.length ≤ cw := ⟨hyr, hys, hcw⟩
  subst hxs
  subst hxb
  obtain ⟨V, hV⟩ : ∃ V, V = (((w.alloc (stc s)).alloc (said ow y.b.length cw (y.s : Int) 0)).alloc (said og 0 cg 0 0)).alloc (said on y.b.length cn (y.b.length : Int) 0) := ⟨_, rfl⟩
  have h4 : Four w V (stc s) (said ow y.b.length cw (y.s : Int) 0) (said og 0 cg 0 0) (said on y.b.length cn (y.b.length : Int) 0) := by rw [hV]; exact four_of _ _ _ _ _
  have HW : Hid (∀ Z, Below w.heap.size w Z → Rd Z (.slice ow y.b.length cw) y.b) := fun Z hZ => hw.below hZ
  have HN : Hid (∀ Z, Below w.heap.size w Z → Rd Z (.slice on y.b.length cn) y.b) := fun Z hZ => hn.below hZ
  have HG : Hid (∀ Z, Below w.heap.size w Z → Rd Z (.slice og 0 cg) []) := fun Z hZ => hg.below hZ
  have hz4 : w.heap.size + 1 + 1 + 1 < V.heap.size := (Array.getElem?_eq_some_iff.1 h4.b3).1
  have H4 := hide h4
  have HV := hide hV
  have HL := hide h4.low
  have HQ : Hid (∀ Z, Below V.heap.size V Z → Z.heap[w.heap.size]? = some (stc s) ∧ Z.heap[w.heap.size + 1]? = some (said ow y.b.length cw (y.s : Int) 0) ∧ Z.heap[w.heap.size + 1 + 1]? = some (said og 0 cg 0 0) ∧ Z.heap[w.heap.size + 1 + 1 + 1]? = some (said on y.b.length cn (y.b.length : Int) 0)) := fun Z hZ => ⟨(hZ.block _ (by omega)).trans H4.out.b0, (hZ.block _ (by omega)).trans H4.out.b1, (hZ.block _ (by omega)).trans H4.out.b2, (hZ.block _ (by omega)).trans H4.out.b3⟩
  have vq := HQ.out V (Below.refl _ _)
  have vk : V.cell? ⟨w.heap.size, 0, none⟩ = some (.int .i64 s.k) := cell_of vq.1 0
  have vn : V.cell? ⟨w.heap.size, 2, none⟩ = some (.int .i64 s.n) := cell_of vq.1 2
  have vt : V.cell? ⟨w.heap.size, 4, none⟩ = some (.string s.t) := cell_of vq.1 4
  have va0 : V.cell? ⟨w.heap.size + 1, 0, none⟩ = some (.slice ow y.b.length cw) := cell_of vq.2.1 0
  have va1 : V.cell? ⟨w.heap.size + 1, 0 + 1, none⟩ = some (.int .i64 (y.s : Int)) := cell_of vq.2.1 1
  have va1' : V.cell? ⟨w.heap.size + 1, 1, none⟩ = some (.int .i64 (y.s : Int)) := cell_of vq.2.1 1
  have va2 : V.cell? ⟨w.heap.size + 1, 0 + 2, none⟩ = some (.int .i64 0) := cell_of vq.2.1 2
  have vg0 := cell_of vq.2.2.1 0
  have vg2 := cell_of vq.2.2.1 2
  have vc0 : V.cell? ⟨w.heap.size + 1 + 1 + 1, 0, none⟩ = some (.slice on y.b.length cn) := cell_of vq.2.2.2 0
  have vc1 : V.cell? ⟨w.heap.size + 1 + 1 + 1, 0 + 1, none⟩ = some (.int .i64 (y.b.length : Int)) := cell_of vq.2.2.2 1
  have vc1' : V.cell? ⟨w.heap.size + 1 + 1 + 1, 1, none⟩ = some (.int .i64 (y.b.length : Int)) := cell_of vq.2.2.2 1
  have vc2 : V.cell? ⟨w.heap.size + 1 + 1 + 1, 0 + 2, none⟩ = some (.int .i64 0) := cell_of vq.2.2.2 2
  simp at vg0 vg2
  clear vq
  have hb1 : (y.b.length : Int) + (s.t.size : Int) ≤ 4611686018427387904 := by omega
  have e1 : (s.k == 1) = false := by rw [hk]; rfl
  have e2 : (s.k == 2) = true := by rw [hk]; rfl
  have HSM := hide (sameBytes_eq V _ _ y.b (HN.out V HL.out) (HW.out V HL.out) (by omega))
  clear hw hn hg h4 hV H4 hk
  go_enter Tryd.func35, Tryd.ntmps35
  go_wp2_with fail
  rw [← HV.out]
  refine HSM.out.mono ?_
  rintro r' w1 ⟨rfl, b1⟩
  have HZ := hide (keepD HL.out b1)
  clear b1 HSM
  go_wp2
  go_ret
  exact ⟨by simp, HZ.out⟩


set_option maxRecDepth 100000 in
set_option maxHeartbeats 3200000 in
theorem went_read (w : World) (y : St) (hyr : y.r ≤ 1073741824) (hm : y.b.length ≤ 140737488355328) (hys : y.s ≤ y.b.length) (s : Sp) (ht : s.t.size ≤ 140737488355328) (hk : s.k = 3) (ow : Option Addr) (cw : Nat) (hw : Rd w (.slice ow y.b.length cw) y.b) (hcw : y.b.length ≤ cw) (og : Option Addr) (cg : Nat) (hg : Rd w (.slice og y.b.length cg) y.b) (on : Option Addr) (cn : Nat) (xb : List UInt8) (xs : Nat) (hxb : xb = y.b) (hxs : xs = y.s) (hn : Rd w (.slice on xb.length cn) xb) :
    Calls Tryd.prog 35 #[spv s, .int .i64 (y.r : Int), .agg #[.slice ow y.b.length cw, .int .i64 (y.s : Int), .int .i64 0], .agg #[.slice og y.b.length cg, .int .i64 0, .int .i64 0], .agg #[.slice on xb.length cn, .int .i64 (xs : Int), .int .i64 0]] w fun r' w' => r' = .returned (.bool true) ∧ Below w.heap.size w w' := by
  have _ : y.r ≤ 1073741824 ∧ y.s ≤ y.b.length ∧ y.b.length ≤ cw := ⟨hyr, hys, hcw⟩
  subst hxs
  subst hxb
  obtain ⟨V, hV⟩ : ∃ V, V = (((w.alloc (stc s)).alloc (said ow y.b.length cw (y.s : Int) 0)).alloc (said og y.b.length cg 0 0)).alloc (said on y.b.length cn (y.s : Int) 0) := ⟨_, rfl⟩
  have h4 : Four w V (stc s) (said ow y.b.length cw (y.s : Int) 0) (said og y.b.length cg 0 0) (said on y.b.length cn (y.s : Int) 0) := by rw [hV]; exact four_of _ _ _ _ _
  have HW : Hid (∀ Z, Below w.heap.size w Z → Rd Z (.slice ow y.b.length cw) y.b) := fun Z hZ => hw.below hZ
  have HN : Hid (∀ Z, Below w.heap.size w Z → Rd Z (.slice on y.b.length cn) y.b) := fun Z hZ => hn.below hZ
  have HG : Hid (∀ Z, Below w.heap.size w Z → Rd Z (.slice og y.b.length cg) y.b) := fun Z hZ => hg.below hZ
  have hz4 : w.heap.size + 1 + 1 + 1 < V.heap.size := (Array.getElem?_eq_some_iff.1 h4.b3).1
  have H4 := hide h4
  have HV := hide hV
  have HL := hide h4.low
  have HQ : Hid (∀ Z, Below V.heap.size V Z → Z.heap[w.heap.size]? = some (stc s) ∧ Z.heap[w.heap.size + 1]? = some (said ow y.b.length cw (y.s : Int) 0) ∧ Z.heap[w.heap.size + 1 + 1]? = some (said og y.b.length cg 0 0) ∧ Z.heap[w.heap.size + 1 + 1 + 1]? = some (said on y.b.length cn (y.s : Int) 0)) := fun Z hZ => ⟨(hZ.block _ (by omega)).trans H4.out.b0, (hZ.block _ (by omega)).trans H4.out.b1, (hZ.block _ (by omega)).trans H4.out.b2, (hZ.block _ (by omega)).trans H4.out.b3⟩
  have vq := HQ.out V (Below.refl _ _)
  have vk : V.cell? ⟨w.heap.size, 0, none⟩ = some (.int .i64 s.k) := cell_of vq.1 0
  have vn : V.cell? ⟨w.heap.size, 2, none⟩ = some (.int .i64 s.n) := cell_of vq.1 2
  have vt : V.cell? ⟨w.heap.size, 4, none⟩ = some (.string s.t) := cell_of vq.1 4
  have va0 : V.cell? ⟨w.heap.size + 1, 0, none⟩ = some (.slice ow y.b.length cw) := cell_of vq.2.1 0
  have va1 : V.cell? ⟨w.heap.size + 1, 0 + 1, none⟩ = some (.int .i64 (y.s : Int)) := cell_of vq.2.1 1
  have va1' : V.cell? ⟨w.heap.size + 1, 1, none⟩ = some (.int .i64 (y.s : Int)) := cell_of vq.2.1 1
  have va2 : V.cell? ⟨w.heap.size + 1, 0 + 2, none⟩ = some (.int .i64 0) := cell_of vq.2.1 2
  have vg0 := cell_of vq.2.2.1 0
  have vg2 := cell_of vq.2.2.1 2
  have vc0 : V.cell? ⟨w.heap.size + 1 + 1 + 1, 0, none⟩ = some (.slice on y.b.length cn) := cell_of vq.2.2.2 0
  have vc1 : V.cell? ⟨w.heap.size + 1 + 1 + 1, 0 + 1, none⟩ = some (.int .i64 (y.s : Int)) := cell_of vq.2.2.2 1
  have vc1' : V.cell? ⟨w.heap.size + 1 + 1 + 1, 1, none⟩ = some (.int .i64 (y.s : Int)) := cell_of vq.2.2.2 1
  have vc2 : V.cell? ⟨w.heap.size + 1 + 1 + 1, 0 + 2, none⟩ = some (.int .i64 0) := cell_of vq.2.2.2 2
  simp at vg0 vg2
  clear vq
  have hb1 : (y.b.length : Int) + (s.t.size : Int) ≤ 4611686018427387904 := by omega
  have e1 : (s.k == 1) = false := by rw [hk]; rfl
  have e2 : (s.k == 2) = false := by rw [hk]; rfl
  have e3 : (s.k == 3) = true := by rw [hk]; rfl
  have HSM := hide (sameBytes_eq V _ _ y.b (HG.out V HL.out) (HW.out V HL.out) (by omega))
  clear hw hn hg h4 hV H4 hk
  go_enter Tryd.func35, Tryd.ntmps35
  go_wp2_with fail
  rw [← HV.out]
  refine HSM.out.mono ?_
  rintro r' w1 ⟨rfl, b1⟩
  have xq := HQ.out w1 (b1)
  have xk : w1.cell? ⟨w.heap.size, 0, none⟩ = some (.int .i64 s.k) := cell_of xq.1 0
  have xn : w1.cell? ⟨w.heap.size, 2, none⟩ = some (.int .i64 s.n) := cell_of xq.1 2
  have xt : w1.cell? ⟨w.heap.size, 4, none⟩ = some (.string s.t) := cell_of xq.1 4
  have xa0 : w1.cell? ⟨w.heap.size + 1, 0, none⟩ = some (.slice ow y.b.length cw) := cell_of xq.2.1 0
  have xa1 : w1.cell? ⟨w.heap.size + 1, 0 + 1, none⟩ = some (.int .i64 (y.s : Int)) := cell_of xq.2.1 1
  have xa1' : w1.cell? ⟨w.heap.size + 1, 1, none⟩ = some (.int .i64 (y.s : Int)) := cell_of xq.2.1 1
  have xa2 : w1.cell? ⟨w.heap.size + 1, 0 + 2, none⟩ = some (.int .i64 0) := cell_of xq.2.1 2
  have xg0 := cell_of xq.2.2.1 0
  have xg2 := cell_of xq.2.2.1 2
  have xc0 : w1.cell? ⟨w.heap.size + 1 + 1 + 1, 0, none⟩ = some (.slice on y.b.length cn) := cell_of xq.2.2.2 0
  have xc1 : w1.cell? ⟨w.heap.size + 1 + 1 + 1, 0 + 1, none⟩ = some (.int .i64 (y.s : Int)) := cell_of xq.2.2.2 1
  have xc1' : w1.cell? ⟨w.heap.size + 1 + 1 + 1, 1, none⟩ = some (.int .i64 (y.s : Int)) := cell_of xq.2.2.2 1
  have xc2 : w1.cell? ⟨w.heap.size + 1 + 1 + 1, 0 + 2, none⟩ = some (.int .i64 0) := cell_of xq.2.2.2 2
  simp at xg0 xg2
  clear xq
  have HSS := hide (same_eq w1 _ _ ⟨y.b, y.s, 0⟩ (HW.out w1 (keepD HL.out b1)) (HN.out w1 (keepD HL.out b1)) (by show y.b.length ≤ _; omega))
  have HB1 := hide (keepD HL.out b1)
  clear b1 HSM
  go_wp2_with fail
  refine HSS.out.mono ?_
  rintro r' w2 ⟨rfl, b2⟩
  have HZ := hide (keepD HB1.out b2)
  clear b2 HSS
  go_wp2
  go_ret
  exact ⟨by simp, HZ.out⟩


set_option maxRecDepth 100000 in
set_option maxHeartbeats 3200000 in
theorem went_neg (w : World) (y : St) (hyr : y.r ≤ 1073741824) (hm : y.b.length ≤ 140737488355328) (hys : y.s ≤ y.b.length) (s : Sp) (ht : s.t.size ≤ 140737488355328) (hk : s.k = 4) (hn0 : s.n < 0) (ow : Option Addr) (cw : Nat) (hw : Rd w (.slice ow y.b.length cw) y.b) (hcw : y.b.length ≤ cw) (og : Option Addr) (cg : Nat) (hg : Rd w (.slice og 0 cg) []) (on : Option Addr) (cn : Nat) (xb : List UInt8) (xs : Nat) (hxb : xb = y.b) (hxs : xs = y.s) (hn : Rd w (.slice on xb.length cn) xb) :
    Calls Tryd.prog 35 #[spv s, .int .i64 (y.r : Int), .agg #[.slice ow y.b.length cw, .int .i64 (y.s : Int), .int .i64 0], .agg #[.slice og 0 cg, .int .i64 0, .int .i64 1], .agg #[.slice on xb.length cn, .int .i64 (xs : Int), .int .i64 0]] w fun r' w' => r' = .returned (.bool true) ∧ Below w.heap.size w w' := by
  have _ : y.r ≤ 1073741824 ∧ y.s ≤ y.b.length ∧ y.b.length ≤ cw := ⟨hyr, hys, hcw⟩
  subst hxs
  subst hxb
  obtain ⟨V, hV⟩ : ∃ V, V = (((w.alloc (stc s)).alloc (said ow y.b.length cw (y.s : Int) 0)).alloc (said og 0 cg 0 1)).alloc (said on y.b.length cn (y.s : Int) 0) := ⟨_, rfl⟩
  have h4 : Four w V (stc s) (said ow y.b.length cw (y.s : Int) 0) (said og 0 cg 0 1) (said on y.b.length cn (y.s : Int) 0) := by rw [hV]; exact four_of _ _ _ _ _
  have HW : Hid (∀ Z, Below w.heap.size w Z → Rd Z (.slice ow y.b.length cw) y.b) := fun Z hZ => hw.below hZ
  have HN : Hid (∀ Z, Below w.heap.size w Z → Rd Z (.slice on y.b.length cn) y.b) := fun Z hZ => hn.below hZ
  have HG : Hid (∀ Z, Below w.heap.size w Z → Rd Z (.slice og 0 cg) []) := fun Z hZ => hg.below hZ
  have hz4 : w.heap.size + 1 + 1 + 1 < V.heap.size := (Array.getElem?_eq_some_iff.1 h4.b3).1
  have H4 := hide h4
  have HV := hide hV
  have HL := hide h4.low
  have HQ : Hid (∀ Z, Below V.heap.size V Z → Z.heap[w.heap.size]? = some (stc s) ∧ Z.heap[w.heap.size + 1]? = some (said ow y.b.length cw (y.s : Int) 0) ∧ Z.heap[w.heap.size + 1 + 1]? = some (said og 0 cg 0 1) ∧ Z.heap[w.heap.size + 1 + 1 + 1]? = some (said on y.b.length cn (y.s : Int) 0)) := fun Z hZ => ⟨(hZ.block _ (by omega)).trans H4.out.b0, (hZ.block _ (by omega)).trans H4.out.b1, (hZ.block _ (by omega)).trans H4.out.b2, (hZ.block _ (by omega)).trans H4.out.b3⟩
  have vq := HQ.out V (Below.refl _ _)
  have vk : V.cell? ⟨w.heap.size, 0, none⟩ = some (.int .i64 s.k) := cell_of vq.1 0
  have vn : V.cell? ⟨w.heap.size, 2, none⟩ = some (.int .i64 s.n) := cell_of vq.1 2
  have vt : V.cell? ⟨w.heap.size, 4, none⟩ = some (.string s.t) := cell_of vq.1 4
  have va0 : V.cell? ⟨w.heap.size + 1, 0, none⟩ = some (.slice ow y.b.length cw) := cell_of vq.2.1 0
  have va1 : V.cell? ⟨w.heap.size + 1, 0 + 1, none⟩ = some (.int .i64 (y.s : Int)) := cell_of vq.2.1 1
  have va1' : V.cell? ⟨w.heap.size + 1, 1, none⟩ = some (.int .i64 (y.s : Int)) := cell_of vq.2.1 1
  have va2 : V.cell? ⟨w.heap.size + 1, 0 + 2, none⟩ = some (.int .i64 0) := cell_of vq.2.1 2
  have vg0 := cell_of vq.2.2.1 0
  have vg2 := cell_of vq.2.2.1 2
  have vc0 : V.cell? ⟨w.heap.size + 1 + 1 + 1, 0, none⟩ = some (.slice on y.b.length cn) := cell_of vq.2.2.2 0
  have vc1 : V.cell? ⟨w.heap.size + 1 + 1 + 1, 0 + 1, none⟩ = some (.int .i64 (y.s : Int)) := cell_of vq.2.2.2 1
  have vc1' : V.cell? ⟨w.heap.size + 1 + 1 + 1, 1, none⟩ = some (.int .i64 (y.s : Int)) := cell_of vq.2.2.2 1
  have vc2 : V.cell? ⟨w.heap.size + 1 + 1 + 1, 0 + 2, none⟩ = some (.int .i64 0) := cell_of vq.2.2.2 2
  simp at vg0 vg2
  clear vq
  have hb1 : (y.b.length : Int) + (s.t.size : Int) ≤ 4611686018427387904 := by omega
  have e1 : (s.k == 1) = false := by rw [hk]; rfl
  have e2 : (s.k == 2) = false := by rw [hk]; rfl
  have e3 : (s.k == 3) = false := by rw [hk]; rfl
  have HSM := hide (same_eq V _ _ ⟨y.b, y.s, 0⟩ (HW.out V HL.out) (HN.out V HL.out) (by show y.b.length ≤ _; omega))
  have hnd : decide (s.n < 0) = true := decide_eq_true hn0
  clear hw hn hg h4 hV H4 hk
  go_enter Tryd.func35, Tryd.ntmps35
  go_wp2_with fail
  rw [← HV.out]
  refine HSM.out.mono ?_
  rintro r' w1 ⟨rfl, b1⟩
  have HZ := hide (keepD HL.out b1)
  clear b1 HSM
  go_wp2
  go_ret
  exact ⟨by simp, HZ.out⟩


set_option maxRecDepth 100000 in
set_option maxHeartbeats 3200000 in
theorem went_over (w : World) (y : St) (hyr : y.r ≤ 1073741824) (hm : y.b.length ≤ 140737488355328) (hys : y.s ≤ y.b.length) (s : Sp) (ht : s.t.size ≤ 140737488355328) (hk : s.k = 4) (hn0 : (y.b.length : Int) < s.n) (ow : Option Addr) (cw : Nat) (hw : Rd w (.slice ow y.b.length cw) y.b) (hcw : y.b.length ≤ cw) (og : Option Addr) (cg : Nat) (hg : Rd w (.slice og 0 cg) []) (on : Option Addr) (cn : Nat) (xb : List UInt8) (xs : Nat) (hxb : xb = y.b) (hxs : xs = y.s) (hn : Rd w (.slice on xb.length cn) xb) :
    Calls Tryd.prog 35 #[spv s, .int .i64 (y.r : Int), .agg #[.slice ow y.b.length cw, .int .i64 (y.s : Int), .int .i64 0], .agg #[.slice og 0 cg, .int .i64 0, .int .i64 1], .agg #[.slice on xb.length cn, .int .i64 (xs : Int), .int .i64 0]] w fun r' w' => r' = .returned (.bool true) ∧ Below w.heap.size w w' := by
  have _ : y.r ≤ 1073741824 ∧ y.s ≤ y.b.length ∧ y.b.length ≤ cw := ⟨hyr, hys, hcw⟩
  subst hxs
  subst hxb
  obtain ⟨V, hV⟩ : ∃ V, V = (((w.alloc (stc s)).alloc (said ow y.b.length cw (y.s : Int) 0)).alloc (said og 0 cg 0 1)).alloc (said on y.b.length cn (y.s : Int) 0) := ⟨_, rfl⟩
  have h4 : Four w V (stc s) (said ow y.b.length cw (y.s : Int) 0) (said og 0 cg 0 1) (said on y.b.length cn (y.s : Int) 0) := by rw [hV]; exact four_of _ _ _ _ _
  have HW : Hid (∀ Z, Below w.heap.size w Z → Rd Z (.slice ow y.b.length cw) y.b) := fun Z hZ => hw.below hZ
  have HN : Hid (∀ Z, Below w.heap.size w Z → Rd Z (.slice on y.b.length cn) y.b) := fun Z hZ => hn.below hZ
  have HG : Hid (∀ Z, Below w.heap.size w Z → Rd Z (.slice og 0 cg) []) := fun Z hZ => hg.below hZ
  have hz4 : w.heap.size + 1 + 1 + 1 < V.heap.size := (Array.getElem?_eq_some_iff.1 h4.b3).1
  have H4 := hide h4
  have HV := hide hV
  have HL := hide h4.low
  have HQ : Hid (∀ Z, Below V.heap.size V Z → Z.heap[w.heap.size]? = some (stc s) ∧ Z.heap[w.heap.size + 1]? = some (said ow y.b.length cw (y.s : Int) 0) ∧ Z.heap[w.heap.size + 1 + 1]? = some (said og 0 cg 0 1) ∧ Z.heap[w.heap.size + 1 + 1 + 1]? = some (said on y.b.length cn (y.s : Int) 0)) := fun Z hZ => ⟨(hZ.block _ (by omega)).trans H4.out.b0, (hZ.block _ (by omega)).trans H4.out.b1, (hZ.block _ (by omega)).trans H4.out.b2, (hZ.block _ (by omega)).trans H4.out.b3⟩
  have vq := HQ.out V (Below.refl _ _)
  have vk : V.cell? ⟨w.heap.size, 0, none⟩ = some (.int .i64 s.k) := cell_of vq.1 0
  have vn : V.cell? ⟨w.heap.size, 2, none⟩ = some (.int .i64 s.n) := cell_of vq.1 2
  have vt : V.cell? ⟨w.heap.size, 4, none⟩ = some (.string s.t) := cell_of vq.1 4
  have va0 : V.cell? ⟨w.heap.size + 1, 0, none⟩ = some (.slice ow y.b.length cw) := cell_of vq.2.1 0
  have va1 : V.cell? ⟨w.heap.size + 1, 0 + 1, none⟩ = some (.int .i64 (y.s : Int)) := cell_of vq.2.1 1
  have va1' : V.cell? ⟨w.heap.size + 1, 1, none⟩ = some (.int .i64 (y.s : Int)) := cell_of vq.2.1 1
  have va2 : V.cell? ⟨w.heap.size + 1, 0 + 2, none⟩ = some (.int .i64 0) := cell_of vq.2.1 2
  have vg0 := cell_of vq.2.2.1 0
  have vg2 := cell_of vq.2.2.1 2
  have vc0 : V.cell? ⟨w.heap.size + 1 + 1 + 1, 0, none⟩ = some (.slice on y.b.length cn) := cell_of vq.2.2.2 0
  have vc1 : V.cell? ⟨w.heap.size + 1 + 1 + 1, 0 + 1, none⟩ = some (.int .i64 (y.s : Int)) := cell_of vq.2.2.2 1
  have vc1' : V.cell? ⟨w.heap.size + 1 + 1 + 1, 1, none⟩ = some (.int .i64 (y.s : Int)) := cell_of vq.2.2.2 1
  have vc2 : V.cell? ⟨w.heap.size + 1 + 1 + 1, 0 + 2, none⟩ = some (.int .i64 0) := cell_of vq.2.2.2 2
  simp at vg0 vg2
  clear vq
  have hb1 : (y.b.length : Int) + (s.t.size : Int) ≤ 4611686018427387904 := by omega
  have e1 : (s.k == 1) = false := by rw [hk]; rfl
  have e2 : (s.k == 2) = false := by rw [hk]; rfl
  have e3 : (s.k == 3) = false := by rw [hk]; rfl
  have HSM := hide (same_eq V _ _ ⟨y.b, y.s, 0⟩ (HW.out V HL.out) (HN.out V HL.out) (by show y.b.length ≤ _; omega))
  have hnd : decide ((y.b.length : Int) < s.n) = true := decide_eq_true hn0
  have hnn : ¬ s.n < 0 := by omega
  clear hw hn hg h4 hV H4 hk
  go_enter Tryd.func35, Tryd.ntmps35
  go_wp2_with fail
  rw [← HV.out]
  refine HSM.out.mono ?_
  rintro r' w1 ⟨rfl, b1⟩
  have HZ := hide (keepD HL.out b1)
  clear b1 HSM
  go_wp2
  go_ret
  exact ⟨by simp, HZ.out⟩

end Go.Proofs.YtjfpjgialdkhkaaDoor.dk
