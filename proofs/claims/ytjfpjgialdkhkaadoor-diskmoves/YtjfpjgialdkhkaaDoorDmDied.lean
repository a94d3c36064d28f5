import Derived.Test.YtjfpjgialdkhkaaDoorDmKit
namespace Go.Proofs.YtjfpjgialdkhkaaDoor.dk
open Go.ChangeShapes Go.WideShapes Go.ChangeAt Go.RowKit Go.Proofs.YtjfpjgialdkhkaaDoor.common

/-- four new blocks -/
structure Four (w V : World) (o0 o1 o2 o3 : Obj) : Prop where
  low : Below w.heap.size w V
  b0 : V.heap[w.heap.size]? = some o0
  b1 : V.heap[w.heap.size + 1]? = some o1
  b2 : V.heap[w.heap.size + 1 + 1]? = some o2
  b3 : V.heap[w.heap.size + 1 + 1 + 1]? = some o3
theorem four_of (w : World) (o0 o1 o2 o3 : Obj) : Four w ((((w.alloc o0).alloc o1).alloc o2).alloc o3) o0 o1 o2 o3 := by
  have z : ∀ (W : World) o, (W.alloc o).heap.size = W.heap.size + 1 := fun W o => by simp
  have k : ∀ (W : World) o j, j < W.heap.size → (W.alloc o).heap[j]? = W.heap[j]? := fun W o j hj => Below.block ((Below.refl W.heap.size W).alloc (Nat.le_refl _) o) j hj
  have n : ∀ (W : World) o m, W.heap.size = m → (W.alloc o).heap[m]? = some o := fun W o m hm => by rw [← hm]; exact heap_alloc_new _ _
  refine ⟨(((((Below.refl _ _).alloc (Nat.le_refl _) _).alloc (by rw [z]; omega) _).alloc (by rw [z, z]; omega) _).alloc (by rw [z, z, z]; omega) _), ?_, ?_, ?_, ?_⟩
  · rw [k _ _ _ (by rw [z, z, z]; omega), k _ _ _ (by rw [z, z]; omega), k _ _ _ (by rw [z]; omega)]; exact n _ _ _ rfl
  · rw [k _ _ _ (by rw [z, z, z]; omega), k _ _ _ (by rw [z, z]; omega)]; exact n _ _ _ (by rw [z])
  · rw [k _ _ _ (by rw [z, z, z]; omega)]; exact n _ _ _ (by rw [z, z])
  · exact n _ _ _ (by rw [z, z, z])

set_option maxRecDepth 100000 in
set_option maxHeartbeats 3200000 in
theorem died_fit (w : World) (p : Nat) (F : List Nat) (x : St) (hD : Dk w p F x) (hd : x.d = true) (hs : x.s = x.b.length) (y : St) (hys : y.s ≤ x.b.length) (hyr : y.r ≤ 1073741824) (hm : y.b.length ≤ 140737488355328) (s : Sp) (hk : s.k = 1) (hr : y.b.length + s.t.size ≤ y.r) (ow : Option Addr) (cw : Nat) (hw : Rd w (.slice ow y.b.length cw) y.b) (og : Option Addr) (cg : Nat) (gn ge : Int) (on : Option Addr) (cn : Nat) (hn : Rd w (.slice on x.b.length cn) x.b) (h1 : x.b.length ≤ (y.b ++ s.t.data.toList).length) (h2 : x.b = (y.b ++ s.t.data.toList).take x.b.length) :
    Calls Tryd.prog 34 #[ptr p, spv s, .int .i64 (y.r : Int), .bool true, .agg #[.slice ow y.b.length cw, .int .i64 (y.s : Int), .int .i64 0], .agg #[.slice og 0 cg, .int .i64 gn, .int .i64 ge], .agg #[.slice on x.b.length cn, .int .i64 (x.s : Int), .int .i64 0]] w fun r' w' => r' = .returned (.bool true) ∧ Below w.heap.size w w' := by
  obtain ⟨V, hV⟩ : ∃ V, V = (((w.alloc (stc s)).alloc (said ow y.b.length cw (y.s : Int) 0)).alloc (said og 0 cg gn ge)).alloc (said on x.b.length cn (x.s : Int) 0) := ⟨_, rfl⟩
  have h4 : Four w V (stc s) (said ow y.b.length cw (y.s : Int) 0) (said og 0 cg gn ge) (said on x.b.length cn (x.s : Int) 0) := by rw [hV]; exact four_of _ _ _ _ _
  have hts : s.t.data.toList.length = s.t.size := by rw [Array.length_toList]; rfl
  have hLL : (y.b ++ s.t.data.toList).length = y.b.length + s.t.size := by rw [List.length_append, hts]
  obtain ⟨L, hL⟩ : ∃ L, L = y.b ++ s.t.data.toList := ⟨_, rfl⟩
  rw [← hL] at h1 h2 hLL
  have HCP := hide (copy_any V _ y.b (hw.below h4.low) (by omega))
  have HS := hide (fun Z (hZ : Below w.heap.size w Z) oa c hl hc => survived_any Z p F x (hD.below hZ) hd hs L (by omega) oa c hl hc on cn (hn.below hZ) y.s hys h1 h2)
  have k0 : V.cell? ⟨w.heap.size, 0, none⟩ = some (.int .i64 s.k) := cell_of h4.b0 0
  have m0 : V.cell? ⟨w.heap.size + 1, 0, none⟩ = some (.slice ow y.b.length cw) := cell_of h4.b1 0
  have H4 := hide h4
  have HV := hide hV
  have e1 : (s.k == 1) = true := by rw [hk]; rfl
  have hri : (y.b.length : Int) + (s.t.size : Int) ≤ (y.r : Int) := by omega
  have hrd : decide ((y.b.length : Int) + (s.t.size : Int) ≤ (y.r : Int)) = true := decide_eq_true hri
  have hb1 : (y.b.length : Int) + (s.t.size : Int) ≤ 4611686018427387904 := by omega
  have HLe := hide hL
  have hz4 : w.heap.size + 1 + 1 + 1 < V.heap.size := (Array.getElem?_eq_some_iff.1 h4.b3).1
  have HLN := hide hLL
  clear hD hw hn h4 hV h2 h1 hL hts hs hd hys hLL hk
  go_enter Tryd.func34, Tryd.ntmps34
  go_wp2_with fail
  rw [← HV.out]
  refine HCP.out.mono ?_
  rintro r' w1 ⟨v1, rfl, o1, b1⟩
  obtain ⟨v2, W2, hrun, o2, f2, hv2⟩ := append_text w1 V.heap.size v1 y.b o1 s.t (by omega) b1.size
  have b2 : Below V.heap.size V W2 := b1.trans (f2.below (fun k hk => (own_lt o1 k (by simpa using hk)).1) b1.size)
  have hq : ∀ {Z : World}, Below V.heap.size V Z → Z.heap[w.heap.size]? = some (stc s) ∧ Z.heap[w.heap.size + 1]? = some (said ow y.b.length cw (y.s : Int) 0) ∧ Z.heap[w.heap.size + 1 + 1]? = some (said og 0 cg gn ge) ∧ Z.heap[w.heap.size + 1 + 1 + 1]? = some (said on x.b.length cn (x.s : Int) 0) := fun hZ => ⟨(hZ.block _ (by omega)).trans H4.out.b0, (hZ.block _ (by omega)).trans H4.out.b1, (hZ.block _ (by omega)).trans H4.out.b2, (hZ.block _ (by omega)).trans H4.out.b3⟩
  have q1 := hq b1
  have q2 := hq b2
  have i0 : w1.cell? ⟨w.heap.size, 0, none⟩ = some (.int .i64 s.k) := cell_of q1.1 0
  have i4 : w1.cell? ⟨w.heap.size, 4, none⟩ = some (.string s.t) := cell_of q1.1 4
  have j1 : W2.cell? ⟨w.heap.size + 1, 1, none⟩ = some (.int .i64 (y.s : Int)) := cell_of q2.2.1 1
  have j2 : W2.cell? ⟨w.heap.size + 1 + 1, 0, none⟩ = some (.slice og 0 cg) := cell_of q2.2.2.1 0
  have n0 : W2.cell? ⟨w.heap.size + 1 + 1 + 1, 0, none⟩ = some (.slice on x.b.length cn) := cell_of q2.2.2.2 0
  have n1 : W2.cell? ⟨w.heap.size + 1 + 1 + 1, 0 + 1, none⟩ = some (.int .i64 (x.s : Int)) := cell_of q2.2.2.2 1
  have n2 : W2.cell? ⟨w.heap.size + 1 + 1 + 1, 0 + 2, none⟩ = some (.int .i64 0) := cell_of q2.2.2.2 2
  have bW2 : Below w.heap.size w W2 := keepD H4.out.low b2
  rw [← HLe.out] at o2
  obtain ⟨oa1, ca1, hv1, _⟩ := own_form o1
  subst hv1
  obtain ⟨oa2, ca2, hv2', hc2⟩ := own_form o2
  subst hv2'
  have HSV := hide (HS.out W2 bW2 oa2 ca2 (rd_own o2) hc2)
  have HB2 := hide bW2
  clear b1 o1 f2 b2 hv2 o2 HS HCP hq q1 q2 bW2 hc2
  go_wp2_with (at_builtin; refine wpList_append_run rfl _ _ 27 9 rfl _ _ rfl rfl _ _ hrun ?_)
  refine HSV.out.mono ?_
  rintro r' w3 ⟨rfl, b3⟩
  have HZ := hide (keepD HB2.out b3)
  clear b3 HSV
  go_wp2
  go_ret
  exact ⟨rfl, HZ.out⟩

set_option maxRecDepth 100000 in
set_option maxHeartbeats 3200000 in
theorem died_not (w : World) (p : Nat) (F : List Nat) (x : St) (hD : Dk w p F x) (hd : x.d = true) (hs : x.s = x.b.length) (y : St) (hys : y.s ≤ x.b.length) (hyr : y.r ≤ 1073741824) (hm : y.b.length ≤ 140737488355328) (s : Sp) (ht : s.t.size ≤ 140737488355328) (hk : s.k = 1 → y.r < y.b.length + s.t.size) (ow : Option Addr) (cw : Nat) (hw : Rd w (.slice ow y.b.length cw) y.b) (og : Option Addr) (cg : Nat) (gn ge : Int) (on : Option Addr) (cn : Nat) (hn : Rd w (.slice on x.b.length cn) x.b) (h1 : x.b.length ≤ y.b.length) (h2 : x.b = y.b.take x.b.length) :
    Calls Tryd.prog 34 #[ptr p, spv s, .int .i64 (y.r : Int), .bool true, .agg #[.slice ow y.b.length cw, .int .i64 (y.s : Int), .int .i64 0], .agg #[.slice og 0 cg, .int .i64 gn, .int .i64 ge], .agg #[.slice on x.b.length cn, .int .i64 (x.s : Int), .int .i64 0]] w fun r' w' => r' = .returned (.bool true) ∧ Below w.heap.size w w' := by
  obtain ⟨V, hV⟩ : ∃ V, V = (((w.alloc (stc s)).alloc (said ow y.b.length cw (y.s : Int) 0)).alloc (said og 0 cg gn ge)).alloc (said on x.b.length cn (x.s : Int) 0) := ⟨_, rfl⟩
  have h4 : Four w V (stc s) (said ow y.b.length cw (y.s : Int) 0) (said og 0 cg gn ge) (said on x.b.length cn (x.s : Int) 0) := by rw [hV]; exact four_of _ _ _ _ _
  have HCP := hide (copy_any V _ y.b (hw.below h4.low) (by omega))
  have HS := hide (fun Z (hZ : Below w.heap.size w Z) oa c hl hc => survived_any Z p F x (hD.below hZ) hd hs y.b (by omega) oa c hl hc on cn (hn.below hZ) y.s hys h1 h2)
  have k0 : V.cell? ⟨w.heap.size, 0, none⟩ = some (.int .i64 s.k) := cell_of h4.b0 0
  have m0 : V.cell? ⟨w.heap.size + 1, 0, none⟩ = some (.slice ow y.b.length cw) := cell_of h4.b1 0
  have H4 := hide h4
  have HV := hide hV
  have hb1 : (y.b.length : Int) + (s.t.size : Int) ≤ 4611686018427387904 := by omega
  have hz4 : w.heap.size + 1 + 1 + 1 < V.heap.size := (Array.getElem?_eq_some_iff.1 h4.b3).1
  have HBEG : Hid (∀ w1 v1, w1.ownsRow V.heap.size 5 1 v1 y.b.length (y.b.map B) → Below V.heap.size V w1 → ∃ oa c, v1 = .slice oa y.b.length c ∧ w1.heap[w.heap.size]? = some (stc s) ∧ w1.heap[w.heap.size + 1]? = some (said ow y.b.length cw (y.s : Int) 0) ∧ w1.heap[w.heap.size + 1 + 1]? = some (said og 0 cg gn ge) ∧ w1.heap[w.heap.size + 1 + 1 + 1]? = some (said on x.b.length cn (x.s : Int) 0) ∧ Below w.heap.size w w1 ∧ Calls Tryd.prog 57 #[ptr p, .slice oa y.b.length c, .int .i64 (y.s : Int), .agg #[.slice on x.b.length cn, .int .i64 (x.s : Int), .int .i64 0]] w1 fun r' w' => r' = .returned (.bool true) ∧ Below w1.heap.size w1 w') := fun w1 v1 o1 hZ => by
    obtain ⟨oa, c, hv, hc⟩ := own_form o1
    subst hv
    have hb := keepD H4.out.low hZ
    exact ⟨oa, c, rfl, (hZ.block _ (by omega)).trans H4.out.b0, (hZ.block _ (by omega)).trans H4.out.b1, (hZ.block _ (by omega)).trans H4.out.b2, (hZ.block _ (by omega)).trans H4.out.b3, hb, HS.out w1 hb oa c (rd_own o1) hc⟩
  clear hD hw hn h4 hV h2 h1 hs hd hys HS hz4 H4
  by_cases k1 : s.k = 1
  · have hk' := hk k1
    have e1 : (s.k == 1) = true := by rw [k1]; rfl
    have hri : ¬ (y.b.length : Int) + (s.t.size : Int) ≤ (y.r : Int) := by omega
    have hrd : decide ((y.b.length : Int) + (s.t.size : Int) ≤ (y.r : Int)) = false := decide_eq_false hri
    clear hk k1 hk'
    go_enter Tryd.func34, Tryd.ntmps34
    go_wp2_with fail
    rw [← HV.out]
    refine HCP.out.mono ?_
    rintro r' w1 ⟨v1, rfl, o1, b1⟩
    obtain ⟨oa, c, rfl, t0, t1, t2, t3, hb, hsv⟩ := HBEG.out w1 v1 o1 b1
    have i0 : w1.cell? ⟨w.heap.size, 0, none⟩ = some (.int .i64 s.k) := cell_of t0 0
    have i4 : w1.cell? ⟨w.heap.size, 4, none⟩ = some (.string s.t) := cell_of t0 4
    have j1 : w1.cell? ⟨w.heap.size + 1, 1, none⟩ = some (.int .i64 (y.s : Int)) := cell_of t1 1
    have j2 : w1.cell? ⟨w.heap.size + 1 + 1, 0, none⟩ = some (.slice og 0 cg) := cell_of t2 0
    have n0 : w1.cell? ⟨w.heap.size + 1 + 1 + 1, 0, none⟩ = some (.slice on x.b.length cn) := cell_of t3 0
    have n1 : w1.cell? ⟨w.heap.size + 1 + 1 + 1, 0 + 1, none⟩ = some (.int .i64 (x.s : Int)) := cell_of t3 1
    have n2 : w1.cell? ⟨w.heap.size + 1 + 1 + 1, 0 + 2, none⟩ = some (.int .i64 0) := cell_of t3 2
    have HSV := hide hsv
    have HB2 := hide hb
    clear t0 t1 t2 t3 hb hsv o1 b1 HBEG HCP
    go_wp2_with fail
    refine HSV.out.mono ?_
    rintro r' w3 ⟨rfl, b3⟩
    have HZ := hide (keepD HB2.out b3)
    clear b3 HSV
    go_wp2
    go_ret
    exact ⟨rfl, HZ.out⟩
  · have e1 : (s.k == 1) = false := beq_false_of_ne k1
    clear hk k1
    go_enter Tryd.func34, Tryd.ntmps34
    go_wp2_with fail
    rw [← HV.out]
    refine HCP.out.mono ?_
    rintro r' w1 ⟨v1, rfl, o1, b1⟩
    obtain ⟨oa, c, rfl, t0, t1, t2, t3, hb, hsv⟩ := HBEG.out w1 v1 o1 b1
    have i0 : w1.cell? ⟨w.heap.size, 0, none⟩ = some (.int .i64 s.k) := cell_of t0 0
    have j1 : w1.cell? ⟨w.heap.size + 1, 1, none⟩ = some (.int .i64 (y.s : Int)) := cell_of t1 1
    have j2 : w1.cell? ⟨w.heap.size + 1 + 1, 0, none⟩ = some (.slice og 0 cg) := cell_of t2 0
    have n0 : w1.cell? ⟨w.heap.size + 1 + 1 + 1, 0, none⟩ = some (.slice on x.b.length cn) := cell_of t3 0
    have n1 : w1.cell? ⟨w.heap.size + 1 + 1 + 1, 0 + 1, none⟩ = some (.int .i64 (x.s : Int)) := cell_of t3 1
    have n2 : w1.cell? ⟨w.heap.size + 1 + 1 + 1, 0 + 2, none⟩ = some (.int .i64 0) := cell_of t3 2
    have HSV := hide hsv
    have HB2 := hide hb
    clear t0 t1 t2 t3 hb hsv o1 b1 HBEG HCP
    go_wp2_with fail
    refine HSV.out.mono ?_
    rintro r' w3 ⟨rfl, b3⟩
    have HZ := hide (keepD HB2.out b3)
    clear b3 HSV
    go_wp2
    go_ret
    exact ⟨rfl, HZ.out⟩
end Go.Proofs.YtjfpjgialdkhkaaDoor.dk
