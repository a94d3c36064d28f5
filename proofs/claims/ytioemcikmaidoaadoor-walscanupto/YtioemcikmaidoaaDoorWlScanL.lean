import Derived.Test.YtioemcikmaidoaaDoorWlScan
import Derived.Test.YtioemcikmaidoaaDoorWlRefS
namespace Go.Proofs.YtioemcikmaidoaaDoor.wl
open Go.ChangeShapes Go.WideShapes Go.ChangeAt Go.RowKit Go.Proofs.YtioemcikmaidoaaDoor.common Go.Proofs.YtioemcikmaidoaaDoor.dk

theorem ls_its {W : World} {base N : Nat} {v : Value} {its : List It} (h : W.ownsRow base 22 1 v its.length (its.map It.v)) (hi : Its W N its) : Ls W v (ps its) := by
  have h' : W.ownsRow base 22 1 v (its.map It.v).length (its.map It.v) := by rw [List.length_map]; exact h
  refine ls_own h' (by simp [ps]) (fun i h1 h2 => ?_)
  have hi' : i < its.length := by simpa using h1
  have hx := (hi.1 its[i] (List.getElem_mem hi')).1
  simp only [List.getElem_map, ps]
  exact hx.rd _
theorem scan_lens (l : List UInt8) (hl : l.length ≤ 4398046511104) : (Wl.scan l).length ≤ 4611686018427387904 ∧ ∀ q ∈ Wl.scan l, q.length ≤ 4611686018427387904 := by
  have h1 := flat_ge (Wl.scan l) (Wl.scan_fits l)
  have h2 := Wl.good_le l
  unfold Wl.good at h2
  exact ⟨by omega, fun q hq => by have := ((Wl.fit_iff _).1 (Wl.scan_fits l q hq)).2; omega⟩

set_option maxRecDepth 100000 in
set_option maxHeartbeats 1600000 in
theorem lawScan (w : World) (v : Value) (l : List UInt8) (h : Rd w v l) (hl : l.length ≤ 1048576) (ht : crcw.Tab w) :
    Calls Tryd.prog 5 #[v] w fun e w' => e = .returned (.bool true) ∧ Below w.heap.size w w' := by
  have HR := hide h
  have HTE : Hid (∀ Y, Below w.heap.size w Y → crcw.Tab Y) := fun Y hY => ht.below hY ht.lt
  have HSL := hide (scan_lens l (by omega))
  obtain ⟨oa, cap, rfl, _⟩ := h
  clear ht
  go_enter Tryd.func5, Tryd.ntmps5
  go_wp2_with fail
  refine (copy_any w _ l HR.out (by omega)).mono ?_
  rintro r w1 ⟨v1, rfl, h1, b1⟩
  have H1 := hide (ow_of h1)
  have HB1 := hide b1
  obtain ⟨o1, c1, rfl⟩ := (rd_own h1).len
  clear h1 b1
  go_wp2_with fail
  refine (copy_any w1 _ l (HR.out.below HB1.out) (by omega)).mono ?_
  rintro r w2 ⟨v2, rfl, h2, b2⟩
  have H2 := hide (ow_of h2)
  have H1' := hide (H1.out.below b2)
  have HB2 := hide (keepD HB1.out b2)
  obtain ⟨o2, c2, rfl⟩ := (rd_own h2).len
  clear h2 b2 H1
  go_wp2_with fail
  refine (scan_any w2 _ l (rc_own H2.out.1) (by omega) (HTE.out _ HB2.out)).mono ?_
  rintro r w3 ⟨vl, its, rfl, hps, hown, hits, b3⟩
  have HLS := hide (ls_its hown hits)
  rw [hps] at HLS
  have HB3 := hide b3
  obtain ⟨ol, cl, el⟩ := HLS.out.len
  subst el
  clear hown hits b3 hps
  go_wp2_with fail
  refine (refScan_any w3 _ l (rc_own ((H1'.out.below HB3.out).1)) (by omega)).mono ?_
  rintro r w4 ⟨vw, rfl, HLW, b4⟩
  have HLWh := hide HLW
  have HB4 := hide b4
  have HB34 := hide (keepD HB3.out b4)
  obtain ⟨ow, cw, ew⟩ := HLW.len
  subst ew
  clear HLW b4
  go_wp2_with fail
  refine (sameBytes_eq w4 _ _ l ((H2.out.below HB34.out).rd) ((H1'.out.below HB34.out).rd) (by omega)).mono ?_
  rintro r w5 ⟨rfl, b5⟩
  have HB5 := hide b5
  clear b5
  go_wp2_with fail
  refine (same_any w5 _ _ (Wl.scan l) ((HLS.out.below HB4.out).below HB5.out) (HLWh.out.below HB5.out) HSL.out.1 HSL.out.2).mono ?_
  rintro r w6 ⟨rfl, b6⟩
  have HB26 := hide (keepD (keepD HB34.out HB5.out) b6)
  have HB6 : Hid (Below w.heap.size w w6) := HB2.out.trans (HB26.out.mono HB2.out.size)
  clear b6 HLS HLWh HB3 HB4 HB34 HB5 H1'
  generalize Wl.scan l = SC at *
  by_cases h0 : l.length = 0
  · have q0 : ((l.length : Int) == 0) = true := by rw [h0]; rfl
    clear HB26 H2 HSL
    generalize l.length = n at *
    subst h0
    go_wp2
    go_ret
    exact ⟨by simp, HB6.out⟩
  · have q0 : ((l.length : Int) == 0) = false := by rw [beq_eq_false_iff_ne]; omega
    have H26 := hide (H2.out.below HB26.out)
    obtain ⟨g2, cc, e2, hg2, hg2', _⟩ := H26.out.slot (by omega)
    cases e2
    obtain ⟨k, hk⟩ : ∃ k, k = l.length / 2 := ⟨_, rfl⟩
    have hkl : k < l.length := by omega
    have hki : (l.length : Int) / 2 = (k : Int) := by omega
    have hcl := H26.out.cell k hkl
    have q1 := hcl.1
    have f1 := hcl.2
    have hX := add_one l[k]
    have HO := hide (H26.out.set k (l[k] + 1))
    have k0 : (0 : Int) ≤ (k : Int) := Int.natCast_nonneg _
    have k1 : (k : Int) < (l.length : Int) := by omega
    obtain ⟨l2, hl2⟩ : ∃ l2, l2 = l.set k (l[k] + 1) := ⟨_, rfl⟩
    have hl2n : l2.length = l.length := by rw [hl2, List.length_set]
    have HO2 : Hid (Ow (w6.setCell ⟨g2, k, none⟩ (B (l[k] + 1))) w1.heap.size w2.heap.size (.slice (some ⟨g2, 0, none⟩) l.length c2) l2) := by
      have := HO.out
      rw [← hl2, hl2n] at this
      exact this
    have HBX : Hid (Below w.heap.size w (w6.setCell ⟨g2, k, none⟩ (B (l[k] + 1)))) := HB6.out.trans (((Fr.refl [g2] w6).set ⟨g2, k, none⟩ (B (l[k] + 1)) (Or.inl (by simp))).below (fun j hj => by have := HB1.out.size; simp at hj; omega) HB6.out.size)
    have hl2b : l2.length ≤ 1048576 := by omega
    have HSL2 := hide (scan_lens l2 (by omega))
    clear HO hl2 hcl hk H26 H2 hg2 hg2'
    generalize l[k] = c at *
    generalize hc' : c + 1 = c' at *
    clear hc'
    have HL2 := hide hl2n
    clear hl2n
    go_wp2_with fail
    obtain ⟨W7, hW7⟩ : ∃ W7, W7 = w6.setCell ⟨g2, k, none⟩ (B c') := ⟨_, rfl⟩
    rw [← hW7] at HO2 HBX ⊢
    clear hW7 q1 f1
    refine (copy_any W7 _ l2 HO2.out.rd (by omega)).mono ?_
    rintro r w8 ⟨v8, rfl, h8, b8⟩
    have H8 := hide (ow_of h8)
    have HO8 := hide (HO2.out.below b8)
    have HB8 : Hid (Below w.heap.size w w8) := HBX.out.trans (b8.mono HBX.out.size)
    obtain ⟨o8, c8, rfl⟩ := (rd_own h8).len
    clear h8 b8 HO2 HBX
    go_wp2_with fail
    refine (refScan_any w8 _ l2 (rc_own H8.out.1) (by omega)).mono ?_
    rintro r w9 ⟨vo, rfl, HLO, b9⟩
    have HLOh := hide HLO
    have HO9 := hide (HO8.out.below b9)
    have HB9 : Hid (Below w.heap.size w w9) := HB8.out.trans (b9.mono HB8.out.size)
    obtain ⟨oo, co, eo⟩ := HLO.len
    subst eo
    clear HLO b9 H8 HO8 HB8
    have HRC : Hid (Rc w9 (.slice (some ⟨g2, 0, none⟩) l.length c2) l2) := rc_own HO9.out.1
    go_wp2_with fail
    refine (scan_any w9 _ l2 HRC.out (by omega) (HTE.out _ HB9.out)).mono ?_
    rintro r w10 ⟨vm, its2, rfl, hps2, hown2, hits2, b10⟩
    have HLM := hide (ls_its hown2 hits2)
    rw [hps2] at HLM
    have HB10 := hide b10
    obtain ⟨om, cm, em⟩ := HLM.out.len
    subst em
    clear hown2 hits2 b10 hps2 HRC HO9
    go_wp2_with fail
    refine (same_any w10 _ _ (Wl.scan l2) HLM.out (HLOh.out.below HB10.out) HSL2.out.1 HSL2.out.2).mono ?_
    rintro r w11 ⟨rfl, b11⟩
    have HB11 : Hid (Below w.heap.size w w11) := HB9.out.trans ((keepD HB10.out b11).mono HB9.out.size)
    clear b11
    go_wp2_with fail
    go_ret
    exact ⟨by simp, HB11.out⟩
end Go.Proofs.YtioemcikmaidoaaDoor.wl
