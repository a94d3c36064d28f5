import Derived.Test.YtjalggkhpnfbiaaDoorMRefAll
namespace Go.Proofs.YtjalggkhpnfbiaaDoor.pg
open Go.ChangeShapes Go.WideShapes Go.ChangeAt Go.RowKit Go.Proofs.YtjalggkhpnfbiaaDoor.common Go.Maps
attribute [local go_sem ↓] Go.wp_at_zero Go.wp_at_succ

set_option maxRecDepth 100000 in
set_option maxHeartbeats 1600000 in
theorem sameS_any (va vb : Value) (l : List ByteArray) (w : World) (ha : LiesS w va l) (hb : LiesS w vb l) (hs : l.length ≤ 4611686018427387904) :
    Calls Tryd.prog 20 #[va, vb] w fun e w' => e = .returned (.bool true) ∧ Below w.heap.size w w' := by
  obtain ⟨oa, ca, rfl, hca⟩ := ha
  obtain ⟨ob, cb, rfl, hcb⟩ := hb
  have HA := hide hca
  have HB := hide hcb
  clear hca hcb
  go_enter Tryd.func20, Tryd.ntmps20
  go_wp2_with fail
  go_loopw [5] (fun i wr => ∃ k : Nat, k ≤ l.length ∧ i = .int .i64 k ∧ Below w.heap.size w wr) (fun i _ => l.length - (intOf i).toNat)
  case atStart => exact ⟨0, Nat.zero_le _, rfl, Below.refl _ _⟩
  case round =>
    obtain ⟨k, hk, rfl, hnx⟩ := hrel
    by_cases hlt : k < l.length
    · have hki : (k : Int) < (l.length : Int) := by omega
      obtain ⟨b, o, rfl, hb, c0⟩ := HA.out k hlt
      obtain ⟨b', o', rfl, hb', c0'⟩ := HB.out k hlt
      have d0 := (hnx.cell (p := ⟨b, o + k, none⟩) hb).trans c0
      have d0' := (hnx.cell (p := ⟨b', o' + k, none⟩) hb').trans c0'
      have HX := hide hnx
      clear hnx c0 c0'
      generalize l[k] = p at *
      have k0 : (0 : Int) ≤ (k : Int) := Int.natCast_nonneg _
      go_wp2_with fail
      go_quiet (fail)
      go_wp2_with fail
      go_roundw
      case rel => exact ⟨k + 1, by omega, by go_num, ⟨HX.out.os, HX.out.tape, HX.out.output, HX.out.size, HX.out.block⟩⟩
      case measure => simp [intOf]; omega
    · obtain rfl : k = l.length := by omega
      have H2 := hide hnx
      clear hnx
      go_wp2_with fail
      go_ret
      exact ⟨rfl, H2.out⟩

set_option maxRecDepth 100000 in
set_option maxHeartbeats 1600000 in
theorem sameF_any (va vb : Value) (fs : List Frm) (w : World) (ha : LiesF w va fs) (hb : LiesF w vb fs) (hs : fs.length ≤ 4611686018427387904) (hfi : ∀ f ∈ fs, f.ins.length ≤ 4611686018427387904) :
    Calls Tryd.prog 21 #[va, vb] w fun e w' => e = .returned (.bool true) ∧ Below w.heap.size w w' := by
  obtain ⟨oa, ca, rfl, hca⟩ := ha
  obtain ⟨ob, cb, rfl, hcb⟩ := hb
  have HA := hide hca
  have HB := hide hcb
  clear hca hcb
  go_enter Tryd.func21, Tryd.ntmps21
  go_wp2_with fail
  go_loopw [5] (fun i wr => ∃ k : Nat, k ≤ fs.length ∧ i = .int .i64 k ∧ Below w.heap.size w wr) (fun i _ => fs.length - (intOf i).toNat)
  case atStart => exact ⟨0, Nat.zero_le _, rfl, Below.refl _ _⟩
  case round =>
    obtain ⟨k, hk, rfl, hnx⟩ := hrel
    by_cases hlt : k < fs.length
    · have hki : (k : Int) < (fs.length : Int) := by omega
      have hil := hfi fs[k] (List.getElem_mem hlt)
      have hfa := HA.out k hlt
      have hfb := HB.out k hlt
      obtain ⟨X, hXe⟩ : ∃ X, fs[k] = X := ⟨_, rfl⟩
      rw [hXe] at hil hfa hfb
      clear hXe
      obtain ⟨fa, fi, fb⟩ := X
      simp only at hil hfa hfb
      obtain ⟨b, o, v1, rfl, hb, c0, c1, c2, hI⟩ := hfa
      obtain ⟨b', o', v2, rfl, hb', c0', c1', c2', hI'⟩ := hfb
      have HX := hide hnx
      have HI1 := hide hI
      have HI2 := hide hI'
      obtain ⟨o1, c1c, rfl, _⟩ := hI
      obtain ⟨o2, c2c, rfl, _⟩ := hI'
      have d0 := (hnx.cell (p := ⟨b, o + k * 3, none⟩) hb).trans c0
      have d2 := (hnx.cell (p := ⟨b, o + k * 3 + 2, none⟩) hb).trans c2
      have d0' := (hnx.cell (p := ⟨b', o' + k * 3, none⟩) hb').trans c0'
      have d2' := (hnx.cell (p := ⟨b', o' + k * 3 + 2, none⟩) hb').trans c2'
      have y1 : ∀ Y, Below w.heap.size w Y → Y.cell? ⟨b, o + k * 3 + 1, none⟩ = some (.slice o1 fi.length c1c) := fun Y hY => (hY.cell (p := ⟨b, o + k * 3 + 1, none⟩) hb).trans c1
      have y2 : ∀ Y, Below w.heap.size w Y → Y.cell? ⟨b', o' + k * 3 + 1, none⟩ = some (.slice o2 fi.length c2c) := fun Y hY => (hY.cell (p := ⟨b', o' + k * 3 + 1, none⟩) hb').trans c1'
      have hN : ∀ n, Below w.heap.size w (wr.drewN n) := fun n => ⟨hnx.os, hnx.tape, hnx.output, hnx.size, hnx.block⟩
      have HN := hide hN
      clear hnx c0 c1 c2 c0' c1' c2' hN
      have k0 : (0 : Int) ≤ (k : Int) := Int.natCast_nonneg _
      go_wp2_with fail
      go_quiet (fail)
      go_wp2_with fail
      have hb0 := HN.out nq
      go_region_held3 (fun Y => Below w.heap.size w Y)
        (first
          | assumption
          | exact (HN.out _).drew
          | exact HN.out _
          | exact (HN.out _).trans ((by assumption : Below (wr.drewN _).heap.size (wr.drewN _) _).mono (HN.out _).size))
        ((go_at_call 42; refine (sameI_any _ _ fi _ (HI1.out.below (HN.out _)) (HI2.out.below (HN.out _)) hil).mono ?_; rintro e w5 ⟨rfl, b5⟩))
      have H5 : Hid (Below w.heap.size w w5) := by assumption
      clear b5 hb0 y1 y2
      go_wp2_with fail
      go_roundw
      case rel => exact ⟨k + 1, by omega, by go_num, H5.out⟩
      case measure => simp [intOf]; omega
    · obtain rfl : k = fs.length := by omega
      have H2 := hide hnx
      clear hnx
      go_wp2_with fail
      go_ret
      exact ⟨rfl, H2.out⟩

set_option maxRecDepth 100000 in
set_option maxHeartbeats 1600000 in
theorem samePage_any (t : ByteArray) (vL vF vL' vF' : Value) (ls : List ByteArray) (fs : List Frm) (w : World) (h1 : LiesS w vL ls) (h2 : LiesF w vF fs) (h3 : LiesS w vL' ls) (h4 : LiesF w vF' fs) (hls : ls.length ≤ 4611686018427387904) (hfs : fs.length ≤ 4611686018427387904) (hfi : ∀ f ∈ fs, f.ins.length ≤ 4611686018427387904) :
    Calls Tryd.prog 8 #[.agg #[.string t, vL, vF], .agg #[.string t, vL', vF']] w fun e w' => e = .returned (.bool true) ∧ Below w.heap.size w w' := by
  have H1 := hide h1
  have H2 := hide h2
  have H3 := hide h3
  have H4 := hide h4
  obtain ⟨o1, c1, rfl, _⟩ := h1
  obtain ⟨o2, c2, rfl, _⟩ := h2
  obtain ⟨o3, c3, rfl, _⟩ := h3
  obtain ⟨o4, c4, rfl, _⟩ := h4
  have BA : Below w.heap.size w ((w.alloc (.cells #[.string t, .slice o1 ls.length c1, .slice o2 fs.length c2] 25)).alloc (.cells #[.string t, .slice o3 ls.length c3, .slice o4 fs.length c4] 25)) := ((Below.refl _ _).alloc (Nat.le_refl _) _).alloc (by simp) _
  have HBA := hide BA
  have hp : ((w.alloc (.cells #[.string t, .slice o1 ls.length c1, .slice o2 fs.length c2] 25)).alloc (.cells #[.string t, .slice o3 ls.length c3, .slice o4 fs.length c4] 25)).heap[w.heap.size]? = some (.cells #[.string t, .slice o1 ls.length c1, .slice o2 fs.length c2] 25) := by
    show ((w.heap.push _).push _)[w.heap.size]? = _
    rw [Array.getElem?_push, if_neg (by simp), Array.getElem?_push, if_pos rfl]
  have hq : ((w.alloc (.cells #[.string t, .slice o1 ls.length c1, .slice o2 fs.length c2] 25)).alloc (.cells #[.string t, .slice o3 ls.length c3, .slice o4 fs.length c4] 25)).heap[w.heap.size + 1]? = some (.cells #[.string t, .slice o3 ls.length c3, .slice o4 fs.length c4] 25) := by
    show ((w.heap.push _).push _)[w.heap.size + 1]? = _
    rw [Array.getElem?_push, if_pos (by simp)]
  have hpl := (Array.getElem?_eq_some_iff.1 hp).1
  have hql := (Array.getElem?_eq_some_iff.1 hq).1
  have HP := hide hp
  have HQ := hide hq
  clear BA hp hq
  go_enter Tryd.func8, Tryd.ntmps8
  go_wp2_with fail
  generalize (w.alloc (.cells #[.string t, .slice o1 ls.length c1, .slice o2 fs.length c2] 25)).alloc (.cells #[.string t, .slice o3 ls.length c3, .slice o4 fs.length c4] 25) = W at *
  refine (sameS_any _ _ ls W (H1.out.below HBA.out) (H3.out.below HBA.out) hls).mono ?_
  rintro e w1 ⟨rfl, b1⟩
  have K1 := hide b1
  have hp1 := (b1.block _ hpl).trans HP.out
  have hq1 := (b1.block _ hql).trans HQ.out
  have f1 : w1.cell? ⟨w.heap.size, 2, none⟩ = some (.slice o2 fs.length c2) := by simp [World.cell?, hp1]
  have f2 : w1.cell? ⟨w.heap.size + 1, 2, none⟩ = some (.slice o4 fs.length c4) := by simp [World.cell?, hq1]
  have HZ1 := hide (HBA.out.trans (b1.mono HBA.out.size))
  clear b1 hp1 hq1
  go_wp2_with fail
  refine (sameF_any _ _ fs w1 (H2.out.below HZ1.out) (H4.out.below HZ1.out) hfs hfi).mono ?_
  rintro e w2 ⟨rfl, b2⟩
  have K2 := hide (K1.out.trans (b2.mono K1.out.size))
  have hp2 := (K2.out.block _ hpl).trans HP.out
  have hq2 := (K2.out.block _ hql).trans HQ.out
  have g1 : w2.cell? ⟨w.heap.size, 0, none⟩ = some (.string t) := by simp [World.cell?, hp2]
  have g2 : w2.cell? ⟨w.heap.size + 1, 0, none⟩ = some (.string t) := by simp [World.cell?, hq2]
  have HZ2 := hide (HZ1.out.trans (b2.mono HZ1.out.size))
  clear b2 hp2 hq2 f1 f2
  go_wp2_with fail
  go_ret
  exact ⟨rfl, HZ2.out⟩

end Go.Proofs.YtjalggkhpnfbiaaDoor.pg
