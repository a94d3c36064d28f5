import Derived.Test.YtilhfmhjgfmejaaGreatDoorMRgKit
namespace Go.Proofs.YtilhfmhjgfmejaaGreatDoor.rg
open Go.ChangeShapes Go.WideShapes Go.ChangeAt Go.RowKit Go.Proofs.YtilhfmhjgfmejaaGreatDoor.common Go.Maps
attribute [local go_sem ↓] Go.wp_at_zero Go.wp_at_succ

theorem heap_two (w : World) (o p : Obj) : ((w.alloc o).alloc p).heap[w.heap.size]? = some o ∧ ((w.alloc o).alloc p).heap[w.heap.size + 1]? = some p := by
  have h1 : ((w.alloc o).alloc p).heap = (w.heap.push o).push p := rfl
  rw [h1]
  refine ⟨?_, ?_⟩
  · rw [Array.getElem?_push, if_neg (by simp), Array.getElem?_push, if_pos rfl]
  · rw [Array.getElem?_push, if_pos (by simp)]

set_option maxRecDepth 100000 in
set_option maxHeartbeats 1600000 in
theorem sameClient_any (w : World) (x : Cli) (vR vS vR' vS' : Value) (h1 : ss.Lies w vR x.to) (h2 : ss.Lies w vS x.sc) (h3 : ss.Lies w vR' x.to) (h4 : ss.Lies w vS' x.sc) (hx : x.to.length ≤ 4611686018427387904 ∧ x.sc.length ≤ 4611686018427387904) :
    Calls Tryz.prog 41 #[.agg #[.string x.id, .bool x.pub, .string x.salt, .string x.dig, vR, vS], .agg #[.string x.id, .bool x.pub, .string x.salt, .string x.dig, vR', vS']] w fun e w' => e = .returned (.bool true) ∧ Below w.heap.size w w' := by
  obtain ⟨xi, xp, xs, xd, xt, xc⟩ := x
  simp only at h1 h2 h3 h4 hx ⊢
  have H1 := hide h1
  have H2 := hide h2
  have H3 := hide h3
  have H4 := hide h4
  obtain ⟨o1, k1, rfl, _⟩ := h1
  obtain ⟨o2, k2, rfl, _⟩ := h2
  obtain ⟨o3, k3, rfl, _⟩ := h3
  obtain ⟨o4, k4, rfl, _⟩ := h4
  obtain ⟨hp, hq⟩ := heap_two w (.cells #[.string xi, .bool xp, .string xs, .string xd, .slice o1 xt.length k1, .slice o2 xc.length k2] 45) (.cells #[.string xi, .bool xp, .string xs, .string xd, .slice o3 xt.length k3, .slice o4 xc.length k4] 45)
  have BA : Below w.heap.size w ((w.alloc (.cells #[.string xi, .bool xp, .string xs, .string xd, .slice o1 xt.length k1, .slice o2 xc.length k2] 45)).alloc (.cells #[.string xi, .bool xp, .string xs, .string xd, .slice o3 xt.length k3, .slice o4 xc.length k4] 45)) := ((Below.refl _ _).alloc (Nat.le_refl _) _).alloc (by simp) _
  have HBA := hide BA
  have hpl := (Array.getElem?_eq_some_iff.1 hp).1
  have hql := (Array.getElem?_eq_some_iff.1 hq).1
  have HP := hide hp
  have HQ := hide hq
  clear BA hp hq
  go_enter Tryz.func41, Tryz.ntmps41
  go_wp2_with fail
  generalize (w.alloc (.cells #[.string xi, .bool xp, .string xs, .string xd, .slice o1 xt.length k1, .slice o2 xc.length k2] 45)).alloc (.cells #[.string xi, .bool xp, .string xs, .string xd, .slice o3 xt.length k3, .slice o4 xc.length k4] 45) = W at *
  refine (ss.same_any _ _ xt W (H1.out.below HBA.out) (H3.out.below HBA.out) hx.1).mono ?_
  rintro e w1 ⟨rfl, b1⟩
  have K1 := hide b1
  have hp1 := (b1.block _ hpl).trans HP.out
  have hq1 := (b1.block _ hql).trans HQ.out
  have f1 : w1.cell? ⟨w.heap.size, 5, none⟩ = some (.slice o2 xc.length k2) := cell_of hp1 5
  have f2 : w1.cell? ⟨w.heap.size + 1, 5, none⟩ = some (.slice o4 xc.length k4) := cell_of hq1 5
  have HZ1 := hide (HBA.out.trans (b1.mono HBA.out.size))
  clear b1 hp1 hq1
  go_wp2_with fail
  refine (ss.same_any _ _ xc w1 (H2.out.below HZ1.out) (H4.out.below HZ1.out) hx.2).mono ?_
  rintro e w2 ⟨rfl, b2⟩
  have K2 := hide (K1.out.trans (b2.mono K1.out.size))
  have hp2 := (K2.out.block _ hpl).trans HP.out
  have hq2 := (K2.out.block _ hql).trans HQ.out
  have g0 : w2.cell? ⟨w.heap.size, 0, none⟩ = some (.string xi) := cell_of hp2 0
  have g1 : w2.cell? ⟨w.heap.size, 1, none⟩ = some (.bool xp) := cell_of hp2 1
  have g2 : w2.cell? ⟨w.heap.size, 2, none⟩ = some (.string xs) := cell_of hp2 2
  have g3 : w2.cell? ⟨w.heap.size, 2 + 1, none⟩ = some (.string xd) := cell_of hp2 3
  have g0' : w2.cell? ⟨w.heap.size + 1, 0, none⟩ = some (.string xi) := cell_of hq2 0
  have g1' : w2.cell? ⟨w.heap.size + 1, 1, none⟩ = some (.bool xp) := cell_of hq2 1
  have g2' : w2.cell? ⟨w.heap.size + 1, 2, none⟩ = some (.string xs) := cell_of hq2 2
  have g3' : w2.cell? ⟨w.heap.size + 1, 2 + 1, none⟩ = some (.string xd) := cell_of hq2 3
  have HZ2 := hide (HZ1.out.trans (b2.mono HZ1.out.size))
  clear b2 hp2 hq2 f1 f2
  go_wp2_with fail
  go_ret
  exact ⟨rfl, HZ2.out⟩

set_option maxRecDepth 100000 in
set_option maxHeartbeats 3200000 in
theorem sameConfig_any (w : World) (t : Ten) (vC vU vC' vU' : Value) (cs : List Cli) (us : List Usr) (hC : LiesC w vC cs) (hU : LiesU w vU us) (hC' : LiesC w vC' cs) (hU' : LiesU w vU' us) (hcs : cs.length ≤ 4611686018427387904) (hus : us.length ≤ 4611686018427387904) (hci : ∀ x ∈ cs, x.to.length ≤ 4611686018427387904 ∧ x.sc.length ≤ 4611686018427387904) :
    Calls Tryz.prog 19 #[.agg #[.int .i64 t.a0, .int .i64 t.a1, .int .i64 t.a2, .int .i64 t.a3, .int .i64 t.a4, .int .i64 t.a5, .int .i64 t.a6, .int .i64 t.a7, .int .i64 t.a8, .int .i64 t.a9, vC, vU], .agg #[.int .i64 t.a0, .int .i64 t.a1, .int .i64 t.a2, .int .i64 t.a3, .int .i64 t.a4, .int .i64 t.a5, .int .i64 t.a6, .int .i64 t.a7, .int .i64 t.a8, .int .i64 t.a9, vC', vU']] w fun e w' => e = .returned (.bool true) ∧ Below w.heap.size w w' := by
  obtain ⟨oc, ck, rfl, hCc⟩ := hC
  obtain ⟨ou, uk, rfl, hUc⟩ := hU
  obtain ⟨oc', ck', rfl, hCc'⟩ := hC'
  obtain ⟨ou', uk', rfl, hUc'⟩ := hU'
  obtain ⟨hp, hq⟩ := heap_two w (.cells #[.int .i64 t.a0, .int .i64 t.a1, .int .i64 t.a2, .int .i64 t.a3, .int .i64 t.a4, .int .i64 t.a5, .int .i64 t.a6, .int .i64 t.a7, .int .i64 t.a8, .int .i64 t.a9, .slice oc cs.length ck, .slice ou us.length uk] 25) (.cells #[.int .i64 t.a0, .int .i64 t.a1, .int .i64 t.a2, .int .i64 t.a3, .int .i64 t.a4, .int .i64 t.a5, .int .i64 t.a6, .int .i64 t.a7, .int .i64 t.a8, .int .i64 t.a9, .slice oc' cs.length ck', .slice ou' us.length uk'] 25)
  have BA : Below w.heap.size w ((w.alloc (.cells #[.int .i64 t.a0, .int .i64 t.a1, .int .i64 t.a2, .int .i64 t.a3, .int .i64 t.a4, .int .i64 t.a5, .int .i64 t.a6, .int .i64 t.a7, .int .i64 t.a8, .int .i64 t.a9, .slice oc cs.length ck, .slice ou us.length uk] 25)).alloc (.cells #[.int .i64 t.a0, .int .i64 t.a1, .int .i64 t.a2, .int .i64 t.a3, .int .i64 t.a4, .int .i64 t.a5, .int .i64 t.a6, .int .i64 t.a7, .int .i64 t.a8, .int .i64 t.a9, .slice oc' cs.length ck', .slice ou' us.length uk'] 25)) := ((Below.refl _ _).alloc (Nat.le_refl _) _).alloc (by simp) _
  have HBA := hide BA
  have HP := hide hp
  have HQ := hide hq
  have H1 := hide hCc
  have H2 := hide hUc
  have H3 := hide hCc'
  have H4 := hide hUc'
  have HCI := hide hci
  clear BA hp hq hCc hUc hCc' hUc' hci
  go_enter Tryz.func19, Tryz.ntmps19
  go_wp2_with fail
  go_loopw [5] (fun i wr => ∃ k : Nat, k ≤ cs.length ∧ i = .int .i64 k ∧ Hid (Below w.heap.size w wr) ∧ Hid (wr.heap[w.heap.size]? = some (.cells #[.int .i64 t.a0, .int .i64 t.a1, .int .i64 t.a2, .int .i64 t.a3, .int .i64 t.a4, .int .i64 t.a5, .int .i64 t.a6, .int .i64 t.a7, .int .i64 t.a8, .int .i64 t.a9, .slice oc cs.length ck, .slice ou us.length uk] 25)) ∧ Hid (wr.heap[w.heap.size + 1]? = some (.cells #[.int .i64 t.a0, .int .i64 t.a1, .int .i64 t.a2, .int .i64 t.a3, .int .i64 t.a4, .int .i64 t.a5, .int .i64 t.a6, .int .i64 t.a7, .int .i64 t.a8, .int .i64 t.a9, .slice oc' cs.length ck', .slice ou' us.length uk'] 25))) (fun i _ => cs.length - (intOf i).toNat)
  case atStart => exact ⟨0, Nat.zero_le _, rfl, HBA, HP, HQ⟩
  case round =>
    obtain ⟨k, hk, rfl, hnx, hp, hq⟩ := hrel
    have p0 : wr.cell? ⟨w.heap.size, 10, none⟩ = some (.slice oc cs.length ck) := cell_of hp.out 10
    by_cases hlt : k < cs.length
    · have hki : (k : Int) < (cs.length : Int) := by omega
      have k0 : (0 : Int) ≤ (k : Int) := Int.natCast_nonneg _
      have hil := HCI.out cs[k] (List.getElem_mem hlt)
      have hfa := H1.out k hlt
      have hfb := H3.out k hlt
      obtain ⟨X, hXe⟩ : ∃ X, cs[k] = X := ⟨_, rfl⟩
      rw [hXe] at hil hfa hfb
      clear hXe
      obtain ⟨b, o, vR, vS, rfl, hb, hca⟩ := hfa
      obtain ⟨b', o', vR', vS', rfl, hb', hcb⟩ := hfb
      have hPl := (Array.getElem?_eq_some_iff.1 hp.out).1
      have hQl := (Array.getElem?_eq_some_iff.1 hq.out).1
      have yp : ∀ Y, Below wr.heap.size wr Y → Y.cell? ⟨w.heap.size, 10, none⟩ = some (.slice (some ⟨b, o, none⟩) cs.length ck) := fun Y hY => (hY.cell (p := ⟨w.heap.size, 10, none⟩) hPl).trans p0
      have yq : ∀ Y, Below wr.heap.size wr Y → Y.cell? ⟨w.heap.size + 1, 10, none⟩ = some (.slice (some ⟨b', o', none⟩) cs.length ck') := fun Y hY => (hY.cell (p := ⟨w.heap.size + 1, 10, none⟩) hQl).trans (cell_of hq.out 10)
      have hbl : b < wr.heap.size := Nat.lt_of_lt_of_le hb hnx.out.size
      have hbl' : b' < wr.heap.size := Nat.lt_of_lt_of_le hb' hnx.out.size
      have HCA := hide ((hca.below hnx.out hb))
      have HCB := hide ((hcb.below hnx.out hb'))
      obtain ⟨xi, xp, xs, xd, xt, xc⟩ := X
      have LA := HCA.out
      have LB := HCB.out
      obtain ⟨a0, a1, a2, a3, a4, a5, hT, hS⟩ := LA
      obtain ⟨b0, b1, b2, b3, b4, b5, hT', hS'⟩ := LB
      simp only at hil a0 a1 a2 a3 b0 b1 b2 b3 hT hS hT' hS'
      have HT := hide hT
      have HS := hide hS
      have HT' := hide hT'
      have HS' := hide hS'
      have ya0 : ∀ Y, Below wr.heap.size wr Y → Y.cell? ⟨b, o + k * 6, none⟩ = some (.string xi) := fun Y hY => (hY.cell (p := ⟨b, o + k * 6, none⟩) hbl).trans a0
      have ya1 : ∀ Y, Below wr.heap.size wr Y → Y.cell? ⟨b, o + k * 6 + 1, none⟩ = some (.bool xp) := fun Y hY => (hY.cell (p := ⟨b, o + k * 6 + 1, none⟩) hbl).trans a1
      have ya2 : ∀ Y, Below wr.heap.size wr Y → Y.cell? ⟨b, o + k * 6 + 2, none⟩ = some (.string xs) := fun Y hY => (hY.cell (p := ⟨b, o + k * 6 + 2, none⟩) hbl).trans a2
      have ya3 : ∀ Y, Below wr.heap.size wr Y → Y.cell? ⟨b, o + k * 6 + 3, none⟩ = some (.string xd) := fun Y hY => (hY.cell (p := ⟨b, o + k * 6 + 3, none⟩) hbl).trans a3
      have ya4 : ∀ Y, Below wr.heap.size wr Y → Y.cell? ⟨b, o + k * 6 + 4, none⟩ = some vR := fun Y hY => (hY.cell (p := ⟨b, o + k * 6 + 4, none⟩) hbl).trans a4
      have ya5 : ∀ Y, Below wr.heap.size wr Y → Y.cell? ⟨b, o + k * 6 + 5, none⟩ = some vS := fun Y hY => (hY.cell (p := ⟨b, o + k * 6 + 5, none⟩) hbl).trans a5
      have yb0 : ∀ Y, Below wr.heap.size wr Y → Y.cell? ⟨b', o' + k * 6, none⟩ = some (.string xi) := fun Y hY => (hY.cell (p := ⟨b', o' + k * 6, none⟩) hbl').trans b0
      have yb1 : ∀ Y, Below wr.heap.size wr Y → Y.cell? ⟨b', o' + k * 6 + 1, none⟩ = some (.bool xp) := fun Y hY => (hY.cell (p := ⟨b', o' + k * 6 + 1, none⟩) hbl').trans b1
      have yb2 : ∀ Y, Below wr.heap.size wr Y → Y.cell? ⟨b', o' + k * 6 + 2, none⟩ = some (.string xs) := fun Y hY => (hY.cell (p := ⟨b', o' + k * 6 + 2, none⟩) hbl').trans b2
      have yb3 : ∀ Y, Below wr.heap.size wr Y → Y.cell? ⟨b', o' + k * 6 + 3, none⟩ = some (.string xd) := fun Y hY => (hY.cell (p := ⟨b', o' + k * 6 + 3, none⟩) hbl').trans b3
      have yb4 : ∀ Y, Below wr.heap.size wr Y → Y.cell? ⟨b', o' + k * 6 + 4, none⟩ = some vR' := fun Y hY => (hY.cell (p := ⟨b', o' + k * 6 + 4, none⟩) hbl').trans b4
      have yb5 : ∀ Y, Below wr.heap.size wr Y → Y.cell? ⟨b', o' + k * 6 + 5, none⟩ = some vS' := fun Y hY => (hY.cell (p := ⟨b', o' + k * 6 + 5, none⟩) hbl').trans b5
      have hb0 : Below wr.heap.size wr wr := Below.refl _ _
      clear a0 a1 a2 a3 a4 a5 b0 b1 b2 b3 b4 b5 hT hS hT' hS' hca hcb
      go_wp2_with fail
      go_region_held3 (fun Y => Below wr.heap.size wr Y)
        (first
          | assumption
          | exact (Below.refl _ _).drew
          | exact Below.refl _ _
          | exact (Below.refl _ wr).drew.trans (by assumption : Below wr.drew.heap.size wr.drew _))
        ((go_at_call 41; refine (sameClient_any _ ⟨xi, xp, xs, xd, xt, xc⟩ vR vS vR' vS' (HT.out.below (by assumption)) (HS.out.below (by assumption)) (HT'.out.below (by assumption)) (HS'.out.below (by assumption)) hil).mono ?_; rintro e w5 ⟨rfl, b5⟩))
      have H5 : Hid (Below wr.heap.size wr w5) := by assumption
      clear b5 yp yq ya0 ya1 ya2 ya3 ya4 ya5 yb0 yb1 yb2 yb3 yb4 yb5 hb0
      go_wp2_with fail
      go_roundw
      case rel => exact ⟨k + 1, by omega, by go_num, hnx.out.trans (H5.out.mono hnx.out.size), (H5.out.block _ hPl).trans hp.out, (H5.out.block _ hQl).trans hq.out⟩
      case measure => simp [intOf]; omega
    · obtain rfl : k = cs.length := by omega
      go_wp2_with fail
      go_loopw [7] (fun i wr => ∃ k : Nat, k ≤ us.length ∧ i = .int .i64 k ∧ Hid (Below w.heap.size w wr) ∧ Hid (wr.heap[w.heap.size]? = some (.cells #[.int .i64 t.a0, .int .i64 t.a1, .int .i64 t.a2, .int .i64 t.a3, .int .i64 t.a4, .int .i64 t.a5, .int .i64 t.a6, .int .i64 t.a7, .int .i64 t.a8, .int .i64 t.a9, .slice oc cs.length ck, .slice ou us.length uk] 25)) ∧ Hid (wr.heap[w.heap.size + 1]? = some (.cells #[.int .i64 t.a0, .int .i64 t.a1, .int .i64 t.a2, .int .i64 t.a3, .int .i64 t.a4, .int .i64 t.a5, .int .i64 t.a6, .int .i64 t.a7, .int .i64 t.a8, .int .i64 t.a9, .slice oc' cs.length ck', .slice ou' us.length uk'] 25))) (fun i _ => us.length - (intOf i).toNat)
      case atStart => exact ⟨0, Nat.zero_le _, rfl, hnx, hp, hq⟩
      case round =>
        clear p0
        obtain ⟨k, hk, rfl, hnx, hp, hq⟩ := hrel
        have p0 : wr.cell? ⟨w.heap.size, 11, none⟩ = some (.slice ou us.length uk) := cell_of hp.out 11
        have p1 : wr.cell? ⟨w.heap.size + 1, 11, none⟩ = some (.slice ou' us.length uk') := cell_of hq.out 11
        by_cases hlt : k < us.length
        · have hki : (k : Int) < (us.length : Int) := by omega
          have k0 : (0 : Int) ≤ (k : Int) := Int.natCast_nonneg _
          have hfa := H2.out k hlt
          have hfb := H4.out k hlt
          obtain ⟨X, hXe⟩ : ∃ X, us[k] = X := ⟨_, rfl⟩
          rw [hXe] at hfa hfb
          clear hXe
          obtain ⟨xn, xs, xd⟩ := X
          obtain ⟨b, o, rfl, hb, a0, a1, a2⟩ := hfa
          obtain ⟨b', o', rfl, hb', b0, b1, b2⟩ := hfb
          simp only at a0 a1 a2 b0 b1 b2
          have d0 := (hnx.out.cell (p := ⟨b, o + k * 3, none⟩) hb).trans a0
          have d1 := (hnx.out.cell (p := ⟨b, o + k * 3 + 1, none⟩) hb).trans a1
          have d2 := (hnx.out.cell (p := ⟨b, o + k * 3 + 2, none⟩) hb).trans a2
          have d0' := (hnx.out.cell (p := ⟨b', o' + k * 3, none⟩) hb').trans b0
          have d1' := (hnx.out.cell (p := ⟨b', o' + k * 3 + 1, none⟩) hb').trans b1
          have d2' := (hnx.out.cell (p := ⟨b', o' + k * 3 + 2, none⟩) hb').trans b2
          clear a0 a1 a2 b0 b1 b2
          go_wp2_with fail
          go_quiet (fail)
          go_wp2_with fail
          go_roundw
          case rel => exact ⟨k + 1, by omega, by go_num, ⟨hnx.out.os, hnx.out.tape, hnx.out.output, hnx.out.size, hnx.out.block⟩, hp, hq⟩
          case measure => simp [intOf]; omega
        · obtain rfl : k = us.length := by omega
          go_wp2_with fail
          go_ret
          exact ⟨rfl, hnx.out⟩
end Go.Proofs.YtilhfmhjgfmejaaGreatDoor.rg
