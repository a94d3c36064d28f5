import Derived.Test.YtbchhpjpfieljaaRgTwin
import Derived.Test.YtbchhpjpfieljaaRgReg
namespace Go.Proofs.Ytbchhpjpfieljaa.rg
open Go.ChangeShapes Go.WideShapes Go.ChangeAt Go.RowKit Go.Proofs.Ytbchhpjpfieljaa.common Go.Proofs.Ytbchhpjpfieljaa.bk Go.Maps
attribute [local go_sem ↓] Go.wp_at_zero Go.wp_at_succ

theorem range_pre {w : World} {F : Nat} {a : Array Value} {t : TypeId} (h : w.heap[F]? = some (.cells a t)) (l : List Value) (hl : ∀ (j : Nat) (v : Value), l[j]? = some v → a[j]? = some v) : w.rangeAt F 0 l := fun j v hv => by
  rw [Nat.zero_add]
  simp only [World.cell?, h]
  simpa using hl j v hv
theorem pre_of {l m : List Value} : ∀ (j : Nat) (v : Value), l[j]? = some v → (l ++ m).toArray[j]? = some v := fun j v hv => by
  have : (l ++ m)[j]? = some v := by
    rw [List.getElem?_append_left ((List.getElem?_eq_some_iff.1 hv).1)]
    exact hv
  simpa using this

set_option maxRecDepth 100000 in
set_option maxHeartbeats 6400000 in
theorem lawFind (w : World) (t : Ten) (vC vU : Value) (cs : List Cli) (us : List Usr) (id rd : ByteArray) (hC : LiesC w vC cs) (hU : LiesU w vU us) (hcs : cs.length * 104 ≤ 140737488355328) (hus : us.length * 48 ≤ 140737488355328) (hci : ∀ x ∈ cs, x.to.length * 16 ≤ 140737488355328 ∧ x.sc.length * 16 ≤ 140737488355328) :
    Calls Try.prog 3 #[.agg #[.int .i64 t.a0, .int .i64 t.a1, .int .i64 t.a2, .int .i64 t.a3, .int .i64 t.a4, .int .i64 t.a5, .int .i64 t.a6, .int .i64 t.a7, .int .i64 t.a8, .int .i64 t.a9, vC, vU, .string id, .string rd]] w fun e w' => e = .returned (.bool true) ∧ Below w.heap.size w w' := by
  have HCw := hide hC
  have HUw := hide hU
  have hci2 : ∀ x ∈ cs, x.to.length ≤ 4611686018427387904 ∧ x.sc.length ≤ 4611686018427387904 := fun x hx => by have := hci x hx; omega
  have HCI := hide hci
  have HCI2 := hide hci2
  have hX : ((cliBy cs id).getD zc).to.length ≤ 4611686018427387904 ∧ ((cliBy cs id).getD zc).sc.length ≤ 4611686018427387904 := by
    cases h : cliBy cs id with
    | none => exact ⟨Nat.zero_le _, Nat.zero_le _⟩
    | some x => exact hci2 x (List.mem_of_find?_eq_some h)
  have HF1 := hide (fun (Y : World) v u (h : LiesC Y v cs) => findClient_any Y t v u cs id h (by omega) hci)
  have HF2 := hide (fun (Y : World) v u (h : LiesC Y v cs) => refFindClient_any Y t v u cs id h (by omega) hci)
  have HF3 := hide (fun (Y : World) v u (h : LiesU Y u us) => findUser_any Y t v u us id h (by omega))
  have HF4 := hide (fun (Y : World) v u (h : LiesU Y u us) => refFindUser_any Y t v u us id h (by omega))
  have HTW := hide (fun (Y : World) v u (h1 : LiesC Y v cs) (h2 : LiesU Y u us) => twin_any Y t v u cs us h1 h2 hcs hus hci)
  generalize (cliBy cs id).getD zc = X at *
  generalize (cliBy cs id).isSome = ok at *
  generalize (usrBy us id).getD zu = Z at *
  generalize (usrBy us id).isSome = okU at *
  obtain ⟨oc, ck, rfl, _⟩ := hC
  obtain ⟨ou, uk, rfl, _⟩ := hU
  have BA : Below w.heap.size w (w.alloc (.cells #[.int .i64 t.a0, .int .i64 t.a1, .int .i64 t.a2, .int .i64 t.a3, .int .i64 t.a4, .int .i64 t.a5, .int .i64 t.a6, .int .i64 t.a7, .int .i64 t.a8, .int .i64 t.a9, .slice oc cs.length ck, .slice ou us.length uk, .string id, .string rd] 27)) := (Below.refl _ _).alloc (Nat.le_refl _) _
  have hA := heap_new w (.cells #[.int .i64 t.a0, .int .i64 t.a1, .int .i64 t.a2, .int .i64 t.a3, .int .i64 t.a4, .int .i64 t.a5, .int .i64 t.a6, .int .i64 t.a7, .int .i64 t.a8, .int .i64 t.a9, .slice oc cs.length ck, .slice ou us.length uk, .string id, .string rd] 27)
  have HBA := hide BA
  have HA := hide hA
  have hAl := (Array.getElem?_eq_some_iff.1 hA).1
  have HRA : Hid ((w.alloc (.cells #[.int .i64 t.a0, .int .i64 t.a1, .int .i64 t.a2, .int .i64 t.a3, .int .i64 t.a4, .int .i64 t.a5, .int .i64 t.a6, .int .i64 t.a7, .int .i64 t.a8, .int .i64 t.a9, .slice oc cs.length ck, .slice ou us.length uk, .string id, .string rd] 27)).rangeAt w.heap.size 0 [.int .i64 t.a0, .int .i64 t.a1, .int .i64 t.a2, .int .i64 t.a3, .int .i64 t.a4, .int .i64 t.a5, .int .i64 t.a6, .int .i64 t.a7, .int .i64 t.a8, .int .i64 t.a9, .slice oc cs.length ck, .slice ou us.length uk]) := range_pre hA _ (pre_of (m := [.string id, .string rd]))
  clear BA hA hci hci2
  go_enter Try.func3, Try.ntmps3
  go_wp2_with (refine wpList_load_mid rfl 25 (.tmp 14) rfl w.heap.size 0 rfl _ _ HRA.out Try.underlying25 rfl sizeCf ?_)
  generalize w.alloc (.cells #[.int .i64 t.a0, .int .i64 t.a1, .int .i64 t.a2, .int .i64 t.a3, .int .i64 t.a4, .int .i64 t.a5, .int .i64 t.a6, .int .i64 t.a7, .int .i64 t.a8, .int .i64 t.a9, .slice oc cs.length ck, .slice ou us.length uk, .string id, .string rd] 27) = W at *
  refine (HTW.out W _ _ (HCw.out.below HBA.out) (HUw.out.below HBA.out)).mono ?_
  rintro e w1 ⟨vC', vU', rfl, hC1, hU1, b1⟩
  have BQ : Below w1.heap.size w1 (w1.alloc (.cells #[.int .i64 t.a0, .int .i64 t.a1, .int .i64 t.a2, .int .i64 t.a3, .int .i64 t.a4, .int .i64 t.a5, .int .i64 t.a6, .int .i64 t.a7, .int .i64 t.a8, .int .i64 t.a9, vC', vU'] 25)) := (Below.refl _ _).alloc (Nat.le_refl _) _
  have hQ := heap_new w1 (.cells #[.int .i64 t.a0, .int .i64 t.a1, .int .i64 t.a2, .int .i64 t.a3, .int .i64 t.a4, .int .i64 t.a5, .int .i64 t.a6, .int .i64 t.a7, .int .i64 t.a8, .int .i64 t.a9, vC', vU'] 25)
  have HLQ := hide (hC1.below BQ)
  have HUQ := hide (hU1.below BQ)
  have HQ := hide hQ
  have hQl := (Array.getElem?_eq_some_iff.1 hQ).1
  have HWQ := hide (b1.trans (BQ.mono b1.size))
  have hA1 := (HWQ.out.block _ hAl).trans HA.out
  have HRA1 : Hid ((w1.alloc (.cells #[.int .i64 t.a0, .int .i64 t.a1, .int .i64 t.a2, .int .i64 t.a3, .int .i64 t.a4, .int .i64 t.a5, .int .i64 t.a6, .int .i64 t.a7, .int .i64 t.a8, .int .i64 t.a9, vC', vU'] 25)).rangeAt w.heap.size 0 [.int .i64 t.a0, .int .i64 t.a1, .int .i64 t.a2, .int .i64 t.a3, .int .i64 t.a4, .int .i64 t.a5, .int .i64 t.a6, .int .i64 t.a7, .int .i64 t.a8, .int .i64 t.a9, .slice oc cs.length ck, .slice ou us.length uk]) := range_pre hA1 _ (pre_of (m := [.string id, .string rd]))
  have i1 : (w1.alloc (.cells #[.int .i64 t.a0, .int .i64 t.a1, .int .i64 t.a2, .int .i64 t.a3, .int .i64 t.a4, .int .i64 t.a5, .int .i64 t.a6, .int .i64 t.a7, .int .i64 t.a8, .int .i64 t.a9, vC', vU'] 25)).cell? ⟨w.heap.size, 12, none⟩ = some (.string id) := cell_of hA1 12
  obtain ⟨oc', ck', rfl, _⟩ := hC1
  obtain ⟨ou', uk', rfl, _⟩ := hU1
  clear b1 BQ hQ hA1 HRA HTW
  go_wp2_with (refine wpList_load_mid rfl 25 (.tmp 18) rfl w.heap.size 0 rfl _ _ HRA1.out Try.underlying25 rfl sizeCf ?_)
  generalize w1.alloc (.cells #[.int .i64 t.a0, .int .i64 t.a1, .int .i64 t.a2, .int .i64 t.a3, .int .i64 t.a4, .int .i64 t.a5, .int .i64 t.a6, .int .i64 t.a7, .int .i64 t.a8, .int .i64 t.a9, .slice oc' cs.length ck', .slice ou' us.length uk'] 25) = V at *
  have HBV := hide (HBA.out.trans (HWQ.out.mono HBA.out.size))
  refine (HF1.out V _ _ (HCw.out.below HBV.out)).mono ?_
  rintro e w2 ⟨vR, vS, rfl, hR2, hS2, b2⟩
  have B3 : Below w2.heap.size w2 (w2.alloc (.cells #[.string X.id, .bool X.pub, .string X.salt, .string X.dig, vR, vS] 33)) := (Below.refl _ _).alloc (Nat.le_refl _) _
  have h3 := heap_new w2 (.cells #[.string X.id, .bool X.pub, .string X.salt, .string X.dig, vR, vS] 33)
  have h3l := (Array.getElem?_eq_some_iff.1 h3).1
  have HV3 := hide (b2.trans (B3.mono b2.size))
  have HR3 := hide (hR2.below B3)
  have HS3 := hide (hS2.below B3)
  have H3 := hide h3
  have hQ3 := (HV3.out.block _ hQl).trans HQ.out
  have HRQ3 := hide (range_of (l := [.int .i64 t.a0, .int .i64 t.a1, .int .i64 t.a2, .int .i64 t.a3, .int .i64 t.a4, .int .i64 t.a5, .int .i64 t.a6, .int .i64 t.a7, .int .i64 t.a8, .int .i64 t.a9, .slice oc' cs.length ck', .slice ou' us.length uk']) hQ3)
  have i3 : (w2.alloc (.cells #[.string X.id, .bool X.pub, .string X.salt, .string X.dig, vR, vS] 33)).cell? ⟨w.heap.size, 12, none⟩ = some (.string id) := (HV3.out.cell (p := ⟨w.heap.size, 12, none⟩) (World.block_lt_of_cell? _ _ i1)).trans i1
  obtain ⟨oR, kR, rfl, _⟩ := hR2
  obtain ⟨oS, kS, rfl, _⟩ := hS2
  clear b2 B3 h3 hQ3 HRA1
  go_wp2_with (refine wpList_load_mid rfl 25 (.tmp 3) rfl w1.heap.size 0 rfl _ _ HRQ3.out Try.underlying25 rfl sizeCf ?_)
  generalize w2.alloc (.cells #[.string X.id, .bool X.pub, .string X.salt, .string X.dig, .slice oR X.to.length kR, .slice oS X.sc.length kS] 33) = U at *
  refine (HF2.out U _ _ (HLQ.out.below HV3.out)).mono ?_
  rintro e w4 ⟨vR', vS', rfl, hR4, hS4, b4⟩
  have B5 : Below w4.heap.size w4 (w4.alloc (.cells #[.string X.id, .bool X.pub, .string X.salt, .string X.dig, vR', vS'] 33)) := (Below.refl _ _).alloc (Nat.le_refl _) _
  have h5 := heap_new w4 (.cells #[.string X.id, .bool X.pub, .string X.salt, .string X.dig, vR', vS'] 33)
  have HU5 := hide (b4.trans (B5.mono b4.size))
  have HR5 := hide (hR4.below B5)
  have HS5 := hide (hS4.below B5)
  have HRa := hide (range_of (l := [.string X.id, .bool X.pub, .string X.salt, .string X.dig, .slice oR X.to.length kR, .slice oS X.sc.length kS]) ((HU5.out.block _ h3l).trans H3.out))
  have HRb := hide (range_of (l := [.string X.id, .bool X.pub, .string X.salt, .string X.dig, vR', vS']) h5)
  obtain ⟨oR', kR', rfl, _⟩ := hR4
  obtain ⟨oS', kS', rfl, _⟩ := hS4
  clear b4 B5 h5 HRQ3 HF1 HF2
  go_wp2_with (first
    | (refine wpList_load_mid rfl 33 (.tmp 4) rfl w2.heap.size 0 rfl _ _ HRa.out Try.underlying33 rfl sizeCl ?_)
    | (refine wpList_load_mid rfl 33 (.tmp 6) rfl w4.heap.size 0 rfl _ _ HRb.out Try.underlying33 rfl sizeCl ?_))
  generalize w4.alloc (.cells #[.string X.id, .bool X.pub, .string X.salt, .string X.dig, .slice oR' X.to.length kR', .slice oS' X.sc.length kS'] 33) = T at *
  refine (sameClient_any T X _ _ _ _ (HR3.out.below HU5.out) (HS3.out.below HU5.out) HR5.out HS5.out hX).mono ?_
  rintro e w6 ⟨rfl, b6⟩
  have HV6 := hide ((HV3.out.trans (HU5.out.mono HV3.out.size)).trans (b6.mono (Nat.le_trans HV3.out.size HU5.out.size)))
  have hA6 := (HV6.out.block _ (Nat.lt_of_lt_of_le hAl HWQ.out.size)).trans ((HWQ.out.block _ hAl).trans HA.out)
  have hQ6 := (HV6.out.block _ hQl).trans HQ.out
  have HRA6 : Hid (w6.rangeAt w.heap.size 0 [.int .i64 t.a0, .int .i64 t.a1, .int .i64 t.a2, .int .i64 t.a3, .int .i64 t.a4, .int .i64 t.a5, .int .i64 t.a6, .int .i64 t.a7, .int .i64 t.a8, .int .i64 t.a9, .slice oc cs.length ck, .slice ou us.length uk]) := range_pre hA6 _ (pre_of (m := [.string id, .string rd]))
  have i6 : w6.cell? ⟨w.heap.size, 12, none⟩ = some (.string id) := cell_of hA6 12
  have HA6 := hide hA6
  have HQ6 := hide hQ6
  have hA6l := (Array.getElem?_eq_some_iff.1 hA6).1
  have hQ6l := (Array.getElem?_eq_some_iff.1 hQ6).1
  have HB6 := hide (HBV.out.trans (HV6.out.mono HBV.out.size))
  have HC6 := hide (HLQ.out.below HV6.out)
  have HD6 := hide (HUQ.out.below HV6.out)
  clear b6 hA6 hQ6 i1 i3 HRa HRb HR3 HS3 HR5 HS5 HU5 HV3 HV6 HA HQ H3 HWQ HBA HBV HLQ HUQ hAl hQl h3l
  go_wp2_with (refine wpList_load_mid rfl 25 (.tmp 43) rfl w.heap.size 0 rfl _ _ HRA6.out Try.underlying25 rfl sizeCf ?_)
  refine (HF3.out w6 _ _ (HUw.out.below HB6.out)).mono ?_
  rintro e w7 ⟨rfl, b7⟩
  have B8 : Below w7.heap.size w7 (w7.alloc (.cells #[.string Z.name, .string Z.salt, .string Z.dig] 38)) := (Below.refl _ _).alloc (Nat.le_refl _) _
  have h8 := heap_new w7 (.cells #[.string Z.name, .string Z.salt, .string Z.dig] 38)
  have h8l := (Array.getElem?_eq_some_iff.1 h8).1
  have HV8 := hide (b7.trans (B8.mono b7.size))
  have H8 := hide h8
  have HRQ8 := hide (range_of (l := [.int .i64 t.a0, .int .i64 t.a1, .int .i64 t.a2, .int .i64 t.a3, .int .i64 t.a4, .int .i64 t.a5, .int .i64 t.a6, .int .i64 t.a7, .int .i64 t.a8, .int .i64 t.a9, .slice oc' cs.length ck', .slice ou' us.length uk']) ((HV8.out.block _ hQ6l).trans HQ6.out))
  have i8 : (w7.alloc (.cells #[.string Z.name, .string Z.salt, .string Z.dig] 38)).cell? ⟨w.heap.size, 12, none⟩ = some (.string id) := (HV8.out.cell (p := ⟨w.heap.size, 12, none⟩) hA6l).trans i6
  clear b7 B8 h8 HRA6
  go_wp2_with (refine wpList_load_mid rfl 25 (.tmp 3) rfl w1.heap.size 0 rfl _ _ HRQ8.out Try.underlying25 rfl sizeCf ?_)
  generalize w7.alloc (.cells #[.string Z.name, .string Z.salt, .string Z.dig] 38) = U8 at *
  refine (HF4.out U8 _ _ (HD6.out.below HV8.out)).mono ?_
  rintro e w9 ⟨rfl, b9⟩
  have B10 : Below w9.heap.size w9 (w9.alloc (.cells #[.string Z.name, .string Z.salt, .string Z.dig] 38)) := (Below.refl _ _).alloc (Nat.le_refl _) _
  have h10 := heap_new w9 (.cells #[.string Z.name, .string Z.salt, .string Z.dig] 38)
  have HU10 := hide (b9.trans (B10.mono b9.size))
  have HRu := hide (range_of (l := [.string Z.name, .string Z.salt, .string Z.dig]) ((HU10.out.block _ h8l).trans H8.out))
  have HRv := hide (range_of (l := [.string Z.name, .string Z.salt, .string Z.dig]) h10)
  have HV10 := hide (HV8.out.trans (HU10.out.mono HV8.out.size))
  have HA10 := hide ((HV10.out.block _ hA6l).trans HA6.out)
  have HQ10 := hide ((HV10.out.block _ hQ6l).trans HQ6.out)
  have HB10 := hide (HB6.out.trans (HV10.out.mono HB6.out.size))
  have HC10 := hide (HC6.out.below HV10.out)
  have HD10 := hide (HD6.out.below HV10.out)
  clear b9 B10 h10 HRQ8 HF3 HF4 i6 i8 HV8 HU10 H8 h8l HV10 HA6 HQ6 HB6 HC6 HD6 hA6l hQ6l
  go_wp2_with (first
    | (refine wpList_load_mid rfl 38 (.tmp 9) rfl w7.heap.size 0 rfl _ _ HRu.out Try.underlying38 rfl sizeUs ?_)
    | (refine wpList_load_mid rfl 38 (.tmp 10) rfl w9.heap.size 0 rfl _ _ HRv.out Try.underlying38 rfl sizeUs ?_))
  generalize w9.alloc (.cells #[.string Z.name, .string Z.salt, .string Z.dig] 38) = T10 at *
  have hAl := (Array.getElem?_eq_some_iff.1 HA10.out).1
  have hQl := (Array.getElem?_eq_some_iff.1 HQ10.out).1
  go_loopw [11] (fun i wr => ∃ k : Nat, k ≤ cs.length ∧ i = .int .i64 k ∧ Hid (Below T10.heap.size T10 wr)) (fun i _ => cs.length - (intOf i).toNat)
  case atStart => exact ⟨0, Nat.zero_le _, rfl, Below.refl _ _⟩
  case round =>
    clear HRu HRv
    obtain ⟨k, hk, rfl, HN⟩ := hrel
    have hAr := (HN.out.block _ hAl).trans HA10.out
    have hQr := (HN.out.block _ hQl).trans HQ10.out
    have hArl := (Array.getElem?_eq_some_iff.1 hAr).1
    have hQrl := (Array.getElem?_eq_some_iff.1 hQr).1
    have p0 : wr.cell? ⟨w.heap.size, 10, none⟩ = some (.slice oc cs.length ck) := cell_of hAr 10
    have p1 : wr.cell? ⟨w1.heap.size, 10, none⟩ = some (.slice oc' cs.length ck') := cell_of hQr 10
    have p2 : wr.cell? ⟨w.heap.size, 13, none⟩ = some (.string rd) := cell_of hAr 13
    have hBw := HB10.out.trans (HN.out.mono HB10.out.size)
    have hC1 := HCw.out.below hBw
    have hC2 := HC10.out.below HN.out
    by_cases hlt : k < cs.length
    · have hki : (k : Int) < (cs.length : Int) := by omega
      have k0 : (0 : Int) ≤ (k : Int) := Int.natCast_nonneg _
      have hil := (HCI2.out cs[k] (List.getElem_mem hlt)).1
      obtain ⟨_, _, he1, hfa⟩ := hC1
      cases he1
      obtain ⟨_, _, he2, hfb⟩ := hC2
      cases he2
      have hfa := hfa k hlt
      have hfb := hfb k hlt
      obtain ⟨X', hXe⟩ : ∃ X', cs[k] = X' := ⟨_, rfl⟩
      rw [hXe] at hil hfa hfb
      clear hXe
      obtain ⟨xi, xp, xs, xd, xt, xc⟩ := X'
      obtain ⟨b, o, vR, vS, rfl, hbl, a0, a1, a2, a3, a4, a5, hT, hS⟩ := hfa
      obtain ⟨b', o', vR', vS', rfl, hbl', b0, b1, b2, b3, b4, b5, hT', hS'⟩ := hfb
      simp only at hil a0 a1 a2 a3 b0 b1 b2 b3 hT hS hT' hS'
      have HT := hide hT
      have HT' := hide hT'
      have ya0 : ∀ Y, Below wr.heap.size wr Y → Y.cell? ⟨b, o + k * 6, none⟩ = some (.string xi) := fun Y hY => (hY.cell (p := ⟨b, o + k * 6, none⟩) hbl).trans a0
      have ya1 : ∀ Y, Below wr.heap.size wr Y → Y.cell? ⟨b, o + k * 6 + 1, none⟩ = some (.bool xp) := fun Y hY => (hY.cell (p := ⟨b, o + k * 6 + 1, none⟩) hbl).trans a1
      have ya2 : ∀ Y, Below wr.heap.size wr Y → Y.cell? ⟨b, o + k * 6 + 2, none⟩ = some (.string xs) := fun Y hY => (hY.cell (p := ⟨b, o + k * 6 + 2, none⟩) hbl).trans a2
      have ya3 : ∀ Y, Below wr.heap.size wr Y → Y.cell? ⟨b, o + k * 6 + 3, none⟩ = some (.string xd) := fun Y hY => (hY.cell (p := ⟨b, o + k * 6 + 3, none⟩) hbl).trans a3
      have ya4 : ∀ Y, Below wr.heap.size wr Y → Y.cell? ⟨b, o + k * 6 + 4, none⟩ = some (vR) := fun Y hY => (hY.cell (p := ⟨b, o + k * 6 + 4, none⟩) hbl).trans a4
      have ya5 : ∀ Y, Below wr.heap.size wr Y → Y.cell? ⟨b, o + k * 6 + 5, none⟩ = some (vS) := fun Y hY => (hY.cell (p := ⟨b, o + k * 6 + 5, none⟩) hbl).trans a5
      have yp : ∀ Y, Below wr.heap.size wr Y → Y.cell? ⟨w.heap.size, 10, none⟩ = some (.slice (some ⟨b, o, none⟩) cs.length ck) := fun Y hY => (hY.cell (p := ⟨w.heap.size, 10, none⟩) hArl).trans p0
      have yr : ∀ Y, Below wr.heap.size wr Y → Y.cell? ⟨w.heap.size, 13, none⟩ = some (.string rd) := fun Y hY => (hY.cell (p := ⟨w.heap.size, 13, none⟩) hArl).trans p2
      have HP1 := hide p1
      have hb0 : Below wr.heap.size wr wr := Below.refl _ _
      have HYB : Hid (∀ Y, Below wr.heap.size wr Y → Y.cell? ⟨b', o' + k * 6, none⟩ = some (.string xi) ∧ Y.cell? ⟨b', o' + k * 6 + 1, none⟩ = some (.bool xp) ∧ Y.cell? ⟨b', o' + k * 6 + 2, none⟩ = some (.string xs) ∧ Y.cell? ⟨b', o' + k * 6 + 3, none⟩ = some (.string xd) ∧ Y.cell? ⟨b', o' + k * 6 + 4, none⟩ = some vR' ∧ Y.cell? ⟨b', o' + k * 6 + 5, none⟩ = some vS') := fun Y hY => ⟨(hY.cell (p := ⟨b', o' + k * 6, none⟩) hbl').trans b0, (hY.cell (p := ⟨b', o' + k * 6 + 1, none⟩) hbl').trans b1, (hY.cell (p := ⟨b', o' + k * 6 + 2, none⟩) hbl').trans b2, (hY.cell (p := ⟨b', o' + k * 6 + 3, none⟩) hbl').trans b3, (hY.cell (p := ⟨b', o' + k * 6 + 4, none⟩) hbl').trans b4, (hY.cell (p := ⟨b', o' + k * 6 + 5, none⟩) hbl').trans b5⟩
      clear a0 a1 a2 a3 a4 a5 b0 b1 b2 b3 b4 b5 hT hS hT' hS' p1 hBw
      go_wp2_with fail
      go_region_held3 (fun Y => Below wr.heap.size wr Y)
        (first
          | assumption
          | exact (Below.refl _ _).drew
          | exact Below.refl _ _
          | exact (Below.refl _ wr).drew.trans (by assumption : Below wr.drew.heap.size wr.drew _))
        ((go_at_call 10; refine (registered_any _ ⟨xi, xp, xs, xd, xt, xc⟩ vR vS rd (HT.out.below (by assumption)) hil).mono ?_; rintro e w5 ⟨rfl, b5⟩))
      have H5 : Hid (Below wr.heap.size wr w5) := by assumption
      clear b5 hb0 yp ya0 ya1 ya2 ya3 ya4 ya5
      have hA5 := (H5.out.block _ hArl).trans hAr
      have hQ5 := (H5.out.block _ hQrl).trans hQr
      have hA5l := (Array.getElem?_eq_some_iff.1 hA5).1
      have hQ5l := (Array.getElem?_eq_some_iff.1 hQ5).1
      have yq : ∀ Y, Below w5.heap.size w5 Y → Y.cell? ⟨w1.heap.size, 10, none⟩ = some (.slice (some ⟨b', o', none⟩) cs.length ck') := fun Y hY => (hY.cell (p := ⟨w1.heap.size, 10, none⟩) hQ5l).trans (cell_of hQ5 10)
      have yr' : ∀ Y, Below w5.heap.size w5 Y → Y.cell? ⟨w.heap.size, 13, none⟩ = some (.string rd) := fun Y hY => (hY.cell (p := ⟨w.heap.size, 13, none⟩) hA5l).trans (cell_of hA5 13)
      have HTR : Hid (∀ Y, Below w5.heap.size w5 Y → Below wr.heap.size wr Y) := fun Y hY => H5.out.trans (hY.mono H5.out.size)
      have yb0 : ∀ Y, Below w5.heap.size w5 Y → Y.cell? ⟨b', o' + k * 6, none⟩ = some (.string xi) := fun Y hY => (HYB.out Y (HTR.out Y hY)).1
      have yb1 : ∀ Y, Below w5.heap.size w5 Y → Y.cell? ⟨b', o' + k * 6 + 1, none⟩ = some (.bool xp) := fun Y hY => (HYB.out Y (HTR.out Y hY)).2.1
      have yb2 : ∀ Y, Below w5.heap.size w5 Y → Y.cell? ⟨b', o' + k * 6 + 2, none⟩ = some (.string xs) := fun Y hY => (HYB.out Y (HTR.out Y hY)).2.2.1
      have yb3 : ∀ Y, Below w5.heap.size w5 Y → Y.cell? ⟨b', o' + k * 6 + 3, none⟩ = some (.string xd) := fun Y hY => (HYB.out Y (HTR.out Y hY)).2.2.2.1
      have yb4 : ∀ Y, Below w5.heap.size w5 Y → Y.cell? ⟨b', o' + k * 6 + 4, none⟩ = some (vR') := fun Y hY => (HYB.out Y (HTR.out Y hY)).2.2.2.2.1
      have yb5 : ∀ Y, Below w5.heap.size w5 Y → Y.cell? ⟨b', o' + k * 6 + 5, none⟩ = some (vS') := fun Y hY => (HYB.out Y (HTR.out Y hY)).2.2.2.2.2
      have hb1 : Below w5.heap.size w5 w5 := Below.refl _ _
      clear yr hA5 hQ5
      go_wp2_with fail
      go_region_held3 (fun Y => Below w5.heap.size w5 Y)
        (first
          | assumption
          | exact (Below.refl _ _).drew
          | exact Below.refl _ _
          | exact (Below.refl _ w5).drew.trans (by assumption : Below w5.drew.heap.size w5.drew _))
        ((go_at_call 11; refine (refRegistered_any _ ⟨xi, xp, xs, xd, xt, xc⟩ vR' vS' rd (HT'.out.below (HTR.out _ (by assumption))) hil).mono ?_; rintro e w6 ⟨rfl, b6⟩))
      have H6 : Hid (Below w5.heap.size w5 w6) := by assumption
      clear b6 hb1 yq yr' yb0 yb1 yb2 yb3 yb4 yb5
      go_wp2_with fail
      go_roundw
      case rel => exact ⟨k + 1, by omega, by go_num, HN.out.trans ((HTR.out _ H6.out).mono HN.out.size)⟩
      case measure => simp [intOf]; omega
    · obtain rfl : k = cs.length := by omega
      have HRA : Hid (wr.rangeAt w.heap.size 0 [.int .i64 t.a0, .int .i64 t.a1, .int .i64 t.a2, .int .i64 t.a3, .int .i64 t.a4, .int .i64 t.a5, .int .i64 t.a6, .int .i64 t.a7, .int .i64 t.a8, .int .i64 t.a9, .slice oc cs.length ck, .slice ou us.length uk]) := range_pre hAr _ (pre_of (m := [.string id, .string rd]))
      have HRQ := hide (range_of (l := [.int .i64 t.a0, .int .i64 t.a1, .int .i64 t.a2, .int .i64 t.a3, .int .i64 t.a4, .int .i64 t.a5, .int .i64 t.a6, .int .i64 t.a7, .int .i64 t.a8, .int .i64 t.a9, .slice oc' cs.length ck', .slice ou' us.length uk']) hQr)
      have HSC := hide (sameConfig_any wr t _ _ _ _ cs us hC1 (HUw.out.below hBw) hC2 (HD10.out.below HN.out) (by omega) (by omega) HCI2.out)
      have HBW := hide hBw
      clear hBw hC1 hC2 hAr hQr
      go_wp2_with (first
        | (refine wpList_load_mid rfl 25 (.tmp 93) rfl w.heap.size 0 rfl _ _ HRA.out Try.underlying25 rfl sizeCf ?_)
        | (refine wpList_load_mid rfl 25 (.tmp 3) rfl w1.heap.size 0 rfl _ _ HRQ.out Try.underlying25 rfl sizeCf ?_))
      refine HSC.out.mono ?_
      rintro e w11 ⟨rfl, b11⟩
      have HB11 := hide (HBW.out.trans (b11.mono HBW.out.size))
      clear b11
      go_wp2_with fail
      go_ret
      exact ⟨rfl, HB11.out⟩
end Go.Proofs.Ytbchhpjpfieljaa.rg
