import Derived.Test.YtjfpjgialdkhkaaDoorDmMv0
namespace Go.Proofs.YtjfpjgialdkhkaaDoor.dk
open Go.ChangeShapes Go.WideShapes Go.ChangeAt Go.RowKit Go.Proofs.YtjfpjgialdkhkaaDoor.common

set_option maxRecDepth 100000 in
set_option maxHeartbeats 6400000 in
theorem moves_opdead {base : Nat} {w : World} {e : Nat → Addr} {p : Nat} {F : List Nat} {x : St} {j : Nat} (h : Run base w e p F x j) (hj : (j + 1) * 16 ≤ 140737488355328) (hj2 : (j + 1 + 1) * 16 ≤ 140737488355328) (s : Sp) (ht : s.t.size ≤ reachBytes) (h1 : s.n ≤ 9223372036854775807) (h2 : -9223372036854775808 ≤ s.m) (h3 : s.m ≤ 9223372036854775807) (x' : St) (hst : x.step s = (x', ⟨[], 0, 10⟩)) (hb : x'.b = x.b) (hs : x'.s = x.s) (hd : x.d = true) (ho : opB s = true) (hxd : x'.d = true) (hxa : x'.a.length = x.a.length) :
    Calls Tryd.prog 12 #[ptr p, spv s, .int .i64 (x.r : Int), .int .i64 (x.a.length : Int)] w fun r' w' => Mvd base w e p F x' j r' w' := by
  obtain ⟨V, hV⟩ : ∃ V, V = w.alloc (stc s) := ⟨_, rfl⟩
  have BV : Below w.heap.size w V := by rw [hV]; exact (Below.refl _ _).alloc (Nat.le_refl _) _
  have hlb : x.b.length ≤ 4611686018427387904 := by have := h.fine.ok.most; omega
  have HR := hide (h.keep BV)
  have HS0 : Hid (Bk V F w.heap.size (stc s)) := ⟨by rw [hV]; exact heap_alloc_new _ _, fun hm => by have := h.disk.lt _ hm; omega⟩
  have HDD := hide (dead_any V p F x HR.out.disk)
  rw [hd] at HDD
  have HBV := hide BV
  have HV := hide hV
  have HST := hide hst
  have HO := hide ho
  have HT := hide ht
  have HJ := hide hj
  have HJ2 := hide hj2
  have HN := hide (And.intro h1 (And.intro h2 h3))
  have HSB := hide (And.intro hb hs)
  have HXD : Hid (x'.d = true) := hxd
  have HXA : Hid ((x.a.length : Int) = (x'.a.length : Int)) := by show _ = _; rw [hxa]
  clear h hV BV hst hd ho ht hj hj2 h1 h2 h3 hb hs hxd hxa
  go_enter Tryd.func12, Tryd.ntmps12
  go_wp2_with fail
  rw [← HV.out]
  refine HDD.out.mono ?_
  rintro r' w' ⟨rfl, h'⟩
  obtain rfl := h'.symm
  clear HDD
  go_wp2_with fail
  refine (lookS_any V).mono ?_
  rintro r' w1 ⟨rfl, b1⟩
  have HR1 := hide (HR.out.keep b1)
  have HS1 := hide (HS0.out.below b1)
  have HB1 := hide (keepD HBV.out b1)
  clear b1 HR HS0 HBV HV
  go_wp2_with fail
  refine (HR1.out.look HJ.out).mono ?_
  rintro r' w2 ⟨vw, F2, rfl, hA2, hR2, hf2, hs2⟩
  obtain ⟨ow, cw, hvw, hcw⟩ := ans_cap hA2
  subst hvw
  obtain ⟨X2, hX2⟩ : ∃ X2, X2 = w2.alloc (said ow x.b.length cw (x.s : Int) 0) := ⟨_, rfl⟩
  have B2 : Below w2.heap.size w2 X2 := by rw [hX2]; exact (Below.refl _ _).alloc (Nat.le_refl _) _
  have HS2 := hide ((HS1.out.fr hf2 hs2).below B2)
  obtain ⟨bw, hbw⟩ : ∃ bw, bw = w2.heap.size := ⟨_, rfl⟩
  have HW2 : Hid (Bk X2 F2 bw (said ow x.b.length cw (x.s : Int) 0)) := ⟨by rw [hX2, hbw]; exact heap_alloc_new _ _, fun hm => by have := hR2.disk.lt _ hm; omega⟩
  have HL2 := hide (hA2.lv.below B2)
  have HR2 := hide (hR2.keep B2)
  have HF2 : Hid (Fr F w X2) := ((Fr.of HB1.out).trans hf2 (fun i hi => Or.inl hi)).trans (Fr.of B2 (F := F2)) (fun i hi => sub_trans (F := F) (F1 := F) (a := w.heap.size) (b := w1.heap.size) (fun k hk => Or.inl hk) hs2 HB1.out.size i hi)
  have HU2 : Hid (∀ k ∈ F2, k ∈ F ∨ w.heap.size ≤ k) := sub_trans (F := F) (F1 := F) (fun k hk => Or.inl hk) hs2 HB1.out.size
  have hz2 := B2.size
  have aS := HS2.out
  have a0 : X2.cell? ⟨w.heap.size, 0, none⟩ = some (.int .i64 s.k) := cell_of aS.is 0
  have a1 : X2.cell? ⟨w.heap.size, 0 + 1, none⟩ = some (.int .i64 s.o) := cell_of aS.is 1
  have a2 : X2.cell? ⟨w.heap.size, 0 + 2, none⟩ = some (.int .i64 s.n) := cell_of aS.is 2
  have a2' : X2.cell? ⟨w.heap.size, 2, none⟩ = some (.int .i64 s.n) := cell_of aS.is 2
  have a3 : X2.cell? ⟨w.heap.size, 0 + 3, none⟩ = some (.int .i64 s.m) := cell_of aS.is 3
  have a4 : X2.cell? ⟨w.heap.size, 0 + 4, none⟩ = some (.string s.t) := cell_of aS.is 4
  have HACT := hide (HR2.out.act s HT.out HJ.out HN.out.1 HN.out.2.1 HN.out.2.2)
  rw [HST.out] at HACT
  dsimp only at HACT
  have HX2 := hide hX2
  rw [hX2] at a0 a1 a2 a3 a4
  clear hA2 hR2 hf2 hs2 B2 hX2 HS1 HB1 HR1 aS a2' HST
  go_wp2_with fail
  rw [← HX2.out, ← hbw]
  refine HACT.out.mono ?_
  rintro r' w3 ⟨vg, F3, rfl, hA3, hR3, hf3, hs3⟩
  obtain ⟨og, cg, hvg, hcg⟩ := ans_cap hA3
  subst hvg
  dsimp only at hA3 hcg
  obtain ⟨X3, hX3⟩ : ∃ X3, X3 = w3.alloc (said og 0 cg 0 10) := ⟨_, rfl⟩
  have B3 : Below w3.heap.size w3 X3 := by rw [hX3]; exact (Below.refl _ _).alloc (Nat.le_refl _) _
  have HS3 := hide ((HS2.out.fr hf3 hs3).below B3)
  have HW3 := hide ((HW2.out.fr hf3 hs3).below B3)
  have HL3 := hide ((HL2.out.fr hf3 hs3).below B3)
  obtain ⟨bg, hbg⟩ : ∃ bg, bg = w3.heap.size := ⟨_, rfl⟩
  have HG3 : Hid (Bk X3 F3 bg (said og 0 cg 0 10)) := ⟨by rw [hX3, hbg]; exact heap_alloc_new _ _, fun hm => by have := hR3.disk.lt _ hm; omega⟩
  have HK3 := hide (hA3.lv.below B3)
  have HR3 := hide (hR3.keep B3)
  have HU3 : Hid (∀ k ∈ F3, k ∈ F ∨ w.heap.size ≤ k) := sub_trans HU2.out hs3 HF2.out.size
  have HF3 : Hid (Fr F w X3) := (HF2.out.trans hf3 HU2.out).trans (Fr.of B3 (F := F3)) HU3.out
  have HX3 := hide hX3
  clear hA3 hR3 hf3 hs3 B3 hX3 HS2 HW2 HL2 HR2 HF2 HU2 HACT HX2 hbw hz2 a0 a1 a2 a3 a4
  go_wp2_with fail
  rw [← HX3.out, ← hbg]
  refine (lookS_any X3).mono ?_
  rintro r' w4 ⟨rfl, b4⟩
  have HLK := hide ((HR3.out.keep b4).look HJ2.out)
  rw [HSB.out.1, HSB.out.2] at HLK
  have HS4 := hide (HS3.out.below b4)
  have HW4 := hide (HW3.out.below b4)
  have HL4 := hide (HL3.out.below b4)
  have HG4 := hide (HG3.out.below b4)
  have HK4 := hide (HK3.out.below b4)
  have HF4 : Hid (Fr F w w4) := HF3.out.trans (Fr.of b4 (F := F3)) HU3.out
  clear b4 HS3 HW3 HL3 HG3 HK3 HR3 HF3 HX3 hbg
  go_wp2_with fail
  refine HLK.out.mono ?_
  rintro r' w5 ⟨vn, F5, rfl, hA5, hR5, hf5, hs5⟩
  obtain ⟨on, cn, hvn, hcn⟩ := ans_cap hA5
  subst hvn
  obtain ⟨X5, hX5⟩ : ∃ X5, X5 = w5.alloc (said on x.b.length cn (x.s : Int) 0) := ⟨_, rfl⟩
  have B5 : Below w5.heap.size w5 X5 := by rw [hX5]; exact (Below.refl _ _).alloc (Nat.le_refl _) _
  have bS := (HS4.out.fr hf5 hs5).below B5
  have HW5 := hide ((HW4.out.fr hf5 hs5).below B5)
  have HL5 := hide ((HL4.out.fr hf5 hs5).below B5)
  have HG5 := hide ((HG4.out.fr hf5 hs5).below B5)
  have HK5 := hide ((HK4.out.fr hf5 hs5).below B5)
  obtain ⟨bn, hbn⟩ : ∃ bn, bn = w5.heap.size := ⟨_, rfl⟩
  have HN5 : Hid (Bk X5 F5 bn (said on x.b.length cn (x.s : Int) 0)) := ⟨by rw [hX5, hbn]; exact heap_alloc_new _ _, fun hm => by have := hR5.disk.lt _ hm; omega⟩
  have HM5 := hide (hA5.lv.below B5)
  have HR5 := hide (hR5.keep B5)
  have HU5 : Hid (∀ k ∈ F5, k ∈ F ∨ w.heap.size ≤ k) := sub_trans HU3.out hs5 HF4.out.size
  have HF5 : Hid (Fr F w X5) := (HF4.out.trans hf5 HU3.out).trans (Fr.of B5 (F := F5)) HU5.out
  have HFN : Hid (∀ Z, Below X5.heap.size X5 Z → Fnl base w e p F x' j Z) := fun Z hZ => ⟨F5, HR5.out.keep hZ, HF5.out.trans (Fr.of hZ (F := F5)) HU5.out, HU5.out⟩
  have HS5 := hide bS
  have b0 : X5.cell? ⟨w.heap.size, 0, none⟩ = some (.int .i64 s.k) := cell_of bS.is 0
  have b1 : X5.cell? ⟨w.heap.size, 0 + 1, none⟩ = some (.int .i64 s.o) := cell_of bS.is 1
  have b2 : X5.cell? ⟨w.heap.size, 0 + 2, none⟩ = some (.int .i64 s.n) := cell_of bS.is 2
  have b2' : X5.cell? ⟨w.heap.size, 2, none⟩ = some (.int .i64 s.n) := cell_of bS.is 2
  have b3 : X5.cell? ⟨w.heap.size, 0 + 3, none⟩ = some (.int .i64 s.m) := cell_of bS.is 3
  have b4 : X5.cell? ⟨w.heap.size, 0 + 4, none⟩ = some (.string s.t) := cell_of bS.is 4
  have HX5 := hide hX5
  rw [hX5] at b0 b1 b2 b3 b4
  have HOP := hide (operation_any X5 s)
  rw [HO.out] at HOP
  clear hA5 hR5 hf5 hs5 B5 hX5 HS4 HW4 HL4 HG4 HK4 HF4 HF5 HU5 HU3 HLK bS b2'
  go_wp2_with fail
  rw [← HX5.out, ← hbn]
  refine HOP.out.mono ?_
  rintro r' w6 ⟨rfl, b6⟩
  have cS := HS5.out.below b6
  have cW := HW5.out.below b6
  have cG := HG5.out.below b6
  have cN := HN5.out.below b6
  have c0 : w6.cell? ⟨w.heap.size, 0, none⟩ = some (.int .i64 s.k) := cell_of cS.is 0
  have c1 : w6.cell? ⟨w.heap.size, 0 + 1, none⟩ = some (.int .i64 s.o) := cell_of cS.is 1
  have c2 : w6.cell? ⟨w.heap.size, 0 + 2, none⟩ = some (.int .i64 s.n) := cell_of cS.is 2
  have c2' : w6.cell? ⟨w.heap.size, 2, none⟩ = some (.int .i64 s.n) := cell_of cS.is 2
  have c3 : w6.cell? ⟨w.heap.size, 0 + 3, none⟩ = some (.int .i64 s.m) := cell_of cS.is 3
  have c4 : w6.cell? ⟨w.heap.size, 0 + 4, none⟩ = some (.string s.t) := cell_of cS.is 4
  have cW0 : w6.cell? ⟨bw, 0, none⟩ = some (.slice ow x.b.length cw) := cell_of cW.is 0
  have cW1 : w6.cell? ⟨bw, 0 + 1, none⟩ = some (.int .i64 (x.s : Int)) := cell_of cW.is 1
  have cW1' : w6.cell? ⟨bw, 1, none⟩ = some (.int .i64 (x.s : Int)) := cell_of cW.is 1
  have cW2 : w6.cell? ⟨bw, 0 + 2, none⟩ = some (.int .i64 0) := cell_of cW.is 2
  have cW2' : w6.cell? ⟨bw, 2, none⟩ = some (.int .i64 0) := cell_of cW.is 2
  have cG0 : w6.cell? ⟨bg, 0, none⟩ = some (.slice og 0 cg) := cell_of cG.is 0
  have cG1 : w6.cell? ⟨bg, 0 + 1, none⟩ = some (.int .i64 0) := cell_of cG.is 1
  have cG1' : w6.cell? ⟨bg, 1, none⟩ = some (.int .i64 0) := cell_of cG.is 1
  have cG2 : w6.cell? ⟨bg, 0 + 2, none⟩ = some (.int .i64 10) := cell_of cG.is 2
  have cG2' : w6.cell? ⟨bg, 2, none⟩ = some (.int .i64 10) := cell_of cG.is 2
  have cN0 : w6.cell? ⟨bn, 0, none⟩ = some (.slice on x.b.length cn) := cell_of cN.is 0
  have cN1 : w6.cell? ⟨bn, 0 + 1, none⟩ = some (.int .i64 (x.s : Int)) := cell_of cN.is 1
  have cN1' : w6.cell? ⟨bn, 1, none⟩ = some (.int .i64 (x.s : Int)) := cell_of cN.is 1
  have cN2 : w6.cell? ⟨bn, 0 + 2, none⟩ = some (.int .i64 0) := cell_of cN.is 2
  have cN2' : w6.cell? ⟨bn, 2, none⟩ = some (.int .i64 0) := cell_of cN.is 2
  have HL6 := hide (HL5.out.below b6)
  have HK6 := hide (HK5.out.below b6)
  have HM6 := hide (HM5.out.below b6)
  have HR6 := hide (HR5.out.keep b6)
  have HB6 := hide b6
  have HS6 := hide cS
  have HW6 := hide cW
  have HG6 := hide cG
  have HN6 := hide cN
  clear cS cW cG cN b6 HS5 HW5 HG5 HN5 HL5 HK5 HM5 HR5 HOP HX5 hbn b0 b1 b2 b3 b4
  have HSM := hide (same_eq w6 _ _ ⟨x.b, x.s, 0⟩ HL6.out.rd HM6.out.rd hlb)
  go_wp2_with fail
  refine HSM.out.mono ?_
  rintro r' w7 ⟨rfl, b7⟩
  have HD7 := hide (dead_any w7 p _ x' (HR6.out.disk.below b7))
  rw [HXD.out] at HD7
  have HZ := hide (HFN.out w7 (keepD HB6.out b7))
  clear b7 HSM
  go_wp2_with (go_at_call 10; refine HD7.out.mono ?_; rintro r' w8 ⟨rfl, rfl⟩)
  go_ret2
  exact HZ.out.mvd HXA.out


set_option maxRecDepth 100000 in
set_option maxHeartbeats 6400000 in
theorem moves_died {base : Nat} {w : World} {e : Nat → Addr} {p : Nat} {F : List Nat} {x : St} {j : Nat} (h : Run base w e p F x j) (hj : (j + 1) * 16 ≤ 140737488355328) (hj2 : (j + 1 + 1) * 16 ≤ 140737488355328) (s : Sp) (ht : s.t.size ≤ reachBytes) (h1 : s.n ≤ 9223372036854775807) (h2 : -9223372036854775808 ≤ s.m) (h3 : s.m ≤ 9223372036854775807) (x' : St) (an : Int) (hst : x.step s = (x', ⟨[], an, 10⟩))  (hd : x.d = false) (ho : opB s = true) (hdi : ∀ (Z : World) F' ow cw og cg on cn, Dk Z p F' x' → Rd Z (.slice ow x.b.length cw) x.b → Rd Z (.slice on x'.b.length cn) x'.b → Calls Tryd.prog 34 #[ptr p, spv s, .int .i64 (x.r : Int), .bool true, .agg #[.slice ow x.b.length cw, .int .i64 (x.s : Int), .int .i64 0], .agg #[.slice og 0 cg, .int .i64 an, .int .i64 10], .agg #[.slice on x'.b.length cn, .int .i64 (x'.s : Int), .int .i64 0]] Z fun r' w' => r' = .returned (.bool true) ∧ Below Z.heap.size Z w') :
    Calls Tryd.prog 12 #[ptr p, spv s, .int .i64 (x.r : Int), .int .i64 ((x'.a.length : Int) + 1)] w fun r' w' => Mvd base w e p F x' j r' w' := by
  obtain ⟨V, hV⟩ : ∃ V, V = w.alloc (stc s) := ⟨_, rfl⟩
  have BV : Below w.heap.size w V := by rw [hV]; exact (Below.refl _ _).alloc (Nat.le_refl _) _
  have hlb : x.b.length ≤ 4611686018427387904 := by have := h.fine.ok.most; omega
  have HR := hide (h.keep BV)
  have HS0 : Hid (Bk V F w.heap.size (stc s)) := ⟨by rw [hV]; exact heap_alloc_new _ _, fun hm => by have := h.disk.lt _ hm; omega⟩
  have HDD := hide (dead_any V p F x HR.out.disk)
  rw [hd] at HDD
  have HBV := hide BV
  have HV := hide hV
  have HST := hide hst
  have HO := hide ho
  have HT := hide ht
  have HJ := hide hj
  have HJ2 := hide hj2
  have HN := hide (And.intro h1 (And.intro h2 h3))
  have hna : (0 : Int) < (x'.a.length : Int) + 1 := by omega
  have hnd : decide ((0 : Int) < (x'.a.length : Int) + 1) = true := decide_eq_true hna
  have hnb : (x'.a.length : Int) + 1 ≤ 4611686018427387904 := by have := hst ▸ step_arms x s; have := h.arms; dsimp only at *; omega
  clear h hV BV hst hd ho ht hj hj2 h1 h2 h3  
  go_enter Tryd.func12, Tryd.ntmps12
  go_wp2_with fail
  rw [← HV.out]
  refine HDD.out.mono ?_
  rintro r' w' ⟨rfl, h'⟩
  obtain rfl := h'.symm
  clear HDD
  go_wp2_with fail
  refine (lookS_any V).mono ?_
  rintro r' w1 ⟨rfl, b1⟩
  have HR1 := hide (HR.out.keep b1)
  have HS1 := hide (HS0.out.below b1)
  have HB1 := hide (keepD HBV.out b1)
  clear b1 HR HS0 HBV HV
  go_wp2_with fail
  refine (HR1.out.look HJ.out).mono ?_
  rintro r' w2 ⟨vw, F2, rfl, hA2, hR2, hf2, hs2⟩
  obtain ⟨ow, cw, hvw, hcw⟩ := ans_cap hA2
  subst hvw
  obtain ⟨X2, hX2⟩ : ∃ X2, X2 = w2.alloc (said ow x.b.length cw (x.s : Int) 0) := ⟨_, rfl⟩
  have B2 : Below w2.heap.size w2 X2 := by rw [hX2]; exact (Below.refl _ _).alloc (Nat.le_refl _) _
  have HS2 := hide ((HS1.out.fr hf2 hs2).below B2)
  obtain ⟨bw, hbw⟩ : ∃ bw, bw = w2.heap.size := ⟨_, rfl⟩
  have HW2 : Hid (Bk X2 F2 bw (said ow x.b.length cw (x.s : Int) 0)) := ⟨by rw [hX2, hbw]; exact heap_alloc_new _ _, fun hm => by have := hR2.disk.lt _ hm; omega⟩
  have HL2 := hide (hA2.lv.below B2)
  have HR2 := hide (hR2.keep B2)
  have HF2 : Hid (Fr F w X2) := ((Fr.of HB1.out).trans hf2 (fun i hi => Or.inl hi)).trans (Fr.of B2 (F := F2)) (fun i hi => sub_trans (F := F) (F1 := F) (a := w.heap.size) (b := w1.heap.size) (fun k hk => Or.inl hk) hs2 HB1.out.size i hi)
  have HU2 : Hid (∀ k ∈ F2, k ∈ F ∨ w.heap.size ≤ k) := sub_trans (F := F) (F1 := F) (fun k hk => Or.inl hk) hs2 HB1.out.size
  have hz2 := B2.size
  have aS := HS2.out
  have a0 : X2.cell? ⟨w.heap.size, 0, none⟩ = some (.int .i64 s.k) := cell_of aS.is 0
  have a1 : X2.cell? ⟨w.heap.size, 0 + 1, none⟩ = some (.int .i64 s.o) := cell_of aS.is 1
  have a2 : X2.cell? ⟨w.heap.size, 0 + 2, none⟩ = some (.int .i64 s.n) := cell_of aS.is 2
  have a2' : X2.cell? ⟨w.heap.size, 2, none⟩ = some (.int .i64 s.n) := cell_of aS.is 2
  have a3 : X2.cell? ⟨w.heap.size, 0 + 3, none⟩ = some (.int .i64 s.m) := cell_of aS.is 3
  have a4 : X2.cell? ⟨w.heap.size, 0 + 4, none⟩ = some (.string s.t) := cell_of aS.is 4
  have HACT := hide (HR2.out.act s HT.out HJ.out HN.out.1 HN.out.2.1 HN.out.2.2)
  rw [HST.out] at HACT
  dsimp only at HACT
  have HX2 := hide hX2
  rw [hX2] at a0 a1 a2 a3 a4
  clear hA2 hR2 hf2 hs2 B2 hX2 HS1 HB1 HR1 aS a2' HST
  go_wp2_with fail
  rw [← HX2.out, ← hbw]
  refine HACT.out.mono ?_
  rintro r' w3 ⟨vg, F3, rfl, hA3, hR3, hf3, hs3⟩
  obtain ⟨og, cg, hvg, hcg⟩ := ans_cap hA3
  subst hvg
  dsimp only at hA3 hcg
  obtain ⟨X3, hX3⟩ : ∃ X3, X3 = w3.alloc (said og 0 cg an 10) := ⟨_, rfl⟩
  have B3 : Below w3.heap.size w3 X3 := by rw [hX3]; exact (Below.refl _ _).alloc (Nat.le_refl _) _
  have HS3 := hide ((HS2.out.fr hf3 hs3).below B3)
  have HW3 := hide ((HW2.out.fr hf3 hs3).below B3)
  have HL3 := hide ((HL2.out.fr hf3 hs3).below B3)
  obtain ⟨bg, hbg⟩ : ∃ bg, bg = w3.heap.size := ⟨_, rfl⟩
  have HG3 : Hid (Bk X3 F3 bg (said og 0 cg an 10)) := ⟨by rw [hX3, hbg]; exact heap_alloc_new _ _, fun hm => by have := hR3.disk.lt _ hm; omega⟩
  have HK3 := hide (hA3.lv.below B3)
  have HR3 := hide (hR3.keep B3)
  have HU3 : Hid (∀ k ∈ F3, k ∈ F ∨ w.heap.size ≤ k) := sub_trans HU2.out hs3 HF2.out.size
  have HF3 : Hid (Fr F w X3) := (HF2.out.trans hf3 HU2.out).trans (Fr.of B3 (F := F3)) HU3.out
  have HX3 := hide hX3
  clear hA3 hR3 hf3 hs3 B3 hX3 HS2 HW2 HL2 HR2 HF2 HU2 HACT HX2 hbw hz2 a0 a1 a2 a3 a4
  go_wp2_with fail
  rw [← HX3.out, ← hbg]
  refine (lookS_any X3).mono ?_
  rintro r' w4 ⟨rfl, b4⟩
  have HLK := hide ((HR3.out.keep b4).look HJ2.out)
  have HS4 := hide (HS3.out.below b4)
  have HW4 := hide (HW3.out.below b4)
  have HL4 := hide (HL3.out.below b4)
  have HG4 := hide (HG3.out.below b4)
  have HK4 := hide (HK3.out.below b4)
  have HF4 : Hid (Fr F w w4) := HF3.out.trans (Fr.of b4 (F := F3)) HU3.out
  clear b4 HS3 HW3 HL3 HG3 HK3 HR3 HF3 HX3 hbg
  go_wp2_with fail
  refine HLK.out.mono ?_
  rintro r' w5 ⟨vn, F5, rfl, hA5, hR5, hf5, hs5⟩
  obtain ⟨on, cn, hvn, hcn⟩ := ans_cap hA5
  subst hvn
  obtain ⟨X5, hX5⟩ : ∃ X5, X5 = w5.alloc (said on x'.b.length cn (x'.s : Int) 0) := ⟨_, rfl⟩
  have B5 : Below w5.heap.size w5 X5 := by rw [hX5]; exact (Below.refl _ _).alloc (Nat.le_refl _) _
  have bS := (HS4.out.fr hf5 hs5).below B5
  have HW5 := hide ((HW4.out.fr hf5 hs5).below B5)
  have HL5 := hide ((HL4.out.fr hf5 hs5).below B5)
  have HG5 := hide ((HG4.out.fr hf5 hs5).below B5)
  have HK5 := hide ((HK4.out.fr hf5 hs5).below B5)
  obtain ⟨bn, hbn⟩ : ∃ bn, bn = w5.heap.size := ⟨_, rfl⟩
  have HN5 : Hid (Bk X5 F5 bn (said on x'.b.length cn (x'.s : Int) 0)) := ⟨by rw [hX5, hbn]; exact heap_alloc_new _ _, fun hm => by have := hR5.disk.lt _ hm; omega⟩
  have HM5 := hide (hA5.lv.below B5)
  have HR5 := hide (hR5.keep B5)
  have HU5 : Hid (∀ k ∈ F5, k ∈ F ∨ w.heap.size ≤ k) := sub_trans HU3.out hs5 HF4.out.size
  have HF5 : Hid (Fr F w X5) := (HF4.out.trans hf5 HU3.out).trans (Fr.of B5 (F := F5)) HU5.out
  have HFN : Hid (∀ Z, Below X5.heap.size X5 Z → Fnl base w e p F x' j Z) := fun Z hZ => ⟨F5, HR5.out.keep hZ, HF5.out.trans (Fr.of hZ (F := F5)) HU5.out, HU5.out⟩
  have HS5 := hide bS
  have b0 : X5.cell? ⟨w.heap.size, 0, none⟩ = some (.int .i64 s.k) := cell_of bS.is 0
  have b1 : X5.cell? ⟨w.heap.size, 0 + 1, none⟩ = some (.int .i64 s.o) := cell_of bS.is 1
  have b2 : X5.cell? ⟨w.heap.size, 0 + 2, none⟩ = some (.int .i64 s.n) := cell_of bS.is 2
  have b2' : X5.cell? ⟨w.heap.size, 2, none⟩ = some (.int .i64 s.n) := cell_of bS.is 2
  have b3 : X5.cell? ⟨w.heap.size, 0 + 3, none⟩ = some (.int .i64 s.m) := cell_of bS.is 3
  have b4 : X5.cell? ⟨w.heap.size, 0 + 4, none⟩ = some (.string s.t) := cell_of bS.is 4
  have HX5 := hide hX5
  rw [hX5] at b0 b1 b2 b3 b4
  have HOP := hide (operation_any X5 s)
  rw [HO.out] at HOP
  clear hA5 hR5 hf5 hs5 B5 hX5 HS4 HW4 HL4 HG4 HK4 HF4 HF5 HU5 HU3 HLK bS b2'
  go_wp2_with fail
  rw [← HX5.out, ← hbn]
  refine HOP.out.mono ?_
  rintro r' w6 ⟨rfl, b6⟩
  have cS := HS5.out.below b6
  have cW := HW5.out.below b6
  have cG := HG5.out.below b6
  have cN := HN5.out.below b6
  have c0 : w6.cell? ⟨w.heap.size, 0, none⟩ = some (.int .i64 s.k) := cell_of cS.is 0
  have c1 : w6.cell? ⟨w.heap.size, 0 + 1, none⟩ = some (.int .i64 s.o) := cell_of cS.is 1
  have c2 : w6.cell? ⟨w.heap.size, 0 + 2, none⟩ = some (.int .i64 s.n) := cell_of cS.is 2
  have c2' : w6.cell? ⟨w.heap.size, 2, none⟩ = some (.int .i64 s.n) := cell_of cS.is 2
  have c3 : w6.cell? ⟨w.heap.size, 0 + 3, none⟩ = some (.int .i64 s.m) := cell_of cS.is 3
  have c4 : w6.cell? ⟨w.heap.size, 0 + 4, none⟩ = some (.string s.t) := cell_of cS.is 4
  have cW0 : w6.cell? ⟨bw, 0, none⟩ = some (.slice ow x.b.length cw) := cell_of cW.is 0
  have cW1 : w6.cell? ⟨bw, 0 + 1, none⟩ = some (.int .i64 (x.s : Int)) := cell_of cW.is 1
  have cW1' : w6.cell? ⟨bw, 1, none⟩ = some (.int .i64 (x.s : Int)) := cell_of cW.is 1
  have cW2 : w6.cell? ⟨bw, 0 + 2, none⟩ = some (.int .i64 0) := cell_of cW.is 2
  have cW2' : w6.cell? ⟨bw, 2, none⟩ = some (.int .i64 0) := cell_of cW.is 2
  have cG0 : w6.cell? ⟨bg, 0, none⟩ = some (.slice og 0 cg) := cell_of cG.is 0
  have cG1 : w6.cell? ⟨bg, 0 + 1, none⟩ = some (.int .i64 an) := cell_of cG.is 1
  have cG1' : w6.cell? ⟨bg, 1, none⟩ = some (.int .i64 an) := cell_of cG.is 1
  have cG2 : w6.cell? ⟨bg, 0 + 2, none⟩ = some (.int .i64 10) := cell_of cG.is 2
  have cG2' : w6.cell? ⟨bg, 2, none⟩ = some (.int .i64 10) := cell_of cG.is 2
  have cN0 : w6.cell? ⟨bn, 0, none⟩ = some (.slice on x'.b.length cn) := cell_of cN.is 0
  have cN1 : w6.cell? ⟨bn, 0 + 1, none⟩ = some (.int .i64 (x'.s : Int)) := cell_of cN.is 1
  have cN1' : w6.cell? ⟨bn, 1, none⟩ = some (.int .i64 (x'.s : Int)) := cell_of cN.is 1
  have cN2 : w6.cell? ⟨bn, 0 + 2, none⟩ = some (.int .i64 0) := cell_of cN.is 2
  have cN2' : w6.cell? ⟨bn, 2, none⟩ = some (.int .i64 0) := cell_of cN.is 2
  have HL6 := hide (HL5.out.below b6)
  have HK6 := hide (HK5.out.below b6)
  have HM6 := hide (HM5.out.below b6)
  have HR6 := hide (HR5.out.keep b6)
  have HB6 := hide b6
  have HS6 := hide cS
  have HW6 := hide cW
  have HG6 := hide cG
  have HN6 := hide cN
  clear cS cW cG cN b6 HS5 HW5 HG5 HN5 HL5 HK5 HM5 HR5 HOP HX5 hbn b0 b1 b2 b3 b4
  have HDI := hide (hdi w6 _ ow cw og cg on cn HR6.out.disk HL6.out.rd HM6.out.rd)
  clear hdi
  go_wp2_with fail
  refine HDI.out.mono ?_
  rintro r' w7 ⟨rfl, b7⟩
  have HZ := hide (HFN.out w7 (keepD HB6.out b7))
  clear b7 HDI
  go_wp2_with fail
  go_ret2
  exact HZ.out.mvd (by simp)


set_option maxRecDepth 100000 in
set_option maxHeartbeats 6400000 in
theorem moves_went {base : Nat} {w : World} {e : Nat → Addr} {p : Nat} {F : List Nat} {x : St} {j : Nat} (h : Run base w e p F x j) (hj : (j + 1) * 16 ≤ 140737488355328) (hj2 : (j + 1 + 1) * 16 ≤ 140737488355328) (s : Sp) (ht : s.t.size ≤ reachBytes) (h1 : s.n ≤ 9223372036854775807) (h2 : -9223372036854775808 ≤ s.m) (h3 : s.m ≤ 9223372036854775807) (x' : St) (al : List UInt8) (an : Int) (ae : Nat) (hst : x.step s = (x', ⟨al, an, ae⟩))  (hd : x.d = false) (ho : opB s = true) (hwt : ∀ (Z : World) ow cw og cg on cn, Rd Z (.slice ow x.b.length cw) x.b → x.b.length ≤ cw → Rd Z (.slice og al.length cg) al → Rd Z (.slice on x'.b.length cn) x'.b → Calls Tryd.prog 35 #[spv s, .int .i64 (x.r : Int), .agg #[.slice ow x.b.length cw, .int .i64 (x.s : Int), .int .i64 0], .agg #[.slice og al.length cg, .int .i64 an, .int .i64 (ae : Int)], .agg #[.slice on x'.b.length cn, .int .i64 (x'.s : Int), .int .i64 0]] Z fun r' w' => r' = .returned (.bool true) ∧ Below Z.heap.size Z w') (hae : ((ae : Int) == 10) = false) (hxd : x'.d = false) (hxa : x'.a.length = x.a.length) :
    Calls Tryd.prog 12 #[ptr p, spv s, .int .i64 (x.r : Int), .int .i64 (x.a.length : Int)] w fun r' w' => Mvd base w e p F x' j r' w' := by
  obtain ⟨V, hV⟩ : ∃ V, V = w.alloc (stc s) := ⟨_, rfl⟩
  have BV : Below w.heap.size w V := by rw [hV]; exact (Below.refl _ _).alloc (Nat.le_refl _) _
  have hlb : x.b.length ≤ 4611686018427387904 := by have := h.fine.ok.most; omega
  have HR := hide (h.keep BV)
  have HS0 : Hid (Bk V F w.heap.size (stc s)) := ⟨by rw [hV]; exact heap_alloc_new _ _, fun hm => by have := h.disk.lt _ hm; omega⟩
  have HDD := hide (dead_any V p F x HR.out.disk)
  rw [hd] at HDD
  have HBV := hide BV
  have HV := hide hV
  have HST := hide hst
  have HO := hide ho
  have HT := hide ht
  have HJ := hide hj
  have HJ2 := hide hj2
  have HN := hide (And.intro h1 (And.intro h2 h3))
  have HXD : Hid (x'.d = false) := hxd
  have HXA : Hid ((x.a.length : Int) = (x'.a.length : Int)) := by show _ = _; rw [hxa]
  clear h hV BV hst hd ho ht hj hj2 h1 h2 h3  hxd hxa
  go_enter Tryd.func12, Tryd.ntmps12
  go_wp2_with fail
  rw [← HV.out]
  refine HDD.out.mono ?_
  rintro r' w' ⟨rfl, h'⟩
  obtain rfl := h'.symm
  clear HDD
  go_wp2_with fail
  refine (lookS_any V).mono ?_
  rintro r' w1 ⟨rfl, b1⟩
  have HR1 := hide (HR.out.keep b1)
  have HS1 := hide (HS0.out.below b1)
  have HB1 := hide (keepD HBV.out b1)
  clear b1 HR HS0 HBV HV
  go_wp2_with fail
  refine (HR1.out.look HJ.out).mono ?_
  rintro r' w2 ⟨vw, F2, rfl, hA2, hR2, hf2, hs2⟩
  obtain ⟨ow, cw, hvw, hcw⟩ := ans_cap hA2
  subst hvw
  obtain ⟨X2, hX2⟩ : ∃ X2, X2 = w2.alloc (said ow x.b.length cw (x.s : Int) 0) := ⟨_, rfl⟩
  have B2 : Below w2.heap.size w2 X2 := by rw [hX2]; exact (Below.refl _ _).alloc (Nat.le_refl _) _
  have HS2 := hide ((HS1.out.fr hf2 hs2).below B2)
  obtain ⟨bw, hbw⟩ : ∃ bw, bw = w2.heap.size := ⟨_, rfl⟩
  have HW2 : Hid (Bk X2 F2 bw (said ow x.b.length cw (x.s : Int) 0)) := ⟨by rw [hX2, hbw]; exact heap_alloc_new _ _, fun hm => by have := hR2.disk.lt _ hm; omega⟩
  have HL2 := hide (hA2.lv.below B2)
  have HR2 := hide (hR2.keep B2)
  have HF2 : Hid (Fr F w X2) := ((Fr.of HB1.out).trans hf2 (fun i hi => Or.inl hi)).trans (Fr.of B2 (F := F2)) (fun i hi => sub_trans (F := F) (F1 := F) (a := w.heap.size) (b := w1.heap.size) (fun k hk => Or.inl hk) hs2 HB1.out.size i hi)
  have HU2 : Hid (∀ k ∈ F2, k ∈ F ∨ w.heap.size ≤ k) := sub_trans (F := F) (F1 := F) (fun k hk => Or.inl hk) hs2 HB1.out.size
  have hz2 := B2.size
  have aS := HS2.out
  have a0 : X2.cell? ⟨w.heap.size, 0, none⟩ = some (.int .i64 s.k) := cell_of aS.is 0
  have a1 : X2.cell? ⟨w.heap.size, 0 + 1, none⟩ = some (.int .i64 s.o) := cell_of aS.is 1
  have a2 : X2.cell? ⟨w.heap.size, 0 + 2, none⟩ = some (.int .i64 s.n) := cell_of aS.is 2
  have a2' : X2.cell? ⟨w.heap.size, 2, none⟩ = some (.int .i64 s.n) := cell_of aS.is 2
  have a3 : X2.cell? ⟨w.heap.size, 0 + 3, none⟩ = some (.int .i64 s.m) := cell_of aS.is 3
  have a4 : X2.cell? ⟨w.heap.size, 0 + 4, none⟩ = some (.string s.t) := cell_of aS.is 4
  have HACT := hide (HR2.out.act s HT.out HJ.out HN.out.1 HN.out.2.1 HN.out.2.2)
  rw [HST.out] at HACT
  dsimp only at HACT
  have HX2 := hide hX2
  rw [hX2] at a0 a1 a2 a3 a4
  clear hA2 hR2 hf2 hs2 B2 hX2 HS1 HB1 HR1 aS a2' HST
  go_wp2_with fail
  rw [← HX2.out, ← hbw]
  refine HACT.out.mono ?_
  rintro r' w3 ⟨vg, F3, rfl, hA3, hR3, hf3, hs3⟩
  obtain ⟨og, cg, hvg, hcg⟩ := ans_cap hA3
  subst hvg
  dsimp only at hA3 hcg
  obtain ⟨X3, hX3⟩ : ∃ X3, X3 = w3.alloc (said og al.length cg an (ae : Int)) := ⟨_, rfl⟩
  have B3 : Below w3.heap.size w3 X3 := by rw [hX3]; exact (Below.refl _ _).alloc (Nat.le_refl _) _
  have HS3 := hide ((HS2.out.fr hf3 hs3).below B3)
  have HW3 := hide ((HW2.out.fr hf3 hs3).below B3)
  have HL3 := hide ((HL2.out.fr hf3 hs3).below B3)
  obtain ⟨bg, hbg⟩ : ∃ bg, bg = w3.heap.size := ⟨_, rfl⟩
  have HG3 : Hid (Bk X3 F3 bg (said og al.length cg an (ae : Int))) := ⟨by rw [hX3, hbg]; exact heap_alloc_new _ _, fun hm => by have := hR3.disk.lt _ hm; omega⟩
  have HK3 := hide (hA3.lv.below B3)
  have HR3 := hide (hR3.keep B3)
  have HU3 : Hid (∀ k ∈ F3, k ∈ F ∨ w.heap.size ≤ k) := sub_trans HU2.out hs3 HF2.out.size
  have HF3 : Hid (Fr F w X3) := (HF2.out.trans hf3 HU2.out).trans (Fr.of B3 (F := F3)) HU3.out
  have HX3 := hide hX3
  clear hA3 hR3 hf3 hs3 B3 hX3 HS2 HW2 HL2 HR2 HF2 HU2 HACT HX2 hbw hz2 a0 a1 a2 a3 a4
  go_wp2_with fail
  rw [← HX3.out, ← hbg]
  refine (lookS_any X3).mono ?_
  rintro r' w4 ⟨rfl, b4⟩
  have HLK := hide ((HR3.out.keep b4).look HJ2.out)
  have HS4 := hide (HS3.out.below b4)
  have HW4 := hide (HW3.out.below b4)
  have HL4 := hide (HL3.out.below b4)
  have HG4 := hide (HG3.out.below b4)
  have HK4 := hide (HK3.out.below b4)
  have HF4 : Hid (Fr F w w4) := HF3.out.trans (Fr.of b4 (F := F3)) HU3.out
  clear b4 HS3 HW3 HL3 HG3 HK3 HR3 HF3 HX3 hbg
  go_wp2_with fail
  refine HLK.out.mono ?_
  rintro r' w5 ⟨vn, F5, rfl, hA5, hR5, hf5, hs5⟩
  obtain ⟨on, cn, hvn, hcn⟩ := ans_cap hA5
  subst hvn
  obtain ⟨X5, hX5⟩ : ∃ X5, X5 = w5.alloc (said on x'.b.length cn (x'.s : Int) 0) := ⟨_, rfl⟩
  have B5 : Below w5.heap.size w5 X5 := by rw [hX5]; exact (Below.refl _ _).alloc (Nat.le_refl _) _
  have bS := (HS4.out.fr hf5 hs5).below B5
  have HW5 := hide ((HW4.out.fr hf5 hs5).below B5)
  have HL5 := hide ((HL4.out.fr hf5 hs5).below B5)
  have HG5 := hide ((HG4.out.fr hf5 hs5).below B5)
  have HK5 := hide ((HK4.out.fr hf5 hs5).below B5)
  obtain ⟨bn, hbn⟩ : ∃ bn, bn = w5.heap.size := ⟨_, rfl⟩
  have HN5 : Hid (Bk X5 F5 bn (said on x'.b.length cn (x'.s : Int) 0)) := ⟨by rw [hX5, hbn]; exact heap_alloc_new _ _, fun hm => by have := hR5.disk.lt _ hm; omega⟩
  have HM5 := hide (hA5.lv.below B5)
  have HR5 := hide (hR5.keep B5)
  have HU5 : Hid (∀ k ∈ F5, k ∈ F ∨ w.heap.size ≤ k) := sub_trans HU3.out hs5 HF4.out.size
  have HF5 : Hid (Fr F w X5) := (HF4.out.trans hf5 HU3.out).trans (Fr.of B5 (F := F5)) HU5.out
  have HFN : Hid (∀ Z, Below X5.heap.size X5 Z → Fnl base w e p F x' j Z) := fun Z hZ => ⟨F5, HR5.out.keep hZ, HF5.out.trans (Fr.of hZ (F := F5)) HU5.out, HU5.out⟩
  have HS5 := hide bS
  have b0 : X5.cell? ⟨w.heap.size, 0, none⟩ = some (.int .i64 s.k) := cell_of bS.is 0
  have b1 : X5.cell? ⟨w.heap.size, 0 + 1, none⟩ = some (.int .i64 s.o) := cell_of bS.is 1
  have b2 : X5.cell? ⟨w.heap.size, 0 + 2, none⟩ = some (.int .i64 s.n) := cell_of bS.is 2
  have b2' : X5.cell? ⟨w.heap.size, 2, none⟩ = some (.int .i64 s.n) := cell_of bS.is 2
  have b3 : X5.cell? ⟨w.heap.size, 0 + 3, none⟩ = some (.int .i64 s.m) := cell_of bS.is 3
  have b4 : X5.cell? ⟨w.heap.size, 0 + 4, none⟩ = some (.string s.t) := cell_of bS.is 4
  have HX5 := hide hX5
  rw [hX5] at b0 b1 b2 b3 b4
  have HOP := hide (operation_any X5 s)
  rw [HO.out] at HOP
  clear hA5 hR5 hf5 hs5 B5 hX5 HS4 HW4 HL4 HG4 HK4 HF4 HF5 HU5 HU3 HLK bS b2'
  go_wp2_with fail
  rw [← HX5.out, ← hbn]
  refine HOP.out.mono ?_
  rintro r' w6 ⟨rfl, b6⟩
  have cS := HS5.out.below b6
  have cW := HW5.out.below b6
  have cG := HG5.out.below b6
  have cN := HN5.out.below b6
  have c0 : w6.cell? ⟨w.heap.size, 0, none⟩ = some (.int .i64 s.k) := cell_of cS.is 0
  have c1 : w6.cell? ⟨w.heap.size, 0 + 1, none⟩ = some (.int .i64 s.o) := cell_of cS.is 1
  have c2 : w6.cell? ⟨w.heap.size, 0 + 2, none⟩ = some (.int .i64 s.n) := cell_of cS.is 2
  have c2' : w6.cell? ⟨w.heap.size, 2, none⟩ = some (.int .i64 s.n) := cell_of cS.is 2
  have c3 : w6.cell? ⟨w.heap.size, 0 + 3, none⟩ = some (.int .i64 s.m) := cell_of cS.is 3
  have c4 : w6.cell? ⟨w.heap.size, 0 + 4, none⟩ = some (.string s.t) := cell_of cS.is 4
  have cW0 : w6.cell? ⟨bw, 0, none⟩ = some (.slice ow x.b.length cw) := cell_of cW.is 0
  have cW1 : w6.cell? ⟨bw, 0 + 1, none⟩ = some (.int .i64 (x.s : Int)) := cell_of cW.is 1
  have cW1' : w6.cell? ⟨bw, 1, none⟩ = some (.int .i64 (x.s : Int)) := cell_of cW.is 1
  have cW2 : w6.cell? ⟨bw, 0 + 2, none⟩ = some (.int .i64 0) := cell_of cW.is 2
  have cW2' : w6.cell? ⟨bw, 2, none⟩ = some (.int .i64 0) := cell_of cW.is 2
  have cG0 : w6.cell? ⟨bg, 0, none⟩ = some (.slice og al.length cg) := cell_of cG.is 0
  have cG1 : w6.cell? ⟨bg, 0 + 1, none⟩ = some (.int .i64 an) := cell_of cG.is 1
  have cG1' : w6.cell? ⟨bg, 1, none⟩ = some (.int .i64 an) := cell_of cG.is 1
  have cG2 : w6.cell? ⟨bg, 0 + 2, none⟩ = some (.int .i64 (ae : Int)) := cell_of cG.is 2
  have cG2' : w6.cell? ⟨bg, 2, none⟩ = some (.int .i64 (ae : Int)) := cell_of cG.is 2
  have cN0 : w6.cell? ⟨bn, 0, none⟩ = some (.slice on x'.b.length cn) := cell_of cN.is 0
  have cN1 : w6.cell? ⟨bn, 0 + 1, none⟩ = some (.int .i64 (x'.s : Int)) := cell_of cN.is 1
  have cN1' : w6.cell? ⟨bn, 1, none⟩ = some (.int .i64 (x'.s : Int)) := cell_of cN.is 1
  have cN2 : w6.cell? ⟨bn, 0 + 2, none⟩ = some (.int .i64 0) := cell_of cN.is 2
  have cN2' : w6.cell? ⟨bn, 2, none⟩ = some (.int .i64 0) := cell_of cN.is 2
  have HL6 := hide (HL5.out.below b6)
  have HK6 := hide (HK5.out.below b6)
  have HM6 := hide (HM5.out.below b6)
  have HR6 := hide (HR5.out.keep b6)
  have HB6 := hide b6
  have HS6 := hide cS
  have HW6 := hide cW
  have HG6 := hide cG
  have HN6 := hide cN
  clear cS cW cG cN b6 HS5 HW5 HG5 HN5 HL5 HK5 HM5 HR5 HOP HX5 hbn b0 b1 b2 b3 b4
  have HWT := hide (hwt w6 ow cw og cg on cn HL6.out.rd hcw HK6.out.rd HM6.out.rd)
  clear hwt
  go_wp2_with fail
  refine HWT.out.mono ?_
  rintro r' w7 ⟨rfl, b7⟩
  have HD7 := hide (dead_any w7 p _ x' (HR6.out.disk.below b7))
  rw [HXD.out] at HD7
  have HZ := hide (HFN.out w7 (keepD HB6.out b7))
  clear b7 HWT
  go_wp2_with (go_at_call 10; refine HD7.out.mono ?_; rintro r' w8 ⟨rfl, rfl⟩)
  go_ret2
  exact HZ.out.mvd HXA.out

end Go.Proofs.YtjfpjgialdkhkaaDoor.dk
