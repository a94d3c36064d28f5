import Derived.Test.YtkamnkldgeaaaaaDoorDaSl
import Derived.Test.YtkamnkldgeaaaaaDoorDaWhole
import Derived.Test.YtkamnkldgeaaaaaDoorDrPlays
import Derived.Test.YtkamnkldgeaaaaaDoorDkKinds
import Derived.Test.YtkamnkldgeaaaaaDoorKitB
import Derived.Test.YtkamnkldgeaaaaaDoorRdCopy
import Derived.Deep.RegionHeld3
namespace Go.Proofs.YtkamnkldgeaaaaaDoor.da
open Go.ChangeShapes Go.WideShapes Go.ChangeAt Go.RowKit Go.Proofs.YtkamnkldgeaaaaaDoor.common Go.Proofs.YtkamnkldgeaaaaaDoor.dk Go.Proofs.YtkamnkldgeaaaaaDoor.dr

theorem wrap_sum (s m : Nat) (h : s + m ≤ 4611686018427387904) : wrap64 ((s : Int) + (m : Int)) = ((s + m : Nat) : Int) := by unfold wrap64; omega
theorem le_of_sum {s m a b : Nat} (h1 : s ≤ a) (h2 : m ≤ b) (h : a + b ≤ 4611686018427387904) : s + m ≤ 4611686018427387904 := Nat.le_trans (Nat.add_le_add h1 h2) h
theorem m6_le {m n : Nat} (h : m = n + 64) (hn : n ≤ 140737488355328) : m ≤ 140737488355392 := by omega
theorem s64_le {s m n j S : Nat} (h : m = n + 64) (hs : 64 * j ≤ s) (hS : S = s + m) : 64 * (j + 1) ≤ S := by omega
theorem sN_le {s m j S : Nat} (hm : m ≤ 140737488355392) (hs : s ≤ j * 140737488355392) (hS : S = s + m) : S ≤ (j + 1) * 140737488355392 := by rw [hS, Nat.succ_mul]; exact Nat.add_le_add hs hm
/-- what holds while the lists are grown -/
def GrI (i : Nat) (S : World → Prop) (G : World → Prop) (vg vj : Value) (wx : World) : Prop := ∃ (j s : Nat), j ≤ i ∧ vj = .int .i64 j ∧ vg = .int .i64 s ∧ 64 * j ≤ s ∧ s ≤ j * 140737488355392 ∧ S wx ∧ G wx
/-- an append's run, closed to the walk -/
def Apd (ou : Option Addr) (n cu : Nat) (ox : Option Addr) (cx : Nat) (vg : Value) (w' Wg : World) : Prop := (Builtin.append_ #[25, 25] 25 #[.slice ou n cu, .slice ox 64 cx]).run Tryd.prog w' = .ok vg Wg
theorem Apd.out {ou : Option Addr} {n cu : Nat} {ox : Option Addr} {cx : Nat} {vg : Value} {w' Wg : World} (h : Apd ou n cu ox cx vg w' Wg) : (Builtin.append_ #[25, 25] 25 #[.slice ou n cu, .slice ox 64 cx]).run Tryd.prog w' = .ok vg Wg := h
theorem own_least' {w : World} {base base' : Nat} {e : TypeId} {size : Nat} {v : Value} {n : Nat} {xs : List Value} (h : w.ownsRow base e size v n xs) (hb : base' ≤ base) : w.ownsRow base' e size v n xs := by
  refine ⟨h.1, ?_⟩
  rcases h.2 with h1 | ⟨g, cap, cur, rfl, h1, h2⟩
  · exact Or.inl h1
  · exact Or.inr ⟨g, cap, cur, rfl, Nat.le_trans hb h1, h2⟩
set_option maxRecDepth 100000 in
set_option maxHeartbeats 25600000 in
theorem strewn_any (w : World) (room : Int) (data : ByteArray) (other : Int) (vs : Value) (ss : List Sp) (hs : LiesP w vs ss) (hS : dk.Steps ss) (hdt : data.size ≤ reachBytes) (e : Nat → Addr) (he : errw.Errs w e) :
    Calls Tryd.prog 17 #[scvQ room data other vs] w fun r' w' => r' = .returned (.bool true) ∧ Below w.heap.size w w' := by
  obtain ⟨j0, hj, hy0, hy1, hy2⟩ := info_parts infoSl
  have HLI := hide hs
  obtain ⟨oa, cap, rfl, _⟩ := hs
  obtain ⟨W0, hW0⟩ : ∃ W0, W0 = w.alloc (.cells #[.int .i64 room, .string data, .int .i64 other, .slice oa ss.length cap] 24) := ⟨_, rfl⟩
  have hB0 : Below w.heap.size w W0 := by rw [hW0]; exact (Below.refl _ _).alloc (Nat.le_refl _) _
  have hX0 : W0.heap[w.heap.size]? = some (.cells #[.int .i64 room, .string data, .int .i64 other, .slice oa ss.length cap] 24) := by rw [hW0]; exact heap_alloc_new _ _
  have hz0 : w.heap.size < W0.heap.size := by rw [hW0]; simp
  have HB0 := hide hB0
  have HX0 := hide hX0
  have HLP := hide (HLI.out.below hB0)
  have HE0 := hide (er_of (he.below hB0))
  have HSS := hide hS
  have HW0 := hide hW0
  have hlen : ss.length ≤ 8796093022207 := by have := hS.len; omega
  obtain ⟨D, hD⟩ : ∃ D, D = data.data.toList := ⟨_, rfl⟩
  have hDl : D.length = data.size := by rw [hD, Array.length_toList]; rfl
  have hdl : D.length ≤ 140737488351232 := by rw [hDl]; exact hdt
  have HDT := hide hdt
  have HD := hide hD
  have HDL := hide hDl
  clear hX0 hB0 hS he hW0 hdt hD hDl
  go_enter Tryd.func17, Tryd.ntmps17
  go_wp2_with fail
  rw [← HW0.out]
  have v1 : ∀ X, Below W0.heap.size W0 X → X.cell? ⟨w.heap.size, 1, none⟩ = some (.string data) := fun X hX => cell_of ((hX.block _ (by omega)).trans HX0.out) 1
  have v2 : ∀ X, Below W0.heap.size W0 X → X.cell? ⟨w.heap.size, 0, none⟩ = some (.int .i64 room) := fun X hX => cell_of ((hX.block _ (by omega)).trans HX0.out) 0
  go_region_held3 (fun X => Below W0.heap.size W0 X)
    (first
      | exact Below.refl _ _
      | assumption
      | exact keepD (by assumption) (by assumption)
      | exact Below.drew (by assumption)
      | exact (Below.refl _ _).drew)
    (first
      | (go_at_call 4; refine (kitw.bytes_any data _ HDT.out).mono ?_; rintro x' w8 ⟨v8, rfl, o8, n8, b8⟩)
      | (go_at_call 5; refine (open_any _ _ D room (rd_own (by rw [HDL.out, HD.out]; assumption)) (by omega)).mono ?_; rintro x' w9 ⟨pa, Fa, rfl, d9, f9, b9⟩))
  have hB9 : Below W0.heap.size W0 w9 := by assumption
  have hw8 : W0.heap.size ≤ w8.heap.size := b8.size
  have HB9 := hide hB9
  have HRa : Hid (Run W0.heap.size w9 e pa Fa ⟨D, D.length, roomOf room, [], false⟩ 0) := ⟨d9, fun q hq => Nat.le_trans hw8 (f9 q hq), HE0.out.below hB9, fine_new _ _ room (Nat.le_refl _) (by omega), Nat.le_refl _⟩
  obtain ⟨o88, c88, rfl⟩ : ∃ o c, v8 = .slice o data.size c := by
    obtain ⟨o, c, e8, _⟩ := own_slice o8
    exact ⟨o, c, e8⟩
  obtain ⟨base, hbase⟩ : ∃ base, base = W0.heap.size := ⟨_, rfl⟩
  rw [← hbase] at HRa
  have HB9' : Hid (Below base W0 w9) := by rw [hbase]; exact hB9
  have HBS := hide hbase
  have hbz : w.heap.size < base := by omega
  clear o8 n8 b8 d9 f9 b9 v2 v1 hB9 hw8 hbase hz0
  go_wp2_with fail
  go_loopw [4, 5] (fun vl i wr => ∃ (k : Nat) (F : List Nat) (x : St) (us : List Value) (L : Nat → List UInt8), k ≤ ss.length ∧ k ≤ 60 ∧ i = .int .i64 k ∧ Hid (Run base wr e pa F x k) ∧ Hid (Sl base wr F vl us L) ∧ Hid (us.length = 2 * k) ∧ Hid (Below base W0 wr) ∧ Hid (∀ j, (L j).length ≤ 140737488355328)) (fun _ i _ => ss.length - (intOf i).toNat)
  case atStart => exact ⟨0, Fa, _, [], fun _ => [], Nat.zero_le _, Nat.zero_le _, rfl, HRa, Sl.start _ _ _ _, rfl, HB9', fun _ => Nat.zero_le _⟩
  case round =>
    clear HRa HB9 HB9'
    obtain ⟨k, F, x, us, L, hk, hk6, rfl, HR, HSL, HUL, HLO, HLB⟩ := hrel
    have hzw : base ≤ wr.heap.size := by have := HLO.out.size; have := HBS.out; omega
    have HBZ0 := hide hzw
    have hX1 := (HLO.out.block _ hbz).trans HX0.out
    have x3 : wr.cell? ⟨w.heap.size, 3, none⟩ = some (.slice oa ss.length cap) := cell_of hX1 3
    clear hX1
    obtain ⟨ol, cl, hvl, _⟩ := own_slice HSL.out.row
    obtain ⟨N, hN⟩ : ∃ N, N = us.length := ⟨_, rfl⟩
    rw [← hN] at hvl
    subst hvl
    have HN := hide hN
    have hN2 : N ≤ 120 := by have := HUL.out; omega
    clear hN
    by_cases hlt : k < ss.length ∧ k < 60
    · obtain ⟨hlt, h60⟩ := hlt
      have HPk := hide (HLP.out.below (by rw [← HBS.out]; exact HLO.out))
      obtain ⟨oa', cap', hv', hst⟩ := HPk.out
      cases hv'
      obtain ⟨bs, os, rfl, hbs, hrs⟩ := hst k hlt
      have HRS := hide hrs
      have HSN := hide (HSS.out.num ss[k] (List.getElem_mem hlt))
      have HST := hide (HSS.out.text ss[k] (List.getElem_mem hlt))
      have hj1 : (k + 1) * 16 ≤ 140737488355328 := by omega
      have hj2 : (k + 1 + 1) * 16 ≤ 140737488355328 := by omega
      clear hst hrs HPk
      generalize ss[k] = s at *
      have k0 : (0 : Int) ≤ (k : Int) := Int.natCast_nonneg _
      have k1 : (k : Int) < (ss.length : Int) := by omega
      have k2 : (k : Int) < 60 := by omega
      have HAC := hide (HR.out.act s HST.out hj1 HSN.out.1 HSN.out.2.1 HSN.out.2.2)
      have HLL := hide (step_len x s HR.out.fine)
      obtain ⟨an, han⟩ : ∃ an, x.step s = an := ⟨_, rfl⟩
      rw [han] at HAC HLL
      clear han
      obtain ⟨x1, l1, n1, e1⟩ := an
      dsimp only at HAC HLL
      unfold Ran at HAC
      dsimp only at HAC
      go_wp2_with (refine wpList_load_mid rfl 38 (.tmp 40) rfl bs (os + k * 5) rfl _ _ HRS.out Tryd.underlying38 rfl sizeStep ?_)
      refine HAC.out.mono ?_
      rintro r' w1 ⟨u1, F1, rfl, hA1, hR1, hf1, hs1⟩
      obtain ⟨o1, c1, hu1⟩ := hA1.form
      have hSl1 := HSL.out.other hf1 HSL.out.dis hs1
      obtain ⟨hO1, hb1⟩ := ans_own (base := base) hA1 hzw HLL.out
      subst hu1
      obtain ⟨X1, hX1⟩ : ∃ X, X = w1.alloc (.cells #[.slice o1 l1.length c1, .int .i64 n1, .int .i64 (e1 : Int)] 45) := ⟨_, rfl⟩
      have bX1 : Below w1.heap.size w1 X1 := by rw [hX1]; exact (Below.refl _ _).alloc (Nat.le_refl _) _
      have HQ1 : Hid (X1.heap[w1.heap.size]? = some (.cells #[.slice o1 l1.length c1, .int .i64 n1, .int .i64 (e1 : Int)] 45)) := by show _ = _; rw [hX1]; exact heap_alloc_new _ _
      have HX1 := hide hX1
      have HLK := hide (lookS_any X1)
      have hz1 := hf1.size
      have hzX1 : w1.heap.size < X1.heap.size := by rw [hX1]; simp
      clear hX1 HAC
      go_wp2_with fail
      rw [← HX1.out]
      refine HLK.out.mono ?_
      rintro r' w2 ⟨rfl, b2⟩
      have b12 := keepD bX1 b2
      have hR2 := hR1.keep b12
      have hSl2 := hSl1.below b12
      have hO2 := own_below hO1 b12
      have HQ2 := hide ((b2.block _ hzX1).trans HQ1.out)
      have hz2 := b12.size
      have hz2' := b2.size
      have HF1 : Hid (∀ q ∈ F1, q < w1.heap.size) := hR1.disk.lt
      have HLA := hide (hR2.look hj2)
      have HXL : Hid (x1.b.length ≤ 140737488355328) := hR2.fine.ok.most
      go_wp2_with fail
      refine HLA.out.mono ?_
      rintro r' w3 ⟨u2, F2, rfl, hA2, hR3, hf2, hs2⟩
      obtain ⟨o2, c2, hu2⟩ := hA2.form
      have hSl3 := hSl2.other hf2 hSl2.dis hs2
      obtain ⟨hO3, hb3⟩ := ans_own (base := base) hA2 (by omega) HXL.out
      have hO13 := own_fr hO2 hf2 (fun g hg hm => (hb1 g hg).2.1 hm)
      have HQ3 := hide ((hf2.block _ (by omega) (fun hm => by have := HF1.out _ hm; omega)).trans HQ2.out)
      have hz3 := hf2.size
      have HK1 : Hid (∀ g, (Value.slice o1 l1.length c1).ownBlock = some g → g ∉ F2 ∧ g < w2.heap.size) := fun g hg => ⟨fun hm => by
        have h1 := hb1 g hg
        rcases hs2 g hm with h | h
        · exact h1.2.1 h
        · omega, by have h1 := hb1 g hg; omega⟩
      have HK2 : Hid (∀ g, u2.ownBlock = some g → g ∉ F2 ∧ w2.heap.size ≤ g) := fun g hg => ⟨(hb3 g hg).2.1, (hb3 g hg).1⟩
      have HUS1 : Hid (∀ v ∈ us, ∀ g, v.ownBlock = some g → g < wr.heap.size) := fun v hv g hg => (HSL.out.lt.2 v hv g hg).2
      have HB1' : Hid (∀ g, (Value.slice o1 l1.length c1).ownBlock = some g → wr.heap.size ≤ g) := fun g hg => (hb1 g hg).1
      subst hu2
      obtain ⟨X3, hX3⟩ : ∃ X, X = w3.alloc (.cells #[.slice o2 x1.b.length c2, .int .i64 (x1.s : Int), .int .i64 0] 45) := ⟨_, rfl⟩
      have bX3 : Below w3.heap.size w3 X3 := by rw [hX3]; exact (Below.refl _ _).alloc (Nat.le_refl _) _
      have HQ4 : Hid (X3.heap[w3.heap.size]? = some (.cells #[.slice o2 x1.b.length c2, .int .i64 (x1.s : Int), .int .i64 0] 45)) := by show _ = _; rw [hX3]; exact heap_alloc_new _ _
      have HQ5 := hide ((bX3.block _ (by omega)).trans HQ3.out)
      have HR3 := hide (hR3.keep bX3)
      have HS3 := hide (hSl3.below bX3)
      have HO1 := hide (own_below hO13 bX3)
      have HO2 := hide (own_below hO3 bX3)
      have hzX3 : w3.heap.size < X3.heap.size := by rw [hX3]; simp
      have HBZ : Hid (base ≤ X3.heap.size) := by show _ ≤ _; omega
      have HLOX : Hid (Below base W0 X3) := (((HLO.out.trans (hf1.below HR.out.low hzw)).trans (b12.mono (by omega))).trans (hf2.below hR2.low (by omega))).trans (bX3.mono (by omega))
      have c01 : X3.cell? ⟨w1.heap.size, 0, none⟩ = some (.slice o1 l1.length c1) := cell_of HQ5.out 0
      have HX3 := hide hX3
      have HC2 := hide (cell_of HQ4.out 0)
      clear hX3 hR1 hR2 hR3 hSl1 hSl2 hSl3 hO1 hO2 hO3 hO13 hA1 hA2 hb1 hb3 hf1 hf2 hs1 hs2 b12 b2 bX1 bX3 HLA HLK HQ1 HQ2 HQ3 HQ5 HR HSL HX1 HF1
      obtain ⟨m1, hm1⟩ : ∃ m, m = l1.length := ⟨_, rfl⟩
      obtain ⟨m2, hm2⟩ : ∃ m, m = x1.b.length := ⟨_, rfl⟩
      rw [← hm1] at HO1 HK1 HB1' c01 ⊢
      rw [← hm2] at HO2 HK2 HC2 HX3 HXL ⊢
      have HLM : Hid (m1 ≤ 140737488355328) := by show _ ≤ _; rw [hm1]; exact HLL.out
      clear HLL
      have HM1 := hide hm1
      have HM2 := hide hm2
      clear hm1 hm2
      have HRW := hide (HS3.out.row.alloc (.cells #[.slice o1 m1 c1] 25))
      have HNEW : Hid (∀ j u, [.slice o1 m1 c1][j]? = some u → (X3.alloc (.cells #[.slice o1 m1 c1] 25)).cell? ((⟨X3.heap.size, 0, none⟩ : Addr).add j) = some u) := cell_one_new X3 (.slice o1 m1 c1) 25
      have hRWn := HRW.out
      rw [← HN.out] at hRWn
      have HRW := hide hRWn
      clear hRWn
      have HZX : Hid (X3.heap.size = w3.heap.size + 1) := by show _ = _; rw [HX3.out]; simp
      have HRW : Hid (((w3.alloc (.cells #[.slice o2 m2 c2, .int .i64 (x1.s : Int), .int .i64 0] 45)).alloc (.cells #[.slice o1 m1 c1] 25)).ownsRow base 25 1 (.slice ol N cl) N us) := by show World.ownsRow _ _ _ _ _ _ _; rw [← HX3.out]; exact HRW.out
      have HNEW : Hid (∀ j u, [Value.slice o1 m1 c1][j]? = some u → ((w3.alloc (.cells #[.slice o2 m2 c2, .int .i64 (x1.s : Int), .int .i64 0] 45)).alloc (.cells #[.slice o1 m1 c1] 25)).cell? ((⟨w3.heap.size + 1, 0, none⟩ : Addr).add j) = some u) := by have h1 := HNEW.out; rw [HZX.out, HX3.out] at h1; exact h1
      have c01 : (w3.alloc (.cells #[.slice o2 m2 c2, .int .i64 (x1.s : Int), .int .i64 0] 45)).cell? ⟨w1.heap.size, 0, none⟩ = some (.slice o1 m1 c1) := by rw [← HX3.out]; exact c01
      have HBZ3 := HBZ
      have HBZ : Hid (base ≤ w3.heap.size) := by have := HBZ0.out; show _ ≤ _; omega
      go_wp2_with (at_builtin; refine ak.wpList_append_keep _ rfl _ _ 33 rfl base 25 j0 (.slice none 0 0) 1 24 Tryd.underlying33 hj hy0 hy1 hy2 rfl (by decide) (.slice ol N cl) N _ rfl HRW.out ⟨(w3.heap.size + 1), 0, none⟩ 1 [.slice o1 m1 c1] rfl rfl HNEW.out ?a2 ?a3 ?a4 ?a5 ?_)
      case a2 => intro u hu; simp at hu; rw [hu]; rfl
      case a3 =>  unfold maxLen; omega
      case a4 =>  omega
      case a5 => first | exact HBZ.out | (have := HBZ.out; simp; omega)
      have HBZ := HBZ3
      intro v4 w4 hown hw
      have hgrow : (X3.alloc (.cells #[.slice o1 m1 c1] 25)).grownBy w4 (Value.ownBlock (.slice ol N cl)) := by
        rw [HX3.out]
        rcases hw with ⟨g, cap, e1, _, hg⟩ | ⟨_, hg⟩
        · first | (rw [e1.1]; exact hg) | (rw [e1]; exact hg)
        · exact ⟨hg.os, hg.tape, hg.output, hg.size, fun k hk _ => hg.block k hk (by simp)⟩
      have hat : ∀ b, (v4).ownBlock = some b → Value.ownBlock (.slice ol N cl) = some b ∨ X3.heap.size ≤ b := fun b hb' => by
        rcases hw with ⟨g, cap, e1, e2, _⟩ | ⟨e1, _⟩
        · rw [e2] at hb'; first | (rw [e1.1]; exact Or.inl hb') | (rw [e1]; exact Or.inl hb')
        · rw [e1] at hb'; cases hb'; exact Or.inr (by rw [HX3.out]; simp)
      have hfx : Fr (Value.ownBlock (.slice ol N cl)).toList X3 w4 := ((Fr.refl _ _).alloc _).trans (fr_grown' hgrow) (fun i hi => Or.inl hi)
      clear hw hgrow
      have hO1p : X3.ownsRow base 5 1 (.slice o1 m1 c1) l1.length (l1.map B) := by rw [← HM1.out]; exact HO1.out
      have hO2p : X3.ownsRow base 5 1 (.slice o2 m2 c2) x1.b.length (x1.b.map B) := by rw [← HM2.out]; exact HO2.out
      have hown' : w4.ownsRow base 25 1 v4 (us.length + 1) (us ++ [.slice o1 m1 c1]) := by rw [← HN.out]; exact hown
      have hrl : X3.ownsRow base 25 1 (.slice ol N cl) us.length us := HS3.out.row
      have hS4 := HS3.out.push hO1p (fun g hg => ⟨(HK1.out g hg).1, fun v hv hv' => by have h1 := HUS1.out v hv g hv'; have h2 := HB1'.out g hg; omega⟩) hown' hfx hat HR3.out.disk.lt
      have hrb : ∀ b, (Value.slice ol N cl).ownBlock = some b → base ≤ b ∧ b < X3.heap.size := fun b hb' => hrl.lt b hb'
      have hR4 : Run base w4 e pa F2 x1 (k + 1) := HR3.out.other hfx (fun b hb' hm => (HS3.out.dis b hb').1 (Option.mem_toList.1 hm)) (fun b hb' => (hrb b (Option.mem_toList.1 hb')).1)
      have hO24 := own_fr hO2p hfx (fun g hg hm => rows_apart (by decide) hO2p hrl g hg (Option.mem_toList.1 hm))
      have hq4 := (hfx.block w3.heap.size hzX3 (fun hm => box_apart (by decide) hrl HQ4.out (Option.mem_toList.1 hm))).trans HQ4.out
      have hL4 : Below base W0 w4 := HLOX.out.trans (hfx.below (fun b hb' => (hrb b (Option.mem_toList.1 hb')).1) HBZ.out)
      have hz4 := hfx.size
      obtain ⟨o4, c4, hv4, _⟩ := own_slice hown
      obtain ⟨N4, hN4⟩ : ∃ N4, N4 = N + 1 := ⟨_, rfl⟩
      rw [← hN4] at hv4
      subst hv4
      have HN4 := hide hN4
      have hN4b : N4 ≤ 121 := by omega
      have HS4 := hide hS4
      have HR4 := hide hR4
      have HO4 := hide hO24
      have HLO4 := hide hL4
      have HQ7 := hide hq4
      have c02 : w4.cell? ⟨w3.heap.size, 0, none⟩ = some (.slice o2 m2 c2) := by rw [HM2.out]; exact cell_of hq4 0
      have HBZ : Hid (base ≤ w4.heap.size) := Nat.le_trans HBZ.out hz4
      have HU4 : Hid (us.length + 1 = N4) := by show _ = _; rw [HN4.out, HN.out]
      clear hown hown' hat hfx hO1p hO2p hrl hS4 hrb hR4 hO24 hq4 hL4 hN4 HRW HNEW HS3 HR3 HLOX
      have HRW := hide (HS4.out.row.alloc (.cells #[.slice o2 m2 c2] 25))
      have HNEW : Hid (∀ j u, [.slice o2 m2 c2][j]? = some u → (w4.alloc (.cells #[.slice o2 m2 c2] 25)).cell? ((⟨w4.heap.size, 0, none⟩ : Addr).add j) = some u) := cell_one_new w4 (.slice o2 m2 c2) 25
      have hRWn := HRW.out
      rw [List.length_append, List.length_singleton, HU4.out] at hRWn
      have HRW := hide hRWn
      clear hRWn
      go_wp2_with (at_builtin; refine ak.wpList_append_keep _ rfl _ _ 33 rfl base 25 j0 (.slice none 0 0) 1 24 Tryd.underlying33 hj hy0 hy1 hy2 rfl (by decide) (.slice o4 N4 c4) N4 _ rfl HRW.out ⟨w4.heap.size, 0, none⟩ 1 [.slice o2 m2 c2] rfl rfl HNEW.out ?b2 ?b3 ?b4 ?b5 ?_)
      case b2 => intro u hu; simp at hu; rw [hu]; rfl
      case b3 =>  unfold maxLen; omega
      case b4 =>  omega
      case b5 => first | exact HBZ.out | (have := HBZ.out; simp; omega)
      intro v5 w5 hown hw
      have hgrow : (w4.alloc (.cells #[.slice o2 m2 c2] 25)).grownBy w5 (Value.ownBlock (.slice o4 N4 c4)) := by
        rcases hw with ⟨g, cap, e1, _, hg⟩ | ⟨_, hg⟩
        · first | (rw [e1.1]; exact hg) | (rw [e1]; exact hg)
        · exact ⟨hg.os, hg.tape, hg.output, hg.size, fun k hk _ => hg.block k hk (by simp)⟩
      have hat : ∀ b, (v5).ownBlock = some b → Value.ownBlock (.slice o4 N4 c4) = some b ∨ w4.heap.size ≤ b := fun b hb' => by
        rcases hw with ⟨g, cap, e1, e2, _⟩ | ⟨e1, _⟩
        · rw [e2] at hb'; first | (rw [e1.1]; exact Or.inl hb') | (rw [e1]; exact Or.inl hb')
        · rw [e1] at hb'; cases hb'; exact Or.inr (by  simp)
      have hfx : Fr (Value.ownBlock (.slice o4 N4 c4)).toList w4 w5 := ((Fr.refl _ _).alloc _).trans (fr_grown' hgrow) (fun i hi => Or.inl hi)
      clear hw hgrow
      have hown' : w5.ownsRow base 25 1 v5 ((us ++ [Value.slice o1 m1 c1]).length + 1) ((us ++ [Value.slice o1 m1 c1]) ++ [Value.slice o2 m2 c2]) := by rw [List.length_append, List.length_singleton, HU4.out, List.append_assoc]; exact hown
      have hrl : w4.ownsRow base 25 1 (.slice o4 N4 c4) _ _ := HS4.out.row
      have hS5 := HS4.out.push HO4.out (fun g hg => ⟨(HK2.out g hg).1, fun v hv hv' => by
        have h2 := (HK2.out g hg).2
        rcases List.mem_append.1 hv with h | h
        · have h1 := HUS1.out v h g hv'; omega
        · rw [List.mem_singleton.1 h] at hv'
          have h1 := (HK1.out g hv').2
          omega⟩) hown' hfx hat HR4.out.disk.lt
      have hrb : ∀ b, (Value.slice o4 N4 c4).ownBlock = some b → base ≤ b ∧ b < w4.heap.size := fun b hb' => hrl.lt b hb'
      have HR5 : Hid (Run base w5 e pa F2 x1 (k + 1)) := HR4.out.other hfx (fun b hb' hm => (HS4.out.dis b hb').1 (Option.mem_toList.1 hm)) (fun b hb' => (hrb b (Option.mem_toList.1 hb')).1)
      have HLO5 : Hid (Below base W0 w5) := HLO4.out.trans (hfx.below (fun b hb' => (hrb b (Option.mem_toList.1 hb')).1) HBZ.out)
      have HS5 := hide hS5
      have HLB5 : Hid (∀ j, ((fun i => if i = (us ++ [Value.slice o1 m1 c1]).length then x1.b else (fun i => if i = us.length then l1 else L i) i) j).length ≤ 140737488355328) := fun j => by
        show (if j = _ then x1.b else if j = us.length then l1 else L j).length ≤ _
        split
        · rw [← HM2.out]; exact HXL.out
        · split
          · rw [← HM1.out]; exact HLM.out
          · exact HLB.out j
      have HUL5 : Hid (((us ++ [Value.slice o1 m1 c1]) ++ [Value.slice o2 m2 c2]).length = 2 * (k + 1)) := by
        show _ = _
        rw [List.length_append, List.length_append, List.length_singleton, List.length_singleton, HUL.out]
        omega
      clear hown hown' hat hfx hrl hS5 hrb HRW HNEW HS4 HR4 HLO4 HO4 HO1 HO2 c01 c02 HQ4 HQ7
      go_wp2_with fail
      go_roundw
      case rel => exact ⟨k + 1, F2, x1, _, _, by omega, by omega, by go_num, HR5, HS5, HUL5, HLO5, HLB5⟩
      case measure => simp [intOf]; omega
    · have hcase : ((k : Int) < (ss.length : Int) ∧ ¬ (k : Int) < 60) ∨ ¬ (k : Int) < (ss.length : Int) := by omega
      have HLK := hide (lookS_any wr)
      have hj1 : (k + 1) * 16 ≤ 140737488355328 := by omega
      have HXL : Hid (x.b.length ≤ 140737488355328) := HR.out.fine.ok.most
      have HXA : Hid (x.a.length ≤ k) := HR.out.arms
      rcases hcase with ⟨a1, a2⟩ | a1
      all_goals
        go_wp2_with fail
        refine HLK.out.mono ?_
        rintro r' w6 ⟨rfl, b6⟩
        have HR6 := hide (HR.out.keep b6)
        have HS6 := hide (HSL.out.below b6)
        have HL6 : Hid (Below base W0 w6) := HLO.out.trans (b6.mono hzw)
        have HZ6 : Hid (wr.heap.size ≤ w6.heap.size) := b6.size
        have HLA := hide (HR6.out.look hj1)
        clear b6 HR HSL HLO x3
        go_wp2_with fail
        refine HLA.out.mono ?_
        rintro r' w7 ⟨u3, F3, rfl, hA3, hR3, hf3, hs3⟩
        obtain ⟨o3, c3, hu3⟩ := hA3.form
        have hSl3 := HS6.out.other hf3 HS6.out.dis hs3
        obtain ⟨hO3, hb3⟩ := ans_own (base := base) hA3 (by have := HZ6.out; omega) HXL.out
        have HUS : Hid (∀ v ∈ us, ∀ g, v.ownBlock = some g → g < w6.heap.size) := fun v hv g hg => (HS6.out.lt.2 v hv g hg).2
        obtain ⟨m3, hm3⟩ : ∃ m, m = x.b.length := ⟨_, rfl⟩
        rw [← hm3] at hu3
        subst hu3
        obtain ⟨X7, hX7⟩ : ∃ X, X = w7.alloc (.cells #[.slice o3 m3 c3, .int .i64 (x.s : Int), .int .i64 0] 45) := ⟨_, rfl⟩
        have bX7 : Below w7.heap.size w7 X7 := by rw [hX7]; exact (Below.refl _ _).alloc (Nat.le_refl _) _
        have HQ7 : Hid (X7.heap[w7.heap.size]? = some (.cells #[.slice o3 m3 c3, .int .i64 (x.s : Int), .int .i64 0] 45)) := by show _ = _; rw [hX7]; exact heap_alloc_new _ _
        have hzX7 : w7.heap.size < X7.heap.size := by rw [hX7]; simp
        have hz7 := hf3.size
        have HZ7 := hide hz7
        have HR7 := hide (hR3.keep bX7)
        have HS7 := hide (hSl3.below bX7)
        have HO7 := hide (own_below hO3 bX7)
        have HK3 : Hid (∀ g, (Value.slice o3 m3 c3).ownBlock = some g → g ∉ F3 ∧ w6.heap.size ≤ g ∧ g < X7.heap.size) := fun g hg => ⟨(hb3 g hg).2.1, (hb3 g hg).1, Nat.lt_trans (hb3 g hg).2.2 hzX7⟩
        have HL7 : Hid (Below base W0 X7) := (HL6.out.trans (hf3.below HR6.out.low (by have := HZ6.out; omega))).trans (bX7.mono (by have := HZ6.out; omega))
        have HBZ7 : Hid (base ≤ X7.heap.size) := by show _ ≤ _; have := HZ6.out; omega
        have HCP := hide (copy_any X7 (.slice o3 m3 c3) x.b (rd_own HO7.out) HXL.out)
        have d0 : (w7.alloc (.cells #[.slice o3 m3 c3, .int .i64 (x.s : Int), .int .i64 0] 45)).cell? ⟨w7.heap.size, 0, none⟩ = some (.slice o3 m3 c3) := by rw [← hX7]; exact cell_of HQ7.out 0
        have HX7 := hide hX7
        have HM3 := hide hm3
        clear hm3 hX7 bX7 hO3 hb3 hA3 hR3 hf3 hs3 hSl3 HLA HR6 HS6 HL6 hz7
        go_wp2_with fail
        rw [← HX7.out]
        refine HCP.out.mono ?_
        rintro r' w8 ⟨vc, rfl, ownc, b8⟩
        have HR8 := hide (HR7.out.keep b8)
        have HS8 := hide (HS7.out.below b8)
        have HO8 := hide (own_below HO7.out b8)
        have HL8 : Hid (Below base W0 w8) := HL7.out.trans (b8.mono HBZ7.out)
        have hz8 := b8.size
        have HBZ : Hid (base ≤ w8.heap.size) := Nat.le_trans HBZ7.out hz8
        have HQ8 := hide ((b8.block _ hzX7).trans HQ7.out)
        have d1 : w8.cell? ⟨w7.heap.size, 0, none⟩ = some (.slice o3 m3 c3) := cell_of HQ8.out 0
        have HKC : Hid (∀ g, vc.ownBlock = some g → X7.heap.size ≤ g) := own_ge ownc
        have HOC := hide (own_least' ownc HBZ7.out)
        have HKF : Hid (∀ g, vc.ownBlock = some g → g ∉ F3) := fun g hg hm => by have h1 := HR7.out.disk.lt g hm; have h2 := HKC.out g hg; omega
        obtain ⟨oc, cc, hvc, _⟩ := own_slice ownc
        rw [← HM3.out] at hvc
        subst hvc
        have hzK7 : w7.heap.size < w8.heap.size := by omega
        clear ownc b8 HCP HX7 HR7 HS7 HO7 HL7 d0
        have HRW := hide (HS8.out.row.alloc (.cells #[.slice o3 m3 c3] 25))
        have HNEW : Hid (∀ j u, [.slice o3 m3 c3][j]? = some u → (w8.alloc (.cells #[.slice o3 m3 c3] 25)).cell? ((⟨w8.heap.size, 0, none⟩ : Addr).add j) = some u) := cell_one_new w8 (.slice o3 m3 c3) 25
        have hRWn := HRW.out
        rw [← HN.out] at hRWn
        have HRW := hide hRWn
        clear hRWn
        go_wp2_with (at_builtin; refine ak.wpList_append_keep _ rfl _ _ 33 rfl base 25 j0 (.slice none 0 0) 1 24 Tryd.underlying33 hj hy0 hy1 hy2 rfl (by decide) (.slice ol N cl) N _ rfl HRW.out ⟨w8.heap.size, 0, none⟩ 1 [.slice o3 m3 c3] rfl rfl HNEW.out (by intro u hu; simp at hu; rw [hu]; rfl) (by unfold maxLen; omega) (by omega) (by first | exact HBZ.out | (have := HBZ.out; simp; omega)) ?_)
        intro vA wA hown hw
        have hgrow : (w8.alloc (.cells #[.slice o3 m3 c3] 25)).grownBy wA (Value.ownBlock (.slice ol N cl)) := by
          rcases hw with ⟨g, cap, e1, _, hg⟩ | ⟨_, hg⟩
          · first | (rw [e1.1]; exact hg) | (rw [e1]; exact hg)
          · exact ⟨hg.os, hg.tape, hg.output, hg.size, fun k hk _ => hg.block k hk (by simp)⟩
        have hat : ∀ b, (vA).ownBlock = some b → Value.ownBlock (.slice ol N cl) = some b ∨ w8.heap.size ≤ b := fun b hb' => by
          rcases hw with ⟨g, cap, e1, e2, _⟩ | ⟨e1, _⟩
          · rw [e2] at hb'; first | (rw [e1.1]; exact Or.inl hb') | (rw [e1]; exact Or.inl hb')
          · rw [e1] at hb'; cases hb'; exact Or.inr (by  simp)
        have hfx : Fr (Value.ownBlock (.slice ol N cl)).toList w8 wA := ((Fr.refl _ _).alloc _).trans (fr_grown' hgrow) (fun i hi => Or.inl hi)
        clear hw hgrow
        have hO3p : w8.ownsRow base 5 1 (.slice o3 m3 c3) x.b.length (x.b.map B) := HO8.out
        have hOCp : w8.ownsRow base 5 1 (.slice oc m3 cc) x.b.length (x.b.map B) := HOC.out
        have hown' : wA.ownsRow base 25 1 vA (us.length + 1) (us ++ [.slice o3 m3 c3]) := by rw [← HN.out]; exact hown
        have hrl : w8.ownsRow base 25 1 (.slice ol N cl) us.length us := HS8.out.row
        have hSA := HS8.out.push hO3p (fun g hg => ⟨(HK3.out g hg).1, fun v hv hv' => by have h1 := HUS.out v hv g hv'; have h2 := (HK3.out g hg).2.1; omega⟩) hown' hfx hat HR8.out.disk.lt
        have hrb : ∀ b, (Value.slice ol N cl).ownBlock = some b → base ≤ b ∧ b < w8.heap.size := fun b hb' => hrl.lt b hb'
        have HRA : Hid (Run base wA e pa F3 x k) := HR8.out.other hfx (fun b hb' hm => (HS8.out.dis b hb').1 (Option.mem_toList.1 hm)) (fun b hb' => (hrb b (Option.mem_toList.1 hb')).1)
        have HOCA := hide (own_fr hOCp hfx (fun g hg hm => rows_apart (by decide) hOCp hrl g hg (Option.mem_toList.1 hm)))
        have HLA : Hid (Below base W0 wA) := HL8.out.trans (hfx.below (fun b hb' => (hrb b (Option.mem_toList.1 hb')).1) HBZ.out)
        have HKA : Hid (∀ g, (Value.slice oc m3 cc).ownBlock = some g → g ∉ blks (us ++ [.slice o3 m3 c3])) := fun g hg hm => by
          have h1 := HKC.out g hg
          obtain ⟨u, hu, hug⟩ := mem_blks.1 hm
          rcases List.mem_append.1 hu with h | h
          · have h2 := (HS8.out.lt.2 u h g hug).2
            have h3 := HUS.out u h g hug
            have h4 := HZ7.out
            omega
          · rw [List.mem_singleton.1 h] at hug
            have h2 := (HK3.out g hug).2.2
            omega
        have HZA : Hid (base ≤ wA.heap.size) := Nat.le_trans HBZ.out hfx.size
        obtain ⟨oA, cA, hvA, _⟩ := own_slice hown
        obtain ⟨M, hM⟩ : ∃ M, M = N + 1 := ⟨_, rfl⟩
        rw [← hM] at hvA
        subst hvA
        obtain ⟨us9, hus9⟩ : ∃ l, l = us ++ [.slice o3 m3 c3] := ⟨_, rfl⟩
        rw [← hus9] at hSA HKA
        have HUM : Hid (us9.length = M) := by show _ = _; rw [hus9, List.length_append, List.length_singleton, hM, HN.out]
        obtain ⟨L9, hL9⟩ : ∃ L9 : Nat → List UInt8, L9 = fun i => if i = us.length then x.b else L i := ⟨_, rfl⟩
        rw [← hL9] at hSA
        have HLB9 : Hid (∀ j, (L9 j).length ≤ 140737488355328) := fun j => by
          rw [hL9]
          show (if j = us.length then x.b else L j).length ≤ _
          split
          · exact HXL.out
          · exact HLB.out j
        have HSA := hide hSA
        have hMb : M ≤ 121 := by omega
        have HBK : Hid (∀ b ∈ blks us9, base ≤ b) := fun b hb' => by obtain ⟨u, hu, hug⟩ := mem_blks.1 hb'; exact (hSA.lt.2 u hu b hug).1
        obtain ⟨gl, hgl⟩ : ∃ gl, oA = some ⟨gl, 0, none⟩ := by
          obtain ⟨g, c, hv, _⟩ := own_cell1 hown (by omega)
          cases hv
          exact ⟨g, rfl⟩
        subst hgl
        have HCR : Hid (∀ X F' L', Sl base X F' (.slice (some ⟨gl, 0, none⟩) M cA) us9 L' → ∀ (i : Nat) u, us9[i]? = some u → X.cell? ⟨gl, i, none⟩ = some u) := fun X F' L' h i u hu => by
          have hi := (List.getElem?_eq_some_iff.1 hu).1
          obtain ⟨g, c, hv, _, hc⟩ := own_cell1 h.row (by omega)
          cases hv
          rw [hc i hi, (List.getElem?_eq_some_iff.1 hu).2]
        have HGT : Hid (∀ i, i < M → ∃ u, us9[i]? = some u) := fun i hi => ⟨us9[i]'(by rw [HUM.out]; exact hi), List.getElem?_eq_getElem _⟩
        clear hown hown' hat hfx hO3p hOCp hrl hSA hrb hM hus9 hL9 HRW HNEW HS8 HR8 HL8 HO8 HOC HQ7 HQ8 d1 HLB HUS HK3 HKC
        go_wp2_with fail
        go_loopw [10] (fun vi wr => ∃ i : Nat, i ≤ M ∧ vi = .int .i64 i ∧ Hid (Sl base wr F3 (.slice (some ⟨gl, 0, none⟩) M cA) us9 (mkL L9 i 0)) ∧ Hid (Fr (blks us9) wA wr)) (fun vi _ => M - (intOf vi).toNat)
        case atStart => exact ⟨0, Nat.zero_le _, rfl, by rw [mkL_start]; exact HSA, Fr.refl _ _⟩
        case round =>
          clear HSA
          obtain ⟨i, hi, rfl, HS, HF⟩ := hrel
          by_cases hlt2 : i < M
          · have i0 : (0 : Int) ≤ (i : Int) := Int.natCast_nonneg _
            have i1 : (i : Int) < (M : Int) := by omega
            obtain ⟨u, hu⟩ := HGT.out i hlt2
            have HU := hide hu
            have hrow := HS.out.each i u hu
            rw [mkL_zero] at hrow
            obtain ⟨n, hn⟩ : ∃ n, n = (L9 i).length := ⟨_, rfl⟩
            rw [← hn] at hrow
            obtain ⟨ou, cu, huv, hcu⟩ := own_slice hrow
            have hgu : 0 < n → ∃ g, ou = some ⟨g, 0, none⟩ := fun h0 => by
              obtain ⟨g, c, hv, _⟩ := own_cell1 hrow h0
              rw [huv] at hv
              cases hv
              exact ⟨g, rfl⟩
            have HNL := hide hn
            have hnb : n ≤ 140737488355328 := by rw [hn]; exact HLB9.out i
            have HUV := hide huv
            have hmem : ∀ g, ou = some ⟨g, 0, none⟩ → g ∈ blks us9 := fun g hg => mem_blks.2 ⟨u, List.mem_of_getElem? hu, by rw [huv, hg]; rfl⟩
            have HMEM := hide hmem
            have hcr := HCR.out _ _ _ HS.out i u hu
            rw [huv] at hcr
            have r1 : Int.tmod (i : Int) 251 = ((i % 251 : Nat) : Int) := by rw [Int.tmod_eq_emod_of_nonneg (Int.natCast_nonneg _)]; rfl
            have r2 : IntKind.u8.wrap ((i % 251 : Nat) : Int) = ((byt i).toNat : Int) := by rw [byt_val]; unfold IntKind.wrap; simp [IntKind.bits, IntKind.signed]; omega
            obtain ⟨q, hq⟩ : ∃ q, q = i % 251 := ⟨_, rfl⟩
            rw [← hq] at r1 r2
            obtain ⟨bi, hbi⟩ : ∃ bi, bi = byt i := ⟨_, rfl⟩
            rw [← hbi] at r2
            have HBI := hide hbi
            clear hu hrow hn huv hmem hq hbi
            go_wp2_with fail
            go_loopw [11] (fun vk wx => ∃ j : Nat, j ≤ n ∧ vk = .int .i64 j ∧ Hid (Sl base wx F3 (.slice (some ⟨gl, 0, none⟩) M cA) us9 (mkL L9 i j)) ∧ Hid (Fr (blks us9) wA wx)) (fun vk _ => n - (intOf vk).toNat)
            case atStart => exact ⟨0, Nat.zero_le _, rfl, HS, HF⟩
            case round =>
              clear HS HF hcr
              obtain ⟨j, hj, rfl, HS, HF⟩ := hrel
              have hcr := HCR.out _ _ _ HS.out i u HU.out
              rw [HUV.out] at hcr
              by_cases hjn : j < n
              · have j0' : (0 : Int) ≤ (j : Int) := Int.natCast_nonneg _
                have j1' : (j : Int) < (n : Int) := by omega
                obtain ⟨g, rfl⟩ := hgu (by omega)
                have hlen := mkL_len L9 i j i (by rw [← HNL.out]; exact hj)
                have hei : mkL L9 i j i = hlf (L9 i) j bi := by unfold mkL; rw [if_neg (by omega), if_pos rfl, HBI.out]
                have hr1 : World.ownsRow wr base 5 1 (.slice (some ⟨g, 0, none⟩) (hlf (L9 i) j bi).length cu) (hlf (L9 i) j bi).length ((hlf (L9 i) j bi).map B) := by
                  have h1 := HS.out.each i u HU.out
                  rw [HUV.out, hei] at h1
                  rw [hei] at hlen
                  rw [hlen, ← HNL.out] at h1 ⊢
                  exact h1
                rw [hei] at hlen
                have hj2 : j < (hlf (L9 i) j bi).length := by rw [hlen, ← HNL.out]; exact hjn
                obtain ⟨z0, z1⟩ := own_byte_cell hr1 j hj2
                have hset := own_byte_set hr1 j bi
                rw [List.length_set, hlen, hlf_set (L9 i) j bi (by rw [← HNL.out]; exact hjn)] at hset
                have hset2 : World.ownsRow (wr.setCell ⟨g, j, none⟩ (B bi)) base 5 1 u (hlf (L9 i) (j + 1) bi).length ((hlf (L9 i) (j + 1) bi).map B) := by
                  rw [hlf_len (L9 i) (j + 1) bi (by rw [← HNL.out]; omega), HUV.out, HNL.out]
                  exact hset
                have HSX := hide (HS.out.one HU.out ((Fr.refl _ _).set ⟨g, j, none⟩ (B bi) (Or.inl (by rw [HUV.out]; simp [Value.ownBlock]))) hset2)
                have HFX := hide (HF.out.set ⟨g, j, none⟩ (B bi) (Or.inl (HMEM.out g rfl)))
                generalize (hlf (L9 i) j bi)[j]'hj2 = zz at *
                clear hr1 hj2 hset hset2 hlen hei
                go_wp2_with fail
                go_roundw
                case rel => exact ⟨j + 1, by omega, by go_num, by rw [← mkL_next, ← HBI.out]; exact HSX, HFX⟩
                case measure => simp [intOf]; omega
              · obtain rfl : j = n := by omega
                have j1' : ¬ (j : Int) < (j : Int) := by omega
                have HST : Hid (Sl base wr F3 (.slice (some ⟨gl, 0, none⟩) M cA) us9 (mkL L9 (i + 1) 0)) := by show Sl _ _ _ _ _ _; rw [← mkL_turn, ← HNL.out]; exact HS.out
                go_wp2_with fail
                go_roundw
                case rel => exact ⟨i + 1, by omega, by go_num, HST, HF⟩
                case measure => simp [intOf]; omega
          · obtain rfl : i = M := by omega
            have i1 : ¬ (i : Int) < (i : Int) := by omega
            obtain ⟨LM, hLM⟩ : ∃ LM, LM = mkL L9 i 0 := ⟨_, rfl⟩
            rw [← hLM] at HS
            have HLM : Hid (∀ j, j < i → LM j = List.replicate (L9 j).length (byt j)) := fun j hj => by rw [hLM]; unfold mkL; rw [if_pos hj]
            clear hLM
            go_wp2_with fail
            go_loopw [12, 13] (fun vg vj wx => GrI i (fun X => Sl base X F3 (.slice (some ⟨gl, 0, none⟩) i cA) us9 LM) (fun X => Fr (blks us9) wA X) vg vj wx) (fun _ vj _ => i - (intOf vj).toNat)
            case atStart => exact ⟨0, 0, Nat.zero_le _, rfl, rfl, Nat.le_refl _, Nat.zero_le _, HS.out, HF.out⟩
            case round =>
              clear HS HF
              obtain ⟨j, s, hj, rfl, rfl, hs1, hs2', hS', hF'⟩ := hrel
              have HS2 := hide hs2'
              have HS := hide hS'
              have HF := hide hF'
              have HS1 := hide hs1
              clear hs2' hS' hF' hs1
              have hsB : s ≤ 17029236091002432 := Nat.le_trans HS2.out (Nat.mul_le_mul_right 140737488355392 (show j ≤ 121 by omega))
              by_cases hjn : j < i
              · have j0' : (0 : Int) ≤ (j : Int) := Int.natCast_nonneg _
                have j1' : (j : Int) < (i : Int) := by omega
                obtain ⟨u, hu⟩ := HGT.out j hjn
                have hrow := HS.out.each j u hu
                have hlj : (LM j).length ≤ 140737488355328 := by rw [HLM.out j hjn, List.length_replicate]; exact HLB9.out j
                obtain ⟨n, hn⟩ : ∃ n, n = (LM j).length := ⟨_, rfl⟩
                obtain ⟨ou, cu, huv, _⟩ := own_slice hrow
                rw [← hn] at huv hlj
                have hcr := HCR.out _ _ _ HS.out j u hu
                rw [huv] at hcr
                have HCX : Hid (∀ X, Below wr.heap.size wr X → X.cell? ⟨gl, j, none⟩ = some (.slice ou n cu)) := fun X hX => by
                  have := HCR.out _ _ _ (HS.out.below hX) j u hu
                  rw [huv] at this
                  exact this
                obtain ⟨m6, hm6⟩ : ∃ m6, m6 = n + 64 := ⟨_, rfl⟩
                have HM6 := hide hm6
                have HRN : Hid (∀ X, Below wr.heap.size wr X → Calls Tryd.prog 20 #[.int .u8 255] X fun e w' => ∃ v, e = .returned v ∧ (∃ ox cx vg Wg gg cc, v = .slice ox 64 cx ∧ Below wr.heap.size wr w' ∧ Apd ou n cu ox cx vg w' Wg ∧ vg = .slice (some ⟨gg, 0, none⟩) m6 cc ∧ Hid (Sl base Wg F3 (.slice (some ⟨gl, 0, none⟩) i cA) us9 LM) ∧ Hid (Fr (blks us9) wA Wg))) := fun X hX => by
                  refine (run_any 255 X).mono ?_
                  rintro e' w' ⟨vr, rfl, orr, br⟩
                  obtain ⟨ox, cx, hx, _⟩ := own_slice orr
                  have hb' := keepD hX br
                  have hSb := HS.out.below hb'
                  have hrd : Rd w' (.slice ox (List.replicate 64 (255 : UInt8)).length cx) (List.replicate 64 255) := by rw [List.length_replicate, ← hx]; exact rd_own (by rw [List.length_replicate]; exact orr)
                  obtain ⟨vg, Wg, hrun, hfr, hov, gg, cc, hvg, _, _, _, _⟩ := append_two w' base u (LM j) (hSb.each j u hu) ox cx (List.replicate 64 255) hrd (by rw [List.length_replicate]; decide) (by rw [List.length_replicate, ← hn]; omega) (by have := HZA.out; have := HF.out.size; have := hb'.size; omega)
                  rw [List.length_replicate, ← hn, ← hm6] at hvg
                  rw [List.length_replicate, huv] at hrun
                  refine ⟨_, rfl, ox, cx, vg, Wg, gg, cc, hx, hb', hrun, hvg, ?_, ?_⟩
                  · exact (hSb.one hu hfr hov).congr (fun q _ => by by_cases hq : q = j <;> simp [hq])
                  · exact (HF.out.next hb').trans hfr (fun b hb2 => Or.inl (mem_blks.2 ⟨u, List.mem_of_getElem? hu, Option.mem_toList.1 hb2⟩))
                obtain ⟨S2, hS2⟩ : ∃ S2, S2 = s + m6 := ⟨_, rfl⟩
                have HSN : Hid (S2 ≤ (j + 1) * 140737488355392) := sN_le (m6_le HM6.out hlj) HS2.out hS2
                have hsum : wrap64 ((s : Int) + (m6 : Int)) = (S2 : Int) := by rw [hS2]; exact wrap_sum s m6 (le_of_sum hsB (m6_le HM6.out hlj) (by decide))
                have HS64 : Hid (64 * (j + 1) ≤ S2) := s64_le HM6.out HS1.out hS2
                clear hS2
                clear hu hrow hn huv HS HF HS2 hm6
                go_wp2_with fail
                go_region_law (first
                  | (refine step_append_runR rfl _ _ 25 25 rfl _ _ rfl rfl _ _ hrun.out ?_)
                  | (refine step_callsE (by rfl) (by simp [go_sem]) (HRN.out _ (Below.refl _ _).drew) ?_; rintro v2 w2 ⟨ox, cx, vg, Wg, gg, cc, rfl, hb2, hrun, rfl, HS, HF⟩; have hc2 := HCX.out w2 hb2)
                  | fail)
                all_goals
                  clear hrun hc2 hb2
                  go_wp2_with fail
                  go_roundw
                  case rel => exact ⟨j + 1, S2, by omega, by go_num, by rw [hsum], HS64.out, HSN.out, HS.out, HF.out⟩
                  case measure => simp [intOf]; omega
              · obtain rfl : j = i := by omega
                have j1' : ¬ (j : Int) < (j : Int) := by omega
                generalize wr = wB at *
                go_wp2_with fail
                go_loopw [15] (fun vp wx => ∃ p : Nat, p ≤ j ∧ vp = .int .i64 p ∧ Hid (Below wB.heap.size wB wx)) (fun vp _ => j - (intOf vp).toNat)
                case atStart => exact ⟨0, Nat.zero_le _, rfl, Below.refl _ _⟩
                case round =>
                  obtain ⟨p, hp, rfl, HBX⟩ := hrel
                  by_cases hpn : p < j
                  · have p0' : (0 : Int) ≤ (p : Int) := Int.natCast_nonneg _
                    have p1' : (p : Int) < (j : Int) := by omega
                    obtain ⟨u, hu⟩ := HGT.out p hpn
                    obtain ⟨n, hn⟩ : ∃ n, n = (LM p).length := ⟨_, rfl⟩
                    obtain ⟨ou, cu, huv, _⟩ := own_slice (HS.out.each p u hu)
                    rw [← hn] at huv
                    have hnb : n ≤ 140737488355328 := by rw [hn, HLM.out p hpn, List.length_replicate]; exact HLB9.out p
                    have HCX : Hid (∀ X, Below wB.heap.size wB X → X.cell? ⟨gl, p, none⟩ = some (.slice ou n cu)) := fun X hX => by
                      have := HCR.out _ _ _ (HS.out.below hX) p u hu
                      rw [huv] at this
                      exact this
                    have HBY : Hid (∀ q, q < n → ∃ g, ou = some ⟨g, 0, none⟩ ∧ ∀ X, Below wB.heap.size wB X → X.cell? ⟨g, q, none⟩ = some (B (byt p))) := fun q hq => by
                      have h1 := HS.out.each p u hu
                      rw [← hn] at h1
                      obtain ⟨g, c, hv, _⟩ := own_cell1 h1 (by omega)
                      rw [huv] at hv
                      cases hv
                      refine ⟨g, rfl, fun X hX => ?_⟩
                      have h2 := (HS.out.below hX).each p u hu
                      rw [← hn] at h2
                      obtain ⟨g', c', hv', _, hc'⟩ := own_cell1 h2 (by omega)
                      rw [huv] at hv'
                      cases hv'
                      have hq' : q < ((LM p).map B).length := by rw [List.length_map, ← hn]; exact hq
                      have e1 : ((LM p).map B)[q] = B (byt p) := by simp only [HLM.out p hpn, List.getElem_map, List.getElem_replicate]
                      rw [hc' q hq', e1]
                    have r1 : Int.tmod (p : Int) 251 = ((p % 251 : Nat) : Int) := by rw [Int.tmod_eq_emod_of_nonneg (Int.natCast_nonneg _)]; rfl
                    have r2 : IntKind.u8.wrap ((p % 251 : Nat) : Int) = ((byt p).toNat : Int) := by rw [byt_val]; unfold IntKind.wrap; simp [IntKind.bits, IntKind.signed]; omega
                    obtain ⟨q0, hq0⟩ : ∃ q0, q0 = p % 251 := ⟨_, rfl⟩
                    rw [← hq0] at r1 r2
                    generalize byt p = bp at *
                    have hcx := HCX.out _ HBX.out
                    clear hu hn huv hq0
                    go_wp2_with fail
                    go_loopw [16] (fun vq wx => ∃ q : Nat, q ≤ n ∧ vq = .int .i64 q ∧ Hid (Below wB.heap.size wB wx)) (fun vq _ => n - (intOf vq).toNat)
                    case atStart => exact ⟨0, Nat.zero_le _, rfl, HBX⟩
                    case round =>
                      clear HBX hcx
                      obtain ⟨q, hq, rfl, HBX⟩ := hrel
                      have hcx := HCX.out _ HBX.out
                      by_cases hqn : q < n
                      · have q0' : (0 : Int) ≤ (q : Int) := Int.natCast_nonneg _
                        have q1' : (q : Int) < (n : Int) := by omega
                        obtain ⟨g, rfl, hce⟩ := HBY.out q hqn
                        have e5 := hce _ HBX.out
                        clear hce
                        go_wp2_with fail
                        go_roundw
                        case rel => exact ⟨q + 1, by omega, by go_num, HBX⟩
                        case measure => simp [intOf]; omega
                      · obtain rfl : q = n := by omega
                        have q1' : ¬ (q : Int) < (q : Int) := by omega
                        go_wp2_with fail
                        go_roundw
                        case rel => exact ⟨p + 1, by omega, by go_num, HBX⟩
                        case measure => simp [intOf]; omega
                  · obtain rfl : p = j := by omega
                    have p1' : ¬ (p : Int) < (p : Int) := by omega
                    have t1 : wrap64 (64 * (p : Int)) = 64 * (p : Int) := by unfold wrap64; omega
                    have t2 : 64 * (p : Int) ≤ (s : Int) := by have := HS1.out; omega
                    have t3 : decide (64 * (p : Int) ≤ (s : Int)) = true := decide_eq_true t2
                    have HRB : Hid (Run base wr e pa F3 x k) := (HRA.out.other HF.out (fun b hb' hm => by obtain ⟨u, hu, hug⟩ := mem_blks.1 hm; exact (HS.out.dis b hb').2 u hu hug) HBK.out).keep HBX.out
                    have HOB := hide (own_below (own_fr HOCA.out HF.out HKA.out) HBX.out)
                    have HLW : Hid (Below base W0 wr) := (HLA.out.trans (HF.out.below HBK.out HZA.out)).trans (HBX.out.mono (Nat.le_trans HZA.out HF.out.size))
                    have HZB : Hid (base ≤ wr.heap.size) := by have h1 := HLW.out.size; have h2 := HBS.out; show _ ≤ _; omega
                    clear HS HF HBX
                    go_wp2_with fail
                    refine (lookS_any wr).mono ?_
                    rintro r' wE ⟨rfl, bE⟩
                    have HRE := hide (HRB.out.keep bE)
                    have HOE := hide (own_below HOB.out bE)
                    have HLE : Hid (Below base W0 wE) := HLW.out.trans (bE.mono HZB.out)
                    have HZE : Hid (base ≤ wE.heap.size) := Nat.le_trans HZB.out bE.size
                    have HLK2 := hide (HRE.out.look hj1)
                    clear bE HRB HOB HLW
                    go_wp2_with fail
                    refine HLK2.out.mono ?_
                    rintro r' wF ⟨u5, F5, rfl, hA5, hR5, hf5, hs5⟩
                    obtain ⟨o5, c5, hu5⟩ := hA5.form
                    have hrd5 := hA5.rd
                    subst hu5
                    have hof := own_fr HOE.out hf5 (fun g hg hm => HKF.out g hg hm)
                    have hfl := fun n m => fld0 o5 x.b.length c5 n m wF
                    have HSB := hide (sameBytes_eq wF _ _ x.b hrd5 (rd_own hof) (by have := HXL.out; omega))
                    have HLF : Hid (Below base W0 wF) := HLE.out.trans (hf5.below HRE.out.low HZE.out)
                    have HZF : Hid (base ≤ wF.heap.size) := Nat.le_trans HZE.out hf5.size
                    clear hA5 hR5 hf5 hs5 hrd5 hof HLK2 HRE HOE HLE
                    go_wp2_with fail
                    refine HSB.out.mono ?_
                    rintro r' wG ⟨rfl, bG⟩
                    have HFIN : Hid (Below w.heap.size w wG) := HB0.out.trans ((HLF.out.trans (bG.mono HZF.out)).mono (by omega))
                    clear bG HSB
                    go_wp2_with fail
                    go_ret
                    exact ⟨rfl, HFIN.out⟩
end Go.Proofs.YtkamnkldgeaaaaaDoor.da
