import Derived.Test.YtkibaedocieceaaDoorDkPair
namespace Go.Proofs.YtkibaedocieceaaDoor.dk
open Go.ChangeShapes Go.WideShapes Go.ChangeAt Go.RowKit Go.Proofs.YtkibaedocieceaaDoor.common

abbrev kept : ByteArray := ⟨#[107, 101, 112, 116]⟩
abbrev scv (room : Int) (data : ByteArray) (other : Int) (vs : Value) : Value := .agg #[.int .i64 room, .string data, .int .i64 other, vs]
theorem Dk.ptr_ne {w : World} {p : Nat} {F : List Nat} {x : St} (h : Dk w p F x) : p < w.heap.size := h.lt p h.mem

theorem step_list (x : St) (s : Sp) (h : Fine x) : (x.step s).2.l.length ≤ 4611686018427387904 := by
  have h1 := h.ok.most
  unfold St.step
  repeat' split
  · exact Nat.zero_le _
  · exact Nat.zero_le _
  · show x.readL.length ≤ _
    unfold St.readL
    split
    · omega
    · exact Nat.zero_le _
  · exact Nat.zero_le _
  · exact Nat.zero_le _
  · exact Nat.zero_le _
  · exact Nat.zero_le _
  · exact Nat.zero_le _
  · show x.b.length ≤ _; omega
  · exact Nat.zero_le _

set_option maxRecDepth 100000 in
set_option maxHeartbeats 3200000 in
theorem lawLookFree (w : World) (room : Int) (data : ByteArray) (other : Int) (vs : Value) (ss : List Sp) (hs : LiesP w vs ss) (hS : Steps ss) (e : Nat → Addr) (he : errw.Errs w e) :
    Calls Tryd.prog 3 #[scv room data other vs] w fun r' w' => r' = .returned (.bool true) ∧ Below w.heap.size w w' := by
  have HLI := hide hs
  obtain ⟨oa, cap, rfl, _⟩ := hs
  obtain ⟨W0, hW0⟩ : ∃ W0, W0 = w.alloc (.cells #[.int .i64 room, .string data, .int .i64 other, .slice oa ss.length cap] 24) := ⟨_, rfl⟩
  have hB0 : Below w.heap.size w W0 := by rw [hW0]; exact (Below.refl _ _).alloc (Nat.le_refl _) _
  have hX0 : W0.heap[w.heap.size]? = some (.cells #[.int .i64 room, .string data, .int .i64 other, .slice oa ss.length cap] 24) := by rw [hW0]; exact heap_alloc_new _ _
  have hz0 : W0.heap.size = w.heap.size + 1 := by rw [hW0]; simp
  have HB0 := hide hB0
  have HX0 := hide hX0
  have HLP := hide (HLI.out.below hB0)
  have HE0 := hide (er_of (he.below hB0))
  have HSS := hide hS
  have HW0 := hide hW0
  have hlen : ss.length ≤ 8796093022207 := by have := hS.len; omega
  have x0 : W0.cell? ⟨w.heap.size, 0, none⟩ = some (.int .i64 room) := cell_of hX0 0
  clear hX0 hB0 hS he hW0
  go_enter Tryd.func3, Tryd.ntmps3
  go_wp2_with fail
  rw [← HW0.out]
  refine (new_any W0 room).mono ?_
  rintro r' w1 ho
  obtain ⟨pa, Fa, rfl, hRa, hFa, hb1⟩ := opened_run (base := W0.heap.size) ho (Nat.le_refl _) HE0.out (fine_new [] 0 room (Nat.le_refl _) (by decide)) rfl
  have x1 : w1.cell? ⟨w.heap.size, 0, none⟩ = some (.int .i64 room) := cell_of ((hb1.block _ (by omega)).trans HX0.out) 0
  have HRa := hide hRa
  have HB1 := hide hb1
  clear hRa hFa hb1 ho x0
  go_wp2_with fail
  refine (new_any w1 room).mono ?_
  rintro r' w2 ho
  obtain ⟨pb, Fb, rfl, hRb, hFb, hb2⟩ := opened_run (base := W0.heap.size) ho HB1.out.size (HE0.out.below HB1.out) (fine_new [] 0 room (Nat.le_refl _) (by decide)) rfl
  have HRa2 := hide (HRa.out.keep hb2)
  have HRb := hide hRb
  have HAP : Hid (∀ k ∈ Fa, k ∉ Fb) := fun k hk hk2 => by
    have h1 := HRa.out.disk.lt k hk
    have h2 := hFb k hk2
    omega
  have HB2 := hide (keepD HB1.out hb2)
  clear hRb hFb hb2 ho HRa HB1 x1
  go_wp2_with fail
  refine (kitw.bytes_any kept w2 (by decide)).mono ?_
  rintro r' w3 ⟨vk, rfl, ok, _, hb3⟩
  have HRa3 := hide (HRa2.out.keep hb3)
  have HRb3 := hide (HRb.out.keep hb3)
  have HB3 := hide (keepD HB2.out hb3)
  have HCA0 : Hid ((∀ k ∈ Fa, ¬ w3.heap.size ≤ k) ∧ ∀ k ∈ Fb, ¬ w3.heap.size ≤ k) := ⟨fun k hk => by have := HRa3.out.disk.lt k hk; omega, fun k hk => by have := HRb3.out.disk.lt k hk; omega⟩
  have HRk : Hid (Rd w3 vk kept.data.toList) := rd_own ok
  obtain ⟨ok1, ck, hvk⟩ := HRk.out.len
  subst hvk
  clear ok hb3 HRa2 HRb HB2
  go_wp2_with fail
  refine (open_any w3 _ kept.data.toList 0 HRk.out (by decide)).mono ?_
  rintro r' w4 ho
  obtain ⟨pc, Fc, rfl, hRc, hFc, hb4⟩ := opened_run (base := W0.heap.size) ho HB3.out.size (HE0.out.below HB3.out) (fine_new _ _ 0 (Nat.le_refl _) (by decide)) rfl
  have HRa4 := hide (HRa3.out.keep hb4)
  have HRb4 := hide (HRb3.out.keep hb4)
  have HB4 := hide (keepD HB3.out hb4)
  have HRc := hide hRc
  have HFc := hide hFc
  clear hRc hFc hb4 ho HRa3 HRb3 HB3 HRk
  have HCA : Hid ((∀ k ∈ Fa, k ∉ Fc) ∧ ∀ k ∈ Fb, k ∉ Fc) := ⟨fun k hk hk2 => HCA0.out.1 k hk (HFc.out k hk2), fun k hk hk2 => HCA0.out.2 k hk (HFc.out k hk2)⟩
  go_wp2_with fail
  refine (lookS_any w4).mono ?_
  rintro r' w5 ⟨rfl, hb5⟩
  have HRa5 := hide (HRa4.out.keep hb5)
  have HRb5 := hide (HRb4.out.keep hb5)
  have HRc5 := hide (HRc.out.keep hb5)
  have HB5 := hide (keepD HB4.out hb5)
  clear hb5 HRa4 HRb4 HRc HB4
  go_wp2_with fail
  refine (HRc5.out.look (by decide)).mono ?_
  rintro r' w6 ⟨vf, Fc', rfl, hA6, hR6, hf6, hs6⟩
  have HRa6 := hide (HRa5.out.other hf6 HCA.out.1 HRc5.out.low)
  have HRb6 := hide (HRb5.out.other hf6 HCA.out.2 HRc5.out.low)
  have HB6 : Hid (Below W0.heap.size W0 w6) := HB5.out.trans (hf6.below HRc5.out.low HB5.out.size)
  have HRf := hide hA6.rd
  obtain ⟨of, cf, rfl⟩ := hA6.form
  have B7 : Below w6.heap.size w6 (w6.alloc (.cells #[.slice of 4 cf, .int .i64 4, .int .i64 0] 31)) := (Below.refl _ _).alloc (Nat.le_refl _) _
  have HX7 := hide (heap_alloc_new w6 (.cells #[.slice of 4 cf, .int .i64 4, .int .i64 0] 31))
  have HRa7 := hide (HRa6.out.keep B7)
  have HRb7 := hide (HRb6.out.keep B7)
  have HB7 := hide (keepD HB6.out B7)
  have HRf7 : Hid (Rd (w6.alloc (.cells #[.slice of 4 cf, .int .i64 4, .int .i64 0] 31)) (.slice of 4 cf) kept.data.toList) := HRf.out.below B7
  clear hA6 hR6 hf6 hs6 HRa5 HRb5 HRc5 HB5 B7 HRa6 HRb6 HB6 HRf HCA
  go_wp2_with fail
  generalize w6.alloc (.cells #[.slice of 4 cf, .int .i64 4, .int .i64 0] 31) = W7 at *
  have hg7 : w6.heap.size < W7.heap.size := (Array.getElem?_eq_some_iff.1 HX7.out).1
  have f0 : ∀ X, Below W7.heap.size W7 X → X.cell? ⟨w6.heap.size, 0, none⟩ = some (.slice of 4 cf) := fun X hX => cell_of ((hX.block _ hg7).trans HX7.out) 0
  have f1 : ∀ X, Below W7.heap.size W7 X → X.cell? ⟨w6.heap.size, 1, none⟩ = some (.int .i64 4) := fun X hX => cell_of ((hX.block _ hg7).trans HX7.out) 1
  go_region_held3 (fun X => Below W7.heap.size W7 X)
    (first
      | exact Below.refl _ _
      | assumption
      | exact keepD (by assumption) (by assumption)
      | exact Below.drew (by assumption)
      | exact (Below.refl _ _).drew)
    (first
      | (go_at_call 11; refine (kitw.bytes_any kept _ (by decide)).mono ?_; rintro x' w8 ⟨v8, rfl, o8, _, b8⟩)
      | (go_at_call 14; refine (sameBytes_eq _ _ _ kept.data.toList (HRf7.out.below (by assumption)) (rd_own (by assumption)) (by decide)).mono ?_; rintro x' w9 ⟨rfl, b9⟩))
  have HB9 : Hid (Below W7.heap.size W7 w9) := by assumption
  have HRa9 := hide (HRa7.out.keep HB9.out)
  have HRb9 := hide (HRb7.out.keep HB9.out)
  have HBZ := hide (keepD HB7.out HB9.out)
  clear b8 b9 o8 HRa7 HRb7 HB7 f0 f1 HX7 HRf7 HFc
  go_wp2_with fail
  go_loopw [7] (fun i wr => ∃ (k : Nat) (Fa Fb : List Nat) (x : St), k ≤ ss.length ∧ i = .int .i64 k ∧ Hid (Run W0.heap.size wr e pa Fa x k) ∧ Hid (Run W0.heap.size wr e pb Fb x k) ∧ Hid (∀ q ∈ Fa, q ∉ Fb) ∧ Hid (Below W0.heap.size W0 wr)) (fun i _ => ss.length - (intOf i).toNat)
  case atStart => exact ⟨0, Fa, Fb, _, Nat.zero_le _, rfl, HRa9, HRb9, HAP, HBZ⟩
  case round =>
    clear HRa9 HRb9 HAP HBZ HB9
    obtain ⟨k, Ga, Gb, x, hk, rfl, HRa, HRb, HAB, HBW⟩ := hrel
    have x3 : wr.cell? ⟨w.heap.size, 3, none⟩ = some (.slice oa ss.length cap) := cell_of ((HBW.out.block _ (by omega)).trans HX0.out) 3
    by_cases hlt : k < ss.length
    · have HPk := hide (HLP.out.below HBW.out)
      obtain ⟨oa', cap', hv', hst⟩ := HPk.out
      cases hv'
      obtain ⟨bs, os, rfl, hbs, hrs⟩ := hst k hlt
      have HRS := hide hrs
      have hsn := HSS.out.num ss[k] (List.getElem_mem hlt)
      have hst2 := HSS.out.text ss[k] (List.getElem_mem hlt)
      have HSN := hide hsn
      have HST := hide hst2
      have hj : (k + 1) * 16 ≤ 140737488355328 := by have := HSS.out.len; omega
      clear hst hrs hsn hst2 HPk
      generalize ss[k] = s at *
      have k0 : (0 : Int) ≤ (k : Int) := Int.natCast_nonneg _
      have k1 : (k : Int) < (ss.length : Int) := by omega
      go_wp2_with (refine wpList_load_mid rfl 34 (.tmp 51) rfl bs (os + k * 5) rfl _ _ HRS.out Tryd.underlying34 rfl sizeStep ?_)
      obtain ⟨X1, hX1⟩ : ∃ X1, X1 = wr.alloc (.cells #[.int .i64 s.k, .int .i64 s.o, .int .i64 s.n, .int .i64 s.m, .string s.t] 34) := ⟨_, rfl⟩
      rw [← hX1]
      have B1 : Below wr.heap.size wr X1 := by rw [hX1]; exact (Below.refl _ _).alloc (Nat.le_refl _) _
      have HS1 : Hid (X1.heap[wr.heap.size]? = some (.cells #[.int .i64 s.k, .int .i64 s.o, .int .i64 s.n, .int .i64 s.m, .string s.t] 34)) := by rw [hX1]; exact heap_alloc_new _ _
      have hz1 : X1.heap.size = wr.heap.size + 1 := by rw [hX1]; simp
      have HRa1 := hide (HRa.out.keep B1)
      have HRb1 := hide (HRb.out.keep B1)
      have HB1 := hide (keepD HBW.out B1)
      have HNS : Hid (wr.heap.size ∉ Ga ∧ wr.heap.size ∉ Gb) := ⟨fun hm => by have := HRa.out.disk.lt _ hm; omega, fun hm => by have := HRb.out.disk.lt _ hm; omega⟩
      clear B1 hX1 HRa HRb
      refine (HRa1.out.act s HST.out hj HSN.out.1 HSN.out.2.1 HSN.out.2.2).mono ?_
      rintro r' X2 ⟨va, Ga2, rfl, hA2, hR2, hf2, hs2⟩
      have hj2 : (k + 1 + 1) * 16 ≤ 140737488355328 := by have := HSS.out.len; omega
      have HS2 := hide ((hf2.block _ (by omega) HNS.out.1).trans HS1.out)
      have HRb2 := hide (HRb1.out.other hf2 (fun q hq hm => HAB.out q hm hq) HRa1.out.low)
      have HB2 : Hid (Below W0.heap.size W0 X2) := HB1.out.trans (hf2.below HRa1.out.low HB1.out.size)
      have HAB2 : Hid (∀ q ∈ Ga2, q ∉ Gb) := fun q hq hm => by
        rcases hs2 q hq with h | h
        · exact HAB.out q h hm
        · have := HRb1.out.disk.lt q hm; omega
      have hvf := hA2.away (G := Gb) (fun q hq => Or.inr (Or.inl (HRb1.out.disk.lt q hq)))
      have HVF := hide hvf
      have HRV := hide hA2.rd
      obtain ⟨ova, cva, hvva⟩ := hA2.form
      subst hvva
      have hsz2 := hf2.size
      have HRa2 := hide hR2
      have HFX := hide HRa1.out.fine
      clear hA2 hR2 hf2 hs2 hvf HRa1 HRb1 HB1 HAB HS1
      have HYL0 : Hid ((x.step s).2.l.length ≤ 4611686018427387904) := step_list x s HFX.out
      obtain ⟨an, han⟩ : ∃ an, x.step s = an := ⟨_, rfl⟩
      obtain ⟨y, la, na, ea⟩ := an
      rw [han] at HYL0 HRV HVF HRa2
      have HLL : Hid (la.length ≤ 4611686018427387904) := HYL0.out
      have HYL := hide han
      rw [han]
      clear HYL0
      dsimp only at HRV HVF HRa2 ⊢
      clear han
      obtain ⟨X3, hX3⟩ : ∃ X3, X3 = X2.alloc (.cells #[.slice ova la.length cva, .int .i64 na, .int .i64 (ea : Int)] 31) := ⟨_, rfl⟩
      have B3 : Below X2.heap.size X2 X3 := by rw [hX3]; exact (Below.refl _ _).alloc (Nat.le_refl _) _
      have HG3 : Hid (X3.heap[X2.heap.size]? = some (.cells #[.slice ova la.length cva, .int .i64 na, .int .i64 (ea : Int)] 31)) := by rw [hX3]; exact heap_alloc_new _ _
      have HS3 := hide ((B3.block _ (by omega)).trans HS2.out)
      have HRa3 := hide (HRa2.out.keep B3)
      have HRb3 := hide (HRb2.out.keep B3)
      have HB3 := hide (keepD HB2.out B3)
      have HRV3 := hide (HRV.out.below B3)
      have HVF3 : Hid ((∀ a n c, Value.slice ova la.length cva = .slice (some a) n c → a.block ∉ Gb) ∧ ∀ a n c, Value.slice ova la.length cva = .slice (some a) n c → a.block < X3.heap.size) := ⟨HVF.out.1, fun a n c h => Nat.lt_of_lt_of_le (HVF.out.2 a n c h) B3.size⟩
      have HNB : Hid (X2.heap.size ∉ Gb) := fun hm => by have := HRb2.out.disk.lt _ hm; omega
      have hz3 : X2.heap.size < X3.heap.size := (Array.getElem?_eq_some_iff.1 HG3.out).1
      have HX3 := hide hX3
      clear B3 hX3 HS2 HRa2 HRb2 HB2 HRV HVF
      go_wp2_with fail
      rw [← HX3.out]
      refine (dead_any X3 pa Ga2 y HRa3.out.disk).mono ?_
      rintro r' w' ⟨rfl, h'⟩
      obtain rfl := h'.symm
      go_wp2_with fail
      refine (look_any X3 pa Ga2 y HRa3.out.disk (by have := HRa3.out.fine.ok.most; omega)).mono ?_
      rintro r' X4 ⟨vl, rfl, _, b4⟩
      have HACT : Hid (Calls Tryd.prog 12 #[ptr pb, spv s] X4.drew fun r' w' => ∃ ovb cvb Gb5, r' = .returned (sdv (.slice ovb la.length cvb) na ea) ∧ Rd w' (.slice ovb la.length cvb) la ∧ Rd w' (.slice ova la.length cva) la ∧ Run W0.heap.size w' e pa Ga2 y (k + 1) ∧ Run W0.heap.size w' e pb Gb5 y (k + 1) ∧ (∀ q ∈ Ga2, q ∉ Gb5) ∧ Below W0.heap.size W0 w' ∧ w'.heap[X2.heap.size]? = some (.cells #[.slice ova la.length cva, .int .i64 na, .int .i64 (ea : Int)] 31)) := by
        have b4d : Below X3.heap.size X3 X4.drew := b4.drew
        have hRb4 := HRb3.out.keep b4d
        have hact := hRb4.act s HST.out hj HSN.out.1 HSN.out.2.1 HSN.out.2.2
        rw [HYL.out] at hact
        refine hact.mono ?_
        rintro r' w' ⟨v5, Gb5, rfl, hA5, hR5, hf5, hs5⟩
        obtain ⟨o5, c5, rfl⟩ := hA5.form
        have hRV4 := HRV3.out.below b4d
        refine ⟨o5, c5, Gb5, rfl, hA5.rd, hRV4.fr hf5 HVF3.out.1 (fun a n c h => Nat.lt_of_lt_of_le (HVF3.out.2 a n c h) b4d.size), (HRa3.out.keep b4d).other hf5 HAB2.out HRb3.out.low, hR5, fun q hq hm => ?_, (keepD HB3.out b4d).trans (hf5.below HRb3.out.low (keepD HB3.out b4d).size), (hf5.block _ (Nat.lt_of_lt_of_le hz3 b4d.size) HNB.out).trans ((b4d.block _ hz3).trans HG3.out)⟩
        rcases hs5 q hm with h | h
        · exact HAB2.out q hq h
        · have h1 := HRa3.out.disk.lt q hq
          have h2 := b4d.size
          omega
      have g3 := (b4.block _ hz3).trans HG3.out
      have g0 : X4.cell? ⟨X2.heap.size, 0, none⟩ = some (.slice ova la.length cva) := cell_of g3 0
      have g1 : X4.cell? ⟨X2.heap.size, 0 + 1, none⟩ = some (.int .i64 na) := cell_of g3 1
      have g2 : X4.cell? ⟨X2.heap.size, 0 + 2, none⟩ = some (.int .i64 (ea : Int)) := cell_of g3 2
      have s3 := (b4.block _ (by omega)).trans HS3.out
      have s0 : X4.cell? ⟨wr.heap.size, 0, none⟩ = some (.int .i64 s.k) := cell_of s3 0
      have s1 : X4.cell? ⟨wr.heap.size, 0 + 1, none⟩ = some (.int .i64 s.o) := cell_of s3 1
      have s2 : X4.cell? ⟨wr.heap.size, 0 + 2, none⟩ = some (.int .i64 s.n) := cell_of s3 2
      have s3' : X4.cell? ⟨wr.heap.size, 0 + 3, none⟩ = some (.int .i64 s.m) := cell_of s3 3
      have s4 : X4.cell? ⟨wr.heap.size, 0 + 4, none⟩ = some (.string s.t) := cell_of s3 4
      have hll : la.length ≤ 4611686018427387904 := HLL.out
      clear b4 g3 s3 HRa3 HRb3 HB3 HRV3 HVF3 HG3 HS3
      go_wp2_with fail
      go_region_with (first
        | (go_at_call 12; refine HACT.out.mono ?_; rintro r' X5 ⟨ovb, cvb, Gb5, rfl, h51, h52, h53, h54, h55, h56, h57⟩; have t0 : X5.cell? ⟨X2.heap.size, 0, none⟩ = some (.slice ova la.length cva) := cell_of h57 0; have t1 : X5.cell? ⟨X2.heap.size, 0 + 1, none⟩ = some (.int .i64 na) := cell_of h57 1; have t2 : X5.cell? ⟨X2.heap.size, 0 + 2, none⟩ = some (.int .i64 (ea : Int)) := cell_of h57 2)
        | (go_at_call 17; refine (same_eq _ _ _ ⟨la, na, ea⟩ h52 h51 hll).mono ?_; rintro r' X6 ⟨rfl, b6⟩))
      all_goals
        have HR1 := hide (h53.keep b6)
        have HR2 := hide (h54.keep b6)
        have HR3 := hide (keepD h56 b6)
        have HR4 := hide h55
        clear h51 h52 h53 h54 h55 h56 h57 b6 t0 t1 t2 g0 g1 g2 s0 s1 s2 s3' s4 HACT
        go_wp2_with fail
        go_roundw
        case rel => exact ⟨k + 1, Ga2, Gb5, y, by omega, by go_num, HR1, HR2, HR4, HR3⟩
        case measure => simp [intOf]; omega
    · obtain rfl : k = ss.length := by omega
      have HLB : Hid (x.b.length ≤ 4611686018427387904) := by have := HRa.out.fine.ok.most; show _ ≤ _; omega
      have hj : (ss.length + 1) * 16 ≤ 140737488355328 := HSS.out.len
      go_wp2_with fail
      refine (lookS_any wr).mono ?_
      rintro r' X1 ⟨rfl, b1⟩
      have HRa1 := hide (HRa.out.keep b1)
      have HRb1 := hide (HRb.out.keep b1)
      have HB1 := hide (keepD HBW.out b1)
      clear b1 HRa HRb HBW x3
      go_wp2_with fail
      refine (HRa1.out.look hj).mono ?_
      rintro r' X2 ⟨va, Ga2, rfl, hA2, hR2, hf2, hs2⟩
      have HRb2 := hide (HRb1.out.other hf2 (fun q hq hm => HAB.out q hm hq) HRa1.out.low)
      have HB2 : Hid (Below W0.heap.size W0 X2) := HB1.out.trans (hf2.below HRa1.out.low HB1.out.size)
      have HVF := hide (hA2.away (G := Gb) (fun q hq => Or.inr (Or.inl (HRb1.out.disk.lt q hq))))
      have HAB2 : Hid (∀ q ∈ Ga2, q ∉ Gb) := fun q hq hm => by
        rcases hs2 q hq with h | h
        · exact HAB.out q h hm
        · have := HRb1.out.disk.lt q hm; omega
      have HRV := hide hA2.rd
      obtain ⟨ova, cva, rfl⟩ := hA2.form
      have HRa2 := hide hR2
      clear hA2 hR2 hf2 hs2 HRa1 HRb1 HB1 HAB
      go_wp2_with fail
      refine (lookS_any X2).mono ?_
      rintro r' X3 ⟨rfl, b3⟩
      have HRa3 := hide (HRa2.out.keep b3)
      have HRb3 := hide (HRb2.out.keep b3)
      have HB3 := hide (keepD HB2.out b3)
      have HRV3 := hide (HRV.out.below b3)
      have HVF3 : Hid (∀ a n c, Value.slice ova x.b.length cva = .slice (some a) n c → a.block < X3.heap.size) := fun a n c h => Nat.lt_of_lt_of_le (HVF.out.2 a n c h) b3.size
      clear b3 HRa2 HRb2 HB2 HRV
      go_wp2_with fail
      refine (HRb3.out.look hj).mono ?_
      rintro r' X4 ⟨vb, Gb4, rfl, hA4, hR4, hf4, hs4⟩
      have HRa4 := hide (HRa3.out.other hf4 HAB2.out HRb3.out.low)
      have HRb4 := hide hR4
      have HB4 : Hid (Below W0.heap.size W0 X4) := HB3.out.trans (hf4.below HRb3.out.low HB3.out.size)
      have HRV4 := hide (HRV3.out.fr hf4 HVF.out.1 HVF3.out)
      have HRVb := hide hA4.rd
      obtain ⟨ovb, cvb, rfl⟩ := hA4.form
      clear hA4 hR4 hf4 hs4 HRa3 HRb3 HB3 HRV3 HVF HVF3
      go_wp2_with fail
      refine (same_eq X4 _ _ ⟨x.b, x.s, 0⟩ HRV4.out HRVb.out HLB.out).mono ?_
      rintro r' X5 ⟨rfl, b5⟩
      have HRa5 := hide (HRa4.out.keep b5)
      have HRb5 := hide (HRb4.out.keep b5)
      have HB5 := hide (keepD HB4.out b5)
      clear b5 HRa4 HRb4 HB4 HRV4 HRVb
      go_wp2_with fail
      refine (dead_any X5 pa _ x HRa5.out.disk).mono ?_
      rintro r' w' ⟨rfl, h'⟩
      obtain rfl := h'.symm
      go_wp2_with fail
      refine (dead_any X5 pb _ x HRb5.out.disk).mono ?_
      rintro r' w' ⟨rfl, h'⟩
      obtain rfl := h'.symm
      go_wp2
      go_ret
      exact ⟨by simp, HB0.out.trans (HB5.out.mono HB0.out.size)⟩
end Go.Proofs.YtkibaedocieceaaDoor.dk
