import Derived.Test.YtjedbgfnegjinaaSentKit
namespace Go.Proofs.Ytjedbgfnegjinaa.sent
open Go.ChangeShapes Go.WideShapes Go.ChangeAt Go.RowKit Go.Proofs.Ytjedbgfnegjinaa.common Go.Proofs.Ytjedbgfnegjinaa.lst Go.Maps
attribute [local go_sem ↓] Go.wp_at_zero Go.wp_at_succ

set_option maxRecDepth 100000 in
set_option maxHeartbeats 1200000 in
theorem lawSent (vI : Value) (ot : Option Addr) (cT : Nat) (act but : ByteArray) (l : List PB) (xs : List Inp) (w : World) (hi : LiesI w vI xs) (hl : Lies w (.slice ot l.length cT) l) (hf : Fits l) (hx : FitsI xs) (hs : (l.length + 4) * 32 ≤ 140737488355328) (hsx : (xs.length + 4) * 56 ≤ 140737488355328) :
    Calls Try.prog 4 #[.agg #[.string act, vI, .string but, .slice ot l.length cT]] w fun e w' => e = .returned (.bool true) ∧ Below w.heap.size w w' := by
  have Q3 : ∀ j, j < 4 → xs.length + j + 1 ≤ maxLen := fun j hj => by clear hx hf hi hl; unfold maxLen; omega
  have Q4 : ∀ j, j < 4 → (xs.length + j + 1) * 56 ≤ 140737488355328 := fun j hj => Nat.le_trans (Nat.mul_le_mul_right 56 (by omega)) hsx
  have R3 : ∀ j, j < 4 → l.length + j + 1 ≤ maxLen := fun j hj => by clear hx hf hi hl Q3 Q4; unfold maxLen; omega
  have R4 : ∀ j, j < 4 → (l.length + j + 1) * 32 ≤ 140737488355328 := fun j hj => Nat.le_trans (Nat.mul_le_mul_right 32 (by omega)) hs
  obtain ⟨i0, hin, hz0, hz1, hz2⟩ := info_parts infoI
  obtain ⟨j0, hjn, hy0, hy1, hy2⟩ := info_parts infoP
  have B0 : Below w.heap.size w (w.alloc (.cells #[.string act, vI, .string but, .slice ot l.length cT] 27)) := (Below.refl _ _).alloc (Nat.le_refl _) _
  have HI := hide (hi.below B0)
  have HL := hide (hl.below B0)
  have HF := hide (MapKept.heap_alloc w (.cells #[.string act, vI, .string but, .slice ot l.length cT] 27)).1
  obtain ⟨oi, ci, rfl, _⟩ := hi
  clear hl
  go_enter Try.func4, Try.ntmps4
  go_wp2_with fail
  generalize w.alloc (.cells #[.string act, .slice oi xs.length ci, .string but, .slice ot l.length cT] 27) = W at *
  have hw0 := (Array.getElem?_eq_some_iff.1 HF.out).1
  refine (twin_any _ xs W HI.out (by omega)).mono ?_
  rintro e w1 ⟨v1, rfl, own1, b1⟩
  have F1 := (b1.block _ hw0).trans HF.out
  have f3 : w1.cell? ⟨w.heap.size, 3, none⟩ = some (.slice ot l.length cT) := by simp [World.cell?, F1]
  have hcs := HL.out.below b1
  have H1 := hide own1
  have HB1 := hide b1
  have hsz1 := b1.size
  clear own1 b1 F1
  go_wp2_with (at_builtin; refine append_pairs _ rfl _ _ rfl W.heap.size rfl _ l rfl hcs ?c3 ?c4 ?c5 ?_)
  case c3 => unfold maxLen; omega
  case c4 => omega
  case c5 => exact hsz1
  intro v2 w2 own2 hgrow2
  have HB2 : Hid (Below W.heap.size W w2) := HB1.out.grown hgrow2 hsz1 (fun k hk => by cases hk)
  have H1' : Hid (w2.ownsRow W.heap.size 29 4 v1 xs.length (ic xs)) := H1.out.kept hgrow2 (by
    rcases H1.out.2 with ⟨rfl, _⟩ | ⟨g, cap, cur, rfl, _⟩
    · exact Or.inl rfl
    · exact Or.inr (by intro h; cases h))
  have H2 : Hid (w2.ownsRow W.heap.size 33 2 v2 l.length (cl l)) := by
    show World.ownsRow _ _ _ _ _ _ _
    simpa using own2
  clear own2 hgrow2 hcs f3 H1 HB1 hsz1
  go_wp2_with fail
  go_loopw [5, 6, 7] (fun va vt i wr => ∃ j : Nat, j ≤ 4 ∧ i = .int .i64 j ∧ wr.ownsRow W.heap.size 29 4 va (xs.length + j) (ic (xs ++ List.replicate j mI)) ∧ wr.ownsRow W.heap.size 33 2 vt (l.length + j) (cl (l ++ List.replicate j mP)) ∧ Below W.heap.size W wr) (fun _ _ i _ => 4 - (intOf i).toNat)
  case atStart => exact ⟨0, by omega, rfl, by simpa using H1'.out, by simpa using H2.out, HB2.out⟩
  case round =>
    obtain ⟨j, hj, rfl, ho1, ho2, hnx⟩ := hrel
    have hsz := hnx.size
    by_cases hlt : j < 4
    · have hji : (j : Int) < 4 := by omega
      have HO2 := hide ho2
      have HX := hide hnx
      have q5 : W.heap.size ≤ wr.heap.size + 1 := Nat.le_succ_of_le hsz
      go_wp2_with (at_builtin; refine wpList_append_own _ rfl _ _ 22 rfl W.heap.size 29 i0 (.agg #[.int .i64 0, .string ⟨#[]⟩, .string ⟨#[]⟩, .string ⟨#[]⟩]) 4 56 Try.underlying22 hin hz0 hz1 hz2 rfl (by decide) _ _ _ rfl (ho1.alloc _) ⟨wr.heap.size, 0, none⟩ 1 1 (ic [mI]) rfl rfl (cells_new _ _ _) (ic_one [mI]) ?c3 ?c4 ?c5 ?_)
      case c3 => exact Q3 j hlt
      case c4 => exact Q4 j hlt
      case c5 => simpa using q5
      intro v3 w3 own3 hgrow3 _
      have hn2 : w3.ownsRow W.heap.size 33 2 u6 (l.length + j) (cl (l ++ List.replicate j mP)) := (HO2.out.alloc _).kept hgrow3 (rows_ne (by decide) HO2.out ho1)
      have B3 : Below W.heap.size W w3 := (HX.out.alloc hsz _).grown hgrow3 (by simpa using q5) (own_ge ho1)
      have hsz3 := B3.size
      have H3 : Hid (w3.ownsRow W.heap.size 29 4 v3 (xs.length + (j + 1)) (ic (xs ++ List.replicate (j + 1) mI))) := by
        show World.ownsRow _ _ _ _ _ _ _
        rw [rep_succ, ic_app (xs ++ List.replicate j mI)]; exact own3
      have HX3 := hide B3
      clear own3 hgrow3 ho1 ho2 hnx B3 HX HO2 H1' H2 HB2
      go_wp2_with (at_builtin; refine wpList_append_own _ rfl _ _ 25 rfl W.heap.size 33 j0 (.agg #[.string ⟨#[]⟩, .string ⟨#[]⟩]) 2 32 Try.underlying25 hjn hy0 hy1 hy2 rfl (by decide) _ _ _ rfl (hn2.alloc _) ⟨w3.heap.size, 0, none⟩ 1 1 (cl [mP]) rfl rfl (cells_new _ _ _) (cl_one [mP]) ?c3 ?c4 ?c5 ?_)
      case c3 => exact R3 j hlt
      case c4 => exact R4 j hlt
      case c5 => simpa using Nat.le_succ_of_le hsz3
      intro v4 w4 own4 hgrow4 _
      have H4 : Hid (w4.ownsRow W.heap.size 29 4 v3 (xs.length + (j + 1)) (ic (xs ++ List.replicate (j + 1) mI))) := (H3.out.alloc _).kept hgrow4 (rows_ne (by decide) H3.out hn2)
      have H5 : Hid (w4.ownsRow W.heap.size 33 2 v4 (l.length + (j + 1)) (cl (l ++ List.replicate (j + 1) mP))) := by
        show World.ownsRow _ _ _ _ _ _ _
        rw [rep_succ, cl_app (l ++ List.replicate j mP)]; exact own4
      have HX4 : Hid (Below W.heap.size W w4) := (HX3.out.alloc hsz3 _).grown hgrow4 (by simpa using Nat.le_succ_of_le hsz3) (own_ge hn2)
      clear own4 hgrow4 H3 HX3 hn2
      go_wp2_with fail
      go_roundw
      case rel => exact ⟨j + 1, by omega, by go_num, H4.out, H5.out, HX4.out⟩
      case measure => simp [intOf]; omega
    · obtain rfl : j = 4 := by omega
      clear H1' H2 HB2
      have hlenI : (xs ++ List.replicate 4 mI).length = xs.length + 4 := by simp
      have hlenP : (l ++ List.replicate 4 mP).length = l.length + 4 := by simp
      rw [← hlenI] at ho1
      rw [← hlenP] at ho2
      rcases rowI_of_own ho1 with ⟨_, h0⟩ | ⟨g, ca, rfl, hg0, hg, hri, hca⟩
      · exact absurd (congrArg List.length h0) (by simp)
      rcases row_of_own ho2 with ⟨_, h0⟩ | ⟨g', cb, rfl, hg0', hg', hrp, hcb⟩
      · exact absurd (congrArg List.length h0) (by simp)
      rw [hlenI] at hca
      rw [hlenP] at hcb
      have HLI : Hid (LiesI wr (.slice (some ⟨g, 0, none⟩) xs.length ca) xs) := by
        have := hri.lies hg xs.length ca (by rw [hlenI]; omega)
        rwa [List.take_left] at this
      have HLP : Hid (Lies wr (.slice (some ⟨g', 0, none⟩) l.length cb) l) := by
        have := hrp.lies hg' l.length cb (by rw [hlenP]; omega)
        rwa [List.take_left] at this
      have HRI := hide hri
      have HRP := hide hrp
      have F1 := (hnx.block _ hw0).trans HF.out
      have f0 : wr.cell? ⟨w.heap.size, 0, none⟩ = some (.string act) := by simp [World.cell?, F1]
      have f1 : wr.cell? ⟨w.heap.size, 1, none⟩ = some (.slice oi xs.length ci) := by simp [World.cell?, F1]
      have f2 : wr.cell? ⟨w.heap.size, 2, none⟩ = some (.string but) := by simp [World.cell?, F1]
      have f3 : wr.cell? ⟨w.heap.size, 3, none⟩ = some (.slice ot l.length cT) := by simp [World.cell?, F1]
      have k1 : (xs.length : Int) ≤ (ca : Int) := by omega
      have k2 : (l.length : Int) ≤ (cb : Int) := by omega
      have k3 : xs.length ≤ ca := by omega
      have k4 : l.length ≤ cb := by omega
      have k5 : (0 : Int) ≤ (xs.length : Int) := Int.natCast_nonneg _
      have k6 : (0 : Int) ≤ (l.length : Int) := Int.natCast_nonneg _
      have G1 := (Below.heap_alloc wr (.cells #[.string ⟨#[]⟩, .slice none 0 0, .string ⟨#[]⟩] 24) _ (Array.getElem?_eq_some_iff.1 F1).1).trans F1
      have g0 : (wr.alloc (.cells #[.string ⟨#[]⟩, .slice none 0 0, .string ⟨#[]⟩] 24)).cell? ⟨w.heap.size, 0, none⟩ = some (.string act) := by simp [World.cell?, G1]
      have g2 : (wr.alloc (.cells #[.string ⟨#[]⟩, .slice none 0 0, .string ⟨#[]⟩] 24)).cell? ⟨w.heap.size, 2, none⟩ = some (.string but) := by simp [World.cell?, G1]
      have HX := hide hnx
      clear hri hrp ho1 ho2 F1 hnx G1
      rw [hlenI, hlenP]
      go_wp2_with fail
      go_region
      have BF : Below wr.heap.size wr (wr.alloc (.cells #[.string act, .slice (some ⟨g, 0, none⟩) xs.length ca, .string but] 24)).drew := ((Below.refl _ _).alloc (Nat.le_refl _) _).drew
      have HBF : Hid (Below W.heap.size W (wr.alloc (.cells #[.string act, .slice (some ⟨g, 0, none⟩) xs.length ca, .string but] 24)).drew) := HX.out.trans (BF.mono hsz)
      have HE : Hid ((wr.alloc (.cells #[.string act, .slice (some ⟨g, 0, none⟩) xs.length ca, .string but] 24)).drew.heap[wr.heap.size]? = _) := hide (MapKept.heap_alloc wr _).1
      have HLI1 := hide (HLI.out.below BF)
      have HLP1 := hide (HLP.out.below BF)
      have HRI1 : Hid (RowI (wr.alloc (.cells #[.string act, .slice (some ⟨g, 0, none⟩) xs.length ca, .string but] 24)).drew g (xs ++ List.replicate 4 mI)) := range_below HRI.out BF hg
      have HRP1 := hide (HRP.out.below BF hg')
      have hgF := Nat.lt_of_lt_of_le hg BF.size
      have hgF' := Nat.lt_of_lt_of_le hg' BF.size
      generalize (wr.alloc (.cells #[.string act, .slice (some ⟨g, 0, none⟩) xs.length ca, .string but] 24)).drew = X at *
      have e0 : X.cell? ⟨wr.heap.size, 0, none⟩ = some (.string act) := by simp [World.cell?, HE.out]
      have e1 : X.cell? ⟨wr.heap.size, 0 + 1, none⟩ = some (.slice (some ⟨g, 0, none⟩) xs.length ca) := by simp [World.cell?, HE.out]
      have e2 : X.cell? ⟨wr.heap.size, 0 + 2, none⟩ = some (.string but) := by simp [World.cell?, HE.out]
      have hE0 := (Array.getElem?_eq_some_iff.1 HE.out).1
      clear g0 g2 f0 f1 f2 f3 HLI HLP HRI HRP HX BF hg hg' HE
      have hs32 : l.length * 32 ≤ 140737488355328 := Nat.le_trans (Nat.mul_le_mul_right 32 (Nat.le_add_right _ 4)) hs
      have hsx32 : xs.length * 32 ≤ 140737488355328 := Nat.le_trans (Nat.le_trans (Nat.mul_le_mul_left _ (by decide : 32 ≤ 56)) (Nat.mul_le_mul_right 56 (Nat.le_add_right _ 4))) hsx
      go_wp2_with fail
      have x0 : ∀ Y, Below X.heap.size X Y → Y.cell? ⟨wr.heap.size, 0, none⟩ = some (.string act) := fun Y hY => (hY.cell (p := ⟨wr.heap.size, 0, none⟩) hE0).trans e0
      have x1 : ∀ Y, Below X.heap.size X Y → Y.cell? ⟨wr.heap.size, 0 + 1, none⟩ = some (.slice (some ⟨g, 0, none⟩) xs.length ca) := fun Y hY => (hY.cell (p := ⟨wr.heap.size, 0 + 1, none⟩) hE0).trans e1
      have x2 : ∀ Y, Below X.heap.size X Y → Y.cell? ⟨wr.heap.size, 0 + 2, none⟩ = some (.string but) := fun Y hY => (hY.cell (p := ⟨wr.heap.size, 0 + 2, none⟩) hE0).trans e2
      have hb0 : Below X.heap.size X X := Below.refl _ _
      go_region_held3 (fun Y => Below X.heap.size X Y)
        (first
          | exact Below.refl _ _
          | assumption
          | exact (Below.refl _ _).drew
          | exact Below.drew (by assumption)
          | exact ((Below.refl _ _).drew).trans (by assumption))
        ((go_at_call 5; refine (sent_any _ _ act but l xs _ (HLI1.out.below (Below.refl _ _).drew) (HLP1.out.below (Below.refl _ _).drew) hf hx hs32 hsx32).mono ?_; rintro e w5 ⟨v5, rfl, own5, b5⟩))
      have HB5 : Hid (Below X.heap.size X w5) := by assumption
      have H5 := hide own5
      have y0 : ∀ Y, Below W.heap.size W Y → Y.cell? ⟨w.heap.size, 0, none⟩ = some (.string act) := fun Y hY => by have := (hY.block _ hw0).trans HF.out; simp [World.cell?, this]
      have y1 : ∀ Y, Below W.heap.size W Y → Y.cell? ⟨w.heap.size, 0 + 1, none⟩ = some (.slice oi xs.length ci) := fun Y hY => by have := (hY.block _ hw0).trans HF.out; simp [World.cell?, this]
      have y2 : ∀ Y, Below W.heap.size W Y → Y.cell? ⟨w.heap.size, 0 + 2, none⟩ = some (.string but) := fun Y hY => by have := (hY.block _ hw0).trans HF.out; simp [World.cell?, this]
      have y3 : ∀ Y, Below W.heap.size W Y → Y.cell? ⟨w.heap.size, 3, none⟩ = some (.slice ot l.length cT) := fun Y hY => by have := (hY.block _ hw0).trans HF.out; simp [World.cell?, this]
      have y1' : ∀ Y, Below W.heap.size W Y → Y.cell? ⟨w.heap.size, 1, none⟩ = some (.slice oi xs.length ci) := fun Y hY => by have := (hY.block _ hw0).trans HF.out; simp [World.cell?, this]
      clear x0 x1 x2 e0 e1 e2 own5 b5 hb0
      have BW5 : Below W.heap.size W w5 := HBF.out.trans (HB5.out.mono HBF.out.size)
      have z0 := y0 _ BW5
      have z1 := y1 _ BW5
      have z2 := y2 _ BW5
      have z3 := y3 _ BW5
      go_wp2_with fail
      refine (refSent_any _ _ act but l xs _ (HI.out.below BW5) (HL.out.below BW5) hs32 hsx32).mono ?_
      rintro e w6 ⟨v6, rfl, own6, b6⟩
      have H56 := hide (lies_of_own (own_below H5.out b6))
      have H66 := hide (lies_of_own own6)
      have HB6 : Hid (Below X.heap.size X w6) := HB5.out.trans (b6.mono HB5.out.size)
      clear own6 b6 H5 HB5 BW5 z0 z1 z2 z3
      have hsl : (sentL l xs).length ≤ 4611686018427387904 := Nat.le_trans (sentL_len l xs) (by omega)
      go_wp2_with fail
      refine (same_any _ _ (sentL l xs) _ H56.out H66.out hsl).mono ?_
      rintro e w7 ⟨rfl, b7⟩
      have HB7 : Hid (Below X.heap.size X w7) := HB6.out.trans (b7.mono HB6.out.size)
      clear b7 HB6 H56 H66 hsl
      have hbW : Below W.heap.size W w7 := HBF.out.trans (HB7.out.mono HBF.out.size)
      have hll : xs.length ≤ 4611686018427387904 := by omega
      have hll' : l.length ≤ 4611686018427387904 := by omega
      go_wp2_with fail
      go_region_held3 (fun Y => Below W.heap.size W Y)
        (first
          | assumption
          | exact Below.drew (by assumption)
          | exact hbW.drew.trans ((by assumption : Below w7.drew.heap.size w7.drew _).mono hbW.size))
        ((go_at_call 9; refine (sameI_any _ _ xs _ (HLI1.out.below HB7.out.drew) (HI.out.below hbW.drew) hll).mono ?_; rintro e w8 ⟨rfl, b8⟩))
      have HB8 : Hid (Below X.heap.size X w8) := HB7.out.drew.trans (b8.mono HB7.out.size)
      have hbV : Below W.heap.size W w8 := by assumption
      clear b8 hbW HB7
      go_wp2_with fail
      go_region_held3 (fun Y => Below W.heap.size W Y)
        (first
          | assumption
          | exact Below.drew (by assumption)
          | exact hbV.drew.trans ((by assumption : Below w8.drew.heap.size w8.drew _).mono hbV.size))
        ((go_at_call 6; refine (same_any _ _ l _ (HLP1.out.below HB8.out.drew) (HL.out.below hbV.drew) hll').mono ?_; rintro e w9 ⟨rfl, b9⟩))
      have HB9 : Hid (Below X.heap.size X w9) := HB8.out.drew.trans (b9.mono HB8.out.size)
      have HW9 : Hid (Below W.heap.size W w9) := by assumption
      have HRI9 : Hid (RowI w9 g (xs ++ List.replicate 4 mI)) := range_below HRI1.out HB9.out hgF
      have HRP9 := hide (HRP1.out.below HB9.out hgF')
      clear b9 hbV HB8 HLI1 HLP1 HRI1 HRP1 HB9 HBF HI HL HF y0 y1 y2 y3 y1'
      have CI : ∀ j, j < 4 → w9.cell? ⟨g, (xs.length + j) * 4, none⟩ = some (.int .i64 77) := fun j hj => by
        have hlt : xs.length + j < (xs ++ List.replicate 4 mI).length := by rw [hlenI]; exact Nat.add_lt_add_left hj _
        have h1 := HRI9.out _ _ (ic_get _ (xs.length + j) hlt).1
        rw [Nat.zero_add] at h1
        rw [h1, show (xs ++ List.replicate 4 mI)[xs.length + j] = mI from by rw [List.getElem_append_right (Nat.le_add_right _ _), List.getElem_replicate]]
        rfl
      have CP : ∀ j, j < 4 → w9.cell? ⟨g', (l.length + j) * 2, none⟩ = some (.string mk) := fun j hj => by
        have hlt : l.length + j < (l ++ List.replicate 4 mP).length := by rw [hlenP]; exact Nat.add_lt_add_left hj _
        have h1 := HRP9.out.2 _ _ (cl_get0 _ (l.length + j) hlt)
        rw [Nat.zero_add] at h1
        rw [h1, show (l ++ List.replicate 4 mP)[l.length + j] = mP from by rw [List.getElem_append_right (Nat.le_add_right _ _), List.getElem_replicate]]
        rfl
      go_wp2_with fail
      go_loopw [12, 13, 14] (fun a b i wr => ∃ j : Nat, j ≤ 4 ∧ i = .int .i64 j ∧ a = .bool true ∧ b = .bool true ∧ wr = w9) (fun _ _ i _ => 4 - (intOf i).toNat)
      case atStart => exact ⟨0, by omega, rfl, rfl, rfl, rfl⟩
      case round =>
        obtain ⟨j, hj, rfl, rfl, rfl, rfl⟩ := hrel
        by_cases hlt : j < 4
        · have hji : (j : Int) < 4 := by omega
          have c0 := CI j hlt
          have c1 := CP j hlt
          have t1 : (xs.length : Int) + (j : Int) < (xs.length : Int) + 4 := by omega
          have t2 : (0 : Int) ≤ (xs.length : Int) + (j : Int) := by omega
          have t3 : (l.length : Int) + (j : Int) < (l.length : Int) + 4 := by omega
          have t4 : (0 : Int) ≤ (l.length : Int) + (j : Int) := by omega
          clear CI CP
          go_wp2_with fail
          refine ⟨⟨j + 1, by omega, by go_num, rfl, ?_, trivial⟩, by simp [intOf]; omega⟩
          rw [show (mk.toList == [109, 97, 114, 107]) = true from by rw [ByteArray.toList_eq]; rfl]
        · obtain rfl : j = 4 := by omega
          go_wp2_with fail
          go_ret
          exact ⟨rfl, B0.trans (HW9.out.mono B0.size)⟩

end Go.Proofs.Ytjedbgfnegjinaa.sent
