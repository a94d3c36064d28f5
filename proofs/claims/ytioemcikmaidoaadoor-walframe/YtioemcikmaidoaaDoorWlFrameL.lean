import Derived.Test.YtioemcikmaidoaaDoorWlRef
import Derived.Test.YtioemcikmaidoaaDoorWlOwn
import Derived.Test.YtioemcikmaidoaaDoorRdSame
namespace Go.Proofs.YtioemcikmaidoaaDoor.wl
open Go.ChangeShapes Go.WideShapes Go.ChangeAt Go.RowKit Go.Proofs.YtioemcikmaidoaaDoor.common Go.Proofs.YtioemcikmaidoaaDoor.dk

theorem num_fr (w : World) (er : Nat → Addr) (h : errw.Errs w er) (n : Nat) : Calls Tryd.prog 10 #[frE er n] w fun e w' => e = .returned (.int .i64 (frN n)) ∧ w' = w := by
  unfold frE frN
  cases Wl.fit n
  · exact errw.num_0 w er h
  · exact errw.num_nil w
theorem frL_len (p : List UInt8) : (frL p).length ≤ 8200 := by
  unfold frL
  split
  · rename_i h
    have := ((Wl.fit_iff _).1 h).2
    rw [Wl.fr_len]; omega
  · exact Nat.zero_le _

set_option maxRecDepth 100000 in
set_option maxHeartbeats 3200000 in
theorem lawFrame (w : World) (v : Value) (l : List UInt8) (h : Rd w v l) (hl : l.length ≤ reachBytes) (ht : crcw.Tab w) (er : Nat → Addr) (he : errw.Errs w er) :
    Calls Tryd.prog 3 #[v] w fun e w' => e = .returned (.bool true) ∧ Below w.heap.size w w' := by
  unfold reachBytes at hl
  have HR := hide h
  have HTE : Hid (∀ Y, Below w.heap.size w Y → crcw.Tab Y ∧ errw.Errs Y er) := fun Y hY => ⟨ht.below hY ht.lt, he.below hY⟩
  have hFL := frL_len l
  have HL0 := hide hl
  have HL1 := hide (frL_len l)
  obtain ⟨i0, hi, hz0, hz1, hz2⟩ := info_parts info8
  obtain ⟨oa, cap, rfl, _⟩ := h
  clear ht he
  go_enter Tryd.func3, Tryd.ntmps3
  go_wp2_with fail
  refine (copy_any w _ l HR.out (by omega)).mono ?_
  rintro r w1 ⟨v1, rfl, h1, b1⟩
  have H1 := hide (ow_of h1)
  have HB1 := hide b1
  obtain ⟨o1, c1, rfl⟩ := (rd_own h1).len
  clear h1 b1
  go_wp2_with fail
  refine (copy_any w1 _ l (HR.out.below HB1.out) (by omega)).mono ?_
  rintro r w2 ⟨v2, rfl, h2, b2⟩
  have H2 := hide h2
  have HB2 := hide b2
  obtain ⟨o2, c2, rfl⟩ := (rd_own h2).len
  have hs2 := b2.size
  clear h2 b2
  go_wp2_with (at_builtin; refine wpList_append_own _ rfl _ _ 22 rfl w1.heap.size 5 i0 (.int .u8 0) 1 1 Tryd.underlying22 hi hz0 hz1 hz2 rfl (by decide) _ _ _ rfl (H2.out.alloc _) ⟨w2.heap.size, 0, none⟩ 2 2 [.int .u8 170, .int .u8 187] rfl rfl ?c1 ?c2 ?c3 ?c4 ?c5 ?_)
  case c1 => exact World.news_of_block (heap_alloc_new _ _)
  case c2 => exact b_one [170, 187]
  case c3 => unfold maxLen; omega
  case c4 => omega
  case c5 => simp; omega
  intro v3 w3 hown' hgrow _
  have hown3 : w3.ownsRow w1.heap.size 5 1 v3 (l ++ [170, 187]).length ((l ++ [170, 187]).map B) := by
    rw [List.map_append, List.length_append]; exact hown'
  have b3 : Below w1.heap.size w2 w3 := grown_below _ hs2 H2.out hgrow
  have HB3 : Hid (Below w.heap.size w w3) := (keepD HB1.out HB2.out).trans (b3.mono HB1.out.size)
  have H1' := hide ((H1.out.below HB2.out).low b3 (Nat.le_refl _))
  have H3 := hide (ow_of hown3)
  obtain ⟨g3, c3, rfl, hg3, hg3', hcap3⟩ := H3.out.slot (by simp)
  rw [List.length_append] at hcap3
  simp only [List.length_cons, List.length_nil, Nat.zero_add, Nat.reduceAdd] at hcap3
  have hc3 : l.length ≤ c3 := by omega
  have hc3' : (l.length : Int) ≤ (c3 : Int) := by omega
  have HR3 : Hid (Rd w3 (.slice (some ⟨g3, 0, none⟩) l.length c3) l) := by
    have := Rd.take H3.out.rd l.length (by simp) c3
    rwa [List.take_left] at this
  have hl2 : (l ++ [170, 187] : List UInt8).length = l.length + 2 := by simp
  rw [hl2]
  have HS1 : Hid (w1.heap.size ≤ w3.heap.size) := Nat.le_trans hs2 b3.size
  clear hown' hgrow hown3 b3 H1 H2 hs2
  go_wp2_with fail
  refine (frame_any w3 _ l HR3.out (by omega) (HTE.out _ HB3.out).1 er (HTE.out _ HB3.out).2).mono ?_
  rintro r w4 ⟨va, rfl, h4, b4⟩
  have H4 := hide (ow_of h4)
  have HB4 := hide (keepD HB3.out b4)
  have HB34 := hide b4
  obtain ⟨oA, cA, rfl⟩ := (rd_own h4).len
  clear h4 b4
  go_wp2_with fail
  refine (frame_any w4 _ l (HR3.out.below HB34.out) (by omega) (HTE.out _ HB4.out).1 er (HTE.out _ HB4.out).2).mono ?_
  rintro r w5 ⟨vb, rfl, h5, b5⟩
  have H5 := hide (ow_of h5)
  have HB5 := hide (keepD HB4.out b5)
  have HB35 := hide (keepD HB34.out b5)
  have HB45 := hide b5
  obtain ⟨oB, cB, rfl⟩ := (rd_own h5).len
  clear h5 b5
  go_wp2_with fail
  refine (refFrame_any w5 _ l ((H1'.out.below HB35.out).rd) (by omega)).mono ?_
  rintro r w6 ⟨vw, rfl, h6, b6⟩
  have H6 := hide (ow_of h6)
  have HB6 := hide (keepD HB5.out b6)
  have HB36 := hide (keepD HB35.out b6)
  have HB46 := hide (keepD HB45.out b6)
  have HB56 := hide b6
  obtain ⟨oW, cW, rfl⟩ := (rd_own h6).len
  clear h6 b6
  go_wp2_with fail
  refine (sameBytes_eq w6 _ _ (frL l) ((H4.out.below HB46.out).rd) H6.out.rd (by omega)).mono ?_
  rintro r w7 ⟨rfl, b7⟩
  have HB37 := hide (keepD HB36.out b7)
  have HB67 := hide b7
  clear b7
  go_wp2_with fail
  refine (sameBytes_eq w7 _ _ l (HR3.out.below HB37.out) ((H1'.out.below HB37.out).rd) (by omega)).mono ?_
  rintro r w8 ⟨rfl, b8⟩
  have HB38 := hide (keepD HB37.out b8)
  have HB68 := hide (keepD HB67.out b8)
  have HB8 := hide (keepD HB3.out HB38.out)
  have HB48 := hide (keepD HB46.out HB68.out)
  have HB58 := hide (keepD HB56.out HB68.out)
  clear b8
  have q1 := ((H3.out.below HB38.out).cell l.length (by simp)).1
  have q2 := ((H3.out.below HB38.out).cell (l.length + 1) (by simp)).1
  have e1 : (l ++ [170, 187])[l.length]'(by simp) = (170 : UInt8) := by simp
  have e2 : (l ++ [170, 187])[l.length + 1]'(by simp) = (187 : UInt8) := by simp
  rw [e1] at q1
  rw [e2] at q2
  have q1' : w8.cell? ⟨g3, l.length, none⟩ = some (.int .u8 170) := q1
  have q2' : w8.cell? ⟨g3, l.length + 1, none⟩ = some (.int .u8 187) := q2
  clear e1 e2 q1 q2
  go_wp2_with (go_at_call 10; refine (num_fr w8 er (HTE.out _ HB8.out).2 l.length).mono ?_; rintro r W8 ⟨rfl, rfl⟩)
  obtain ⟨F, hF⟩ : ∃ F, F = (Value.slice oA (frL l).length cA).ownBlock.toList := ⟨_, rfl⟩
  have HF : Hid (∀ k ∈ F, w3.heap.size ≤ k ∧ k < w4.heap.size) := by intro k hk; rw [hF] at hk; exact H4.out.own k hk
  have HFo := hide hF
  clear hF
  obtain ⟨na, hna⟩ : ∃ na, na = (frL l).length := ⟨_, rfl⟩
  have HNA := hide hna
  have H48 := hide (H4.out.below HB48.out)
  rw [← hna] at hFL ⊢
  clear hna
  go_loopw [13] (fun i wr => ∃ k : Nat, k ≤ na ∧ i = .int .i64 k ∧ ∃ x : List UInt8, x.length = na ∧ Ow wr w3.heap.size w4.heap.size (.slice oA x.length cA) x ∧ Fr F W8 wr) (fun i _ => na - (intOf i).toNat)
  case atStart => exact ⟨0, Nat.zero_le _, rfl, frL l, HNA.out.symm, H48.out, Fr.refl _ _⟩
  case round =>
    obtain ⟨k, hk, rfl, x, hx, hown, hfr⟩ := hrel
    by_cases hlt : k < na
    · obtain ⟨ga, ca, hv, hga, hga', _⟩ := hown.slot (by omega)
      cases hv
      have hcl := hown.cell k (by omega)
      have q1 := hcl.1
      have f1 := hcl.2
      have hX := xor255 x[k]
      have HO := hide (hown.set k (x[k] ^^^ 255))
      have HFm : Hid (ga ∈ F) := by show ga ∈ F; rw [HFo.out]; simp [Value.ownBlock]
      have HX := hide hfr
      have k0 : (0 : Int) ≤ (k : Int) := Int.natCast_nonneg _
      have k1 : (k : Int) < (na : Int) := by omega
      clear hown hcl hfr
      have HL := hide hx
      generalize x[k] = c at *
      generalize hc' : c ^^^ 255 = c' at *
      clear hc' hx
      go_wp2
      go_roundw
      case rel => exact ⟨k + 1, by omega, by go_num, _, by rw [List.length_set]; exact HL.out, HO.out, HX.out.set _ _ (Or.inl HFm.out)⟩
      case measure => simp [intOf]; omega
    · obtain rfl : k = na := by omega
      have HX := hide hfr
      clear hfr hown hx x
      have hs8 : w4.heap.size ≤ wr.heap.size := Nat.le_trans HB48.out.size HX.out.size
      have HB8w : Hid (Below w.heap.size w wr) := HB8.out.trans (HX.out.below (fun j hj => Nat.le_trans HB3.out.size (HF.out j hj).1) HB8.out.size)
      have HP9 : Hid (Ow wr w1.heap.size w3.heap.size (.slice (some ⟨g3, 0, none⟩) (l ++ [170, 187]).length c3) (l ++ [170, 187])) := (H3.out.below HB38.out).fr HX.out (fun j hj => Or.inr (HF.out j hj).1)
      have HV9 : Hid (Ow wr w.heap.size w1.heap.size (.slice o1 l.length c1) l) := (H1'.out.below HB38.out).fr HX.out (fun j hj => Or.inr (Nat.le_trans HS1.out (HF.out j hj).1))
      have HBB9 : Hid (Rd wr (.slice oB (frL l).length cB) (frL l)) := ((H5.out.below HB58.out).fr HX.out (fun j hj => Or.inl (HF.out j hj).2)).rd
      have HW9 : Hid (Rd wr (.slice oW (frL l).length cW) (frL l)) := ((H6.out.below HB68.out).fr HX.out (fun j hj => Or.inl (Nat.lt_of_lt_of_le (HF.out j hj).2 HB45.out.size))).rd
      have HRP9 : Hid (Rd wr (.slice (some ⟨g3, 0, none⟩) l.length c3) l) := by
        have := Rd.take HP9.out.rd l.length (by simp) c3
        rwa [List.take_left] at this
      clear H4 H5 H6 H48 HX HB34 HB35 HB36 HB37 HB38 HB4 HB45 HB46 HB48 HB5 HB56 HB58 HB6 HB67 HB68 HR3 HF HFo H1' H3 q1' q2' hs8
      have HW3 : Hid (w3.heap.size ≤ wr.heap.size) := HP9.out.2.1
      rw [HNA.out] at *
      go_wp2_with fail
      refine (sameBytes_eq wr _ _ (frL l) HBB9.out HW9.out (by have := HL1.out; omega)).mono ?_
      rintro r w10 ⟨rfl, b10⟩
      have HB10 := hide b10
      clear b10 HBB9 HW9
      go_wp2_with fail
      refine (sameBytes_eq w10 _ _ l (HRP9.out.below HB10.out) (HV9.out.below HB10.out).rd (by have := HL0.out; omega)).mono ?_
      rintro r w11 ⟨rfl, b11⟩
      have HB11 := hide (keepD HB10.out b11)
      have HP11 := hide (HP9.out.below HB11.out)
      have HB11w : Hid (Below w.heap.size w w11) := HB8w.out.trans (HB11.out.mono HB8w.out.size)
      clear b11 HB10 HRP9 HV9 HP9
      go_wp2_with fail
      go_loopw [16] (fun i wq => ∃ k : Nat, k ≤ l.length ∧ i = .int .i64 k ∧ ∃ x : List UInt8, x.length = l.length + 2 ∧ Ow wq w1.heap.size w3.heap.size (.slice (some ⟨g3, 0, none⟩) x.length c3) x ∧ Fr [g3] w11 wq) (fun i _ => l.length - (intOf i).toNat)
      case atStart => exact ⟨0, Nat.zero_le _, rfl, l ++ [170, 187], by simp, HP11.out, Fr.refl _ _⟩
      case round =>
        obtain ⟨k, hk, rfl, x, hx, hown, hfr⟩ := hrel
        by_cases hlt : k < l.length
        · have hcl := hown.cell k (by omega)
          have q1 := hcl.1
          have f1 := hcl.2
          have hX := add_one x[k]
          have HO := hide (hown.set k (x[k] + 1))
          have HX := hide hfr
          have HL := hide hx
          have k0 : (0 : Int) ≤ (k : Int) := Int.natCast_nonneg _
          have k1 : (k : Int) < (l.length : Int) := by omega
          clear hown hcl hfr
          generalize x[k] = c at *
          generalize hc' : c + 1 = c' at *
          clear hc' hx
          go_wp2
          go_roundw
          case rel => exact ⟨k + 1, by omega, by go_num, _, by rw [List.length_set]; exact HL.out, HO.out, HX.out.set _ _ (Or.inl (by simp))⟩
          case measure => simp [intOf]; omega
        · obtain rfl : k = l.length := by omega
          have HX := hide hfr
          have hs3 : w.heap.size ≤ g3 := Nat.le_trans HB1.out.size hg3
          have HBq : Hid (Below w.heap.size w wr) := HB11w.out.trans (HX.out.below (fun j hj => by simp at hj; omega) HB11w.out.size)
          obtain ⟨y, hy⟩ : ∃ y, y = x.take l.length := ⟨_, rfl⟩
          have hyl : y.length = l.length := by rw [hy, List.length_take]; omega
          have HRq : Hid (Rd wr (.slice (some ⟨g3, 0, none⟩) l.length c3) y) := by
            have := Rd.take hown.rd l.length (by omega) c3
            rw [hy]
            exact this
          have hFy := frL_len y
          have hly : y.length ≤ 140737488351232 := by rw [hyl]; exact HL0.out
          clear hfr hown hx hy x HX HP11 hyl
          go_wp2_with fail
          refine (frame_any wr _ y HRq.out (by omega) (HTE.out _ HBq.out).1 er (HTE.out _ HBq.out).2).mono ?_
          rintro r w13 ⟨vc, rfl, h13, b13⟩
          have H13 := hide (ow_of h13)
          have HB13 := hide b13
          obtain ⟨oC, cC, rfl⟩ := (rd_own h13).len
          clear h13 b13
          go_wp2_with fail
          refine (refFrame_any w13 _ y (HRq.out.below HB13.out) (by omega)).mono ?_
          rintro r w14 ⟨vo, rfl, h14, b14⟩
          have H14 := hide (ow_of h14)
          have HB14 := hide b14
          obtain ⟨oO, cO, rfl⟩ := (rd_own h14).len
          clear h14 b14
          go_wp2_with fail
          refine (sameBytes_eq w14 _ _ (frL y) ((H13.out.below HB14.out).rd) H14.out.rd (by omega)).mono ?_
          rintro r w15 ⟨rfl, b15⟩
          have HB15 := hide (keepD (keepD HB13.out HB14.out) b15)
          clear b15
          go_wp2_with fail
          go_ret
          exact ⟨rfl, HBq.out.trans (HB15.out.mono HBq.out.size)⟩
end Go.Proofs.YtioemcikmaidoaaDoor.wl
