import Derived.Test.YtkmhhodapnlkiaaDoorRegion12
namespace Go.Proofs.YtkmhhodapnlkiaaDoor.shaw
open Go.ChangeShapes Go.WideShapes Go.ChangeAt Go.RowKit Go.Proofs.YtkmhhodapnlkiaaDoor.common
attribute [local go_sem ↓] Go.wp_at_zero Go.wp_at_succ

theorem szL (l : List UInt8) : (⟨l.toArray⟩ : ByteArray).size = l.length := by
  show l.toArray.size = _; simp
theorem conv64 {w : World} {g : Nat} {l : List UInt8} (h : w.rangeAt g 0 (l.map B)) (hl : l.length = 64) : (convert 34 9 (.slice (some ⟨g, 0, none⟩) 64 64)).run Tryd.prog w = .ok (.string ⟨l.toArray⟩) w := by
  have := run_convert_bytes_back (P := Tryd.prog) w 34 9 5 ⟨g, 0, none⟩ 64 l Tryd.underlying34 Tryd.underlying5 Tryd.underlying9 (by
    intro j hj
    rw [Addr.add_mid, Nat.zero_add, byte_cell h j hj]
    simp [hj])
  rw [hl] at this
  exact this
theorem there_kept {w w' : World} {g o n m : Nat} (h : w.there g 0 m) (k : Kept w w' g o n) (hc : ∀ i, o ≤ i → i < o + n → (w'.cell? ⟨g, i, none⟩).isSome = true) : w'.there g 0 m := fun j hj => by
  obtain ⟨h1, h2⟩ := h j hj
  rw [Nat.zero_add] at h1 h2 ⊢
  refine ⟨?_, by rw [k.frozen]; exact h2⟩
  by_cases hi : o ≤ j ∧ j < o + n
  · exact hc j hi.1 hi.2
  · rw [k.cell j (by omega)]; exact h1
theorem val_new : HashVal hash0.toList [] := ⟨List.replicate 64 0, by simp, rfl, by kernel_rfl⟩
theorem key_new : KeyVal (hash0 ++ hash0).toList [] [] := ⟨hash0.toList, hash0.toList, by kernel_rfl, val_new, val_new⟩


set_option maxRecDepth 100000 in
set_option maxHeartbeats 400000 in
theorem takeKey_any (s : ByteArray) (w : World) (hs : s.size ≤ 562949953421312) (hk : RW w) (hf : FW w) :
    Calls Tryd.prog 15 #[.string s] w fun e w' => ∃ cs, e = .returned (.agg cs.toArray) ∧ KeyVal cs (blk (shortKey s.data.toList) 0x36) (blk (shortKey s.data.toList) 0x5c) ∧ Below w.heap.size w w' := by
  have HK := hide hk
  have HF := hide hf
  have HC := hide (fun W h1 h2 => sha_any s W hs h1 h2)
  clear hk hf
  have hz := zeroKeyed
  have hz64 : ∀ w, (zeroValue 36).run Tryd.prog w = .ok (.agg zero64) w := fun w => by kernel_rfl
  go_enter Tryd.func15, Tryd.ntmps15
  go_upto_if 9 with fail
  go_cut [0] (fun k wx => k = .string ⟨(shortKey s.data.toList).toArray⟩ ∧ wx.there w.heap.size 0 146 ∧ Below w.heap.size w wx)
  case first =>
    have b0 : Below w.heap.size w (w.alloc (.cells zeroKey 43)) := (Below.refl _ _).alloc (Nat.le_refl _) _
    have HB0 := hide b0
    have HT0 : Hid ((w.alloc (.cells zeroKey 43)).there w.heap.size 0 146) := there_new_at w _ _ _ _ rfl rfl
    clear b0
    by_cases hlt : 64 < s.size
    · have HE : Hid (shortKey s.data.toList = Sha.digest s.data.toList) := if_pos hlt
      have hlt' : (64 : Int) < (s.size : Int) := by omega
      go_wp2_with fail
      refine (HC.out _ (HK.out.below HB0.out HK.out.lt) (HF.out.below HB0.out HF.out.lt)).mono ?_
      rintro e w1 ⟨rfl, hb1⟩
      have HB1 := hide hb1
      clear hb1
      go_wp2_with fail
      go_meet
      case rel => exact ⟨by rw [HE.out], there_below HT0.out HB1.out (by simp), HB0.out.trans (HB1.out.mono (by simp))⟩
    · have HE : Hid (shortKey s.data.toList = s.data.toList) := if_neg hlt
      have hlt' : ¬ (64 : Int) < (s.size : Int) := by omega
      go_wp2_with fail
      go_meet
      case rel => exact ⟨by rw [HE.out], HT0.out, HB0.out⟩
  case rest =>
    obtain ⟨rfl, hT, hB⟩ := hcut
    have hKl := shortKey_length s.data.toList
    generalize hKK : shortKey s.data.toList = K at *
    have HKK := hide hKK
    clear hKK
    have HT := hide hT
    have HB := hide hB
    have HTL : Hid (w.heap.size < wc.heap.size) := there_lt hT (by decide)
    obtain ⟨W1, W2, hcp1, hcp2, hin⟩ := copies wc K hKl
    have HIN := hide hin
    have HBW : Hid (Below w.heap.size w W2) := HB.out.trans (hin.below.mono (Nat.le_of_lt HTL.out))
    have HTW : Hid (W2.there w.heap.size 0 146) := there_below HT.out hin.below HTL.out
    have HG0 : Hid (w.heap.size < wc.heap.size) := HTL.out
    clear hT hB hin HT HB
    go_wp2_with fail
    clear hcp1 hcp2
    obtain ⟨G, hG⟩ : ∃ G, wc.heap.size = G := ⟨_, rfl⟩
    have HI0 := hide HIN.out.i
    have HO0 := hide HIN.out.o
    have HT1 := hide HIN.out.ti
    have HT2 := hide HIN.out.tq
    clear HIN HTL
    rw [hG] at HG0 HI0 HO0 HT1 HT2
    rw [hG]
    clear hG
    go_loopw [18] (fun i wr => ∃ k : Nat, k ≤ 64 ∧ i = .int .i64 k ∧ wr.rangeAt G 0 ((mixk K 0x36 k).map B) ∧ wr.rangeAt (G + 1) 0 ((mixk K 0x5c k).map B) ∧ wr.there G 0 64 ∧ wr.there (G + 1) 0 64 ∧ wr.there w.heap.size 0 146 ∧ Below w.heap.size w wr) (fun i _ => 64 - (intOf i).toNat)
    case atStart => exact ⟨0, Nat.zero_le _, rfl, HI0.out, HO0.out, HT1.out, HT2.out, HTW.out, HBW.out⟩
    case round =>
      obtain ⟨k, hk, rfl, hi, ho, t1, t2, t3, hb⟩ := hrel
      by_cases hlt : k < 64
      · have q0 : wr.cell? ⟨G, k, none⟩ = some (B ((zpad K).getD k 0)) := by rw [← mixk_get K 0x36 k hlt hKl]; exact byte_cell hi k (by rw [mixk_length K _ k hKl hk]; exact hlt)
        have q1 : wr.cell? ⟨G + 1, k, none⟩ = some (B ((zpad K).getD k 0)) := by rw [← mixk_get K 0x5c k hlt hKl]; exact byte_cell ho k (by rw [mixk_length K _ k hKl hk]; exact hlt)
        have f0 : wr.frozen? ⟨G, k, none⟩ = false := by simpa using (t1 k hlt).2
        have f1 : wr.frozen? ⟨G + 1, k, none⟩ = false := by simpa using (t2 k hlt).2
        have hs1 : Hid ((mixk K 0x36 (k + 1)).map B = ((mixk K 0x36 k).map B).set k (B ((zpad K).getD k 0 ^^^ 0x36))) := by show _ = _; rw [mixk_set K _ k hlt hKl, List.map_set]
        have hs2 : Hid ((mixk K 0x5c (k + 1)).map B = ((mixk K 0x5c k).map B).set k (B ((zpad K).getD k 0 ^^^ 0x5c))) := by show _ = _; rw [mixk_set K _ k hlt hKl, List.map_set]
        have k0 : (0 : Int) ≤ (k : Int) := Int.natCast_nonneg _
        have k1 : (k : Int) < 64 := by omega
        have l1 : Hid (((mixk K 0x36 k).map B).length = 64) := by show _ = _; rw [List.length_map, mixk_length K _ k hKl hk]
        have l2 : Hid (((mixk K 0x5c k).map B).length = 64) := by show _ = _; rw [List.length_map, mixk_length K _ k hKl hk]
        generalize (zpad K).getD k 0 = x at *
        have e1 : bits .xor .u8 (x.toNat : Int) 54 = ((x ^^^ 0x36).toNat : Int) := xor8 x 0x36
        have e2 : bits .xor .u8 (x.toNat : Int) 92 = ((x ^^^ 0x5c).toNat : Int) := xor8 x 0x5c
        generalize x ^^^ 0x36 = y1 at *
        generalize x ^^^ 0x5c = y2 at *
        have hne : (⟨G, k, none⟩ : Addr) ≠ ⟨G + 1, k, none⟩ := fun he => by have := (Addr.mk.inj he).1; omega
        have q2 : (wr.setCell ⟨G, k, none⟩ (B y1)).cell? ⟨G + 1, k, none⟩ = some (B x) := (World.cell?_setCell_other _ _ _ _ hne).trans q1
        have R1 : ((wr.setCell ⟨G, k, none⟩ (B y1)).setCell ⟨G + 1, k, none⟩ (B y2)).rangeAt G 0 ((mixk K 0x36 (k + 1)).map B) := by
          rw [hs1.out]
          have := range_set hi k (by rw [l1.out]; exact hlt) (B y1)
          rw [Nat.zero_add] at this
          exact range_other this _ (Or.inl (by show G + 1 ≠ G; omega)) _
        have R2 : ((wr.setCell ⟨G, k, none⟩ (B y1)).setCell ⟨G + 1, k, none⟩ (B y2)).rangeAt (G + 1) 0 ((mixk K 0x5c (k + 1)).map B) := by
          rw [hs2.out]
          have := range_set (range_other ho ⟨G, k, none⟩ (Or.inl (by show G ≠ G + 1; omega)) (B y1)) k (by rw [l2.out]; exact hlt) (B y2)
          rw [Nat.zero_add] at this
          exact this
        have HR1 := hide R1
        have HR2 := hide R2
        have H1 := hide t1
        have H2 := hide t2
        have H3 := hide t3
        have H4 := hide hb
        clear R1 R2 hi ho t1 t2 t3 hb hs1 hs2 hne
        go_wp2_with fail
        refine ⟨⟨k + 1, by omega, by go_num, HR1.out, HR2.out, there_set (there_set H1.out _ _) _ _, there_set (there_set H2.out _ _) _ _, there_set (there_set H3.out _ _) _ _, (H4.out.setCell (by have := HG0.out; show w.heap.size ≤ G; omega) _).setCell (by have := HG0.out; show w.heap.size ≤ G + 1; omega) _⟩, by simp [intOf]; omega⟩
      · obtain rfl : k = 64 := by omega
        obtain ⟨wo, rfl⟩ : ∃ wo : World, wo = wr := ⟨_, rfl⟩
        have HI := hide hi
        have HO := hide ho
        have H1 := hide t1
        have H2 := hide t2
        have H3 := hide t3
        have H4 := hide hb
        clear hi ho t1 t2 t3 hb hlt hk
        rw [mixk_all K _ hKl] at HI HO
        go_wp2_with fail
        have HFo := hide (HF.out.below H4.out HF.out.lt)
        go_upto_region 12 with fail
        go_cut [6] (fun p wx => ∃ g, p = .pointer (some ⟨g, 0, none⟩) ∧ G + 1 < g ∧ HashOf wx g 0 [] ∧ HashOf wx g 73 [] ∧ wx.there g 0 146 ∧ Below wo.heap.size wo wx)
        case first =>
          clear hz hz64
          refine region12 _ _ _ _ _ _ _ _ _ _ _ _ _ _ _ _ _ _ _ _ _ _ _ _ _ _ _ _ _ _ _ _ _ _ _ _ _ _ _ _ _ _ _ _ _ _ _ _ wo HFo.out rfl rfl rfl rfl rfl rfl rfl rfl rfl rfl (by kernel_rfl) (by kernel_rfl) (by kernel_rfl) ?_
          intro g v32 v33 v34 v35 v36 v37 v38 wx hg hr ht hb
          have hkv := key_new.of hr ht
          have HKV := hide hkv
          have HTX := hide ht
          have HBX := hide hb
          have HGX := hide hg
          clear hkv ht hb hg hr
          dsimp only
          go_wp2_with fail
          go_meet
          case rel => exact ⟨g, rfl, Nat.lt_of_lt_of_le (there_lt H2.out (by decide)) HGX.out, HKV.out.1, HKV.out.2, HTX.out, HBX.out⟩
        case rest =>
          obtain ⟨g, rfl, hGg, h1, h2, htg, hb⟩ := hcut
          have hlen : ∀ c, (blk K c).length = 64 := fun c => by unfold blk; rw [List.length_map, zpad_length K hKl]
          have hG0 := HG0.out
          have tG : G < wo.heap.size := there_lt H1.out (by decide)
          have tG1 : G + 1 < wo.heap.size := there_lt H2.out (by decide)
          have rI := range_below HI.out hb tG
          have rO := range_below HO.out hb tG1
          have rT := there_below H3.out hb (by omega)
          have hcI : (convert 34 9 (.slice (some ⟨G, 0, none⟩) 64 64)).run Tryd.prog wc = .ok (.string ⟨(blk K 0x36).toArray⟩) wc := conv64 rI (hlen _)
          have HNE : Hid (g ≠ 5) := fun h => by have := HK.out.lt; omega
          have HBC : Hid (Below w.heap.size w wc) := H4.out.trans (hb.mono (by have := H4.out.size; exact this))
          have HKC := hide (HK.out.below HBC.out HK.out.lt)
          have RO := hide rO
          have RT := hide rT
          have HH1 := hide h1
          have HH2 := hide h2
          have HTG := hide htg
          have HL36 := hide (hlen 0x36)
          have HL5C := hide (hlen 0x5c)
          have HTGl : Hid (G + 1 < wc.heap.size) := Nat.lt_of_lt_of_le tG1 hb.size
          have HWl : Hid (w.heap.size < wc.heap.size) := by show _ < _; have := HTGl.out; omega
          clear h1 h2 htg hb rI rO rT hlen tG tG1 HI HO H1 H2 H3 H4 HFo
          generalize hBI : blk K 0x36 = BI at *
          generalize hBO : blk K 0x5c = BO at *
          have HBI := hide hBI
          have HBO := hide hBO
          clear hBI hBO
          go_wp2_with fail
          refine (add_any g 0 [] ⟨BI.toArray⟩ wc (by rw [szL, HL36.out]; decide) HH1.out HKC.out HNE.out).mono ?_
          rintro e w1 ⟨rfl, a1, k1⟩
          rw [List.nil_append] at a1
          have A1 := hide a1
          have RO1 := hide (k1.range RO.out (Or.inl (by omega)) HTGl.out)
          have RT1 := hide (k1.there RT.out (Or.inl (by omega)) HWl.out)
          have HH21 := hide (HH2.out.kept k1 (Or.inr (Or.inr (by decide))))
          have HKC1 := hide (HKC.out.kept k1 HNE.out)
          have HB1 : Hid (Below w.heap.size w w1) := HBC.out.trans (k1.Below (by omega) (by have := HWl.out; omega))
          clear a1 k1 hcI
          have hcO : (convert 34 9 (.slice (some ⟨G + 1, 0, none⟩) 64 64)).run Tryd.prog w1 = .ok (.string ⟨BO.toArray⟩) w1 := conv64 RO1.out HL5C.out
          go_wp2_with fail
          refine (add_any g 73 [] ⟨BO.toArray⟩ w1 (by rw [szL, HL5C.out]; decide) HH21.out HKC1.out HNE.out).mono ?_
          rintro e w2 ⟨rfl, a2, k2⟩
          rw [List.nil_append] at a2
          have A12 := A1.out.kept k2 (Or.inr (Or.inl (by decide)))
          obtain ⟨vi, hvi, ri⟩ := HashOf.val A12
          obtain ⟨vo, hvo, ro⟩ := HashOf.val a2
          have hkv : KeyVal (vi ++ vo) BI BO := ⟨vi, vo, rfl, hvi, hvo⟩
          have rv : w2.rangeAt g 0 (vi ++ vo) := range_join ri (by rw [hvi.length, Nat.zero_add]; exact ro)
          have hll := hkv.length
          have HKV := hide hkv
          have HRV := hide rv
          have HT2 : Hid (w2.there w.heap.size 0 146) := k2.there RT1.out (Or.inl (by omega)) (there_lt RT1.out (by decide))
          have HB2 : Hid (Below w.heap.size w w2) := HB1.out.trans (k2.Below (by omega) HB1.out.size)
          have hI1 : (Tryd.prog.info? 43).map (·.size) = some (vi ++ vo).length := by rw [hll]; exact sizeKeyed
          have hI2 : (Tryd.prog.info? 43).map (·.size) = some (vi ++ vo).toArray.size := by rw [List.size_toArray]; exact hI1
          have HI1 := hide hI1
          have HI2 := hide hI2
          have hls : (vi ++ vo).toArray.size = 146 := by rw [List.size_toArray, hll]
          have HTT : Hid (w2.there w.heap.size 0 (vi ++ vo).toArray.size) := by rw [hls]; exact HT2.out
          clear hcO a2 k2 A12 hvi ri hvo ro hkv rv hll hI1 hI2 hls
          generalize vi ++ vo = L at *
          go_wp2_with (first | (refine wpList_load_mid rfl 43 (.tmp 6) rfl g 0 rfl L _ HRV.out Tryd.underlying43 rfl HI1.out ?_) | (refine wpList_store_mid rfl 43 (.tmp 2) (.tmp 47) rfl w.heap.size 0 L.toArray rfl rfl HTT.out HI2.out HKV.out.one ?_))
          refine bodyPost_ret (v := .agg L.toArray) (results_cell1 (b := w.heap.size) (o := 0) (cs := L) Tryd.results15 _ rfl ?_ Tryd.underlying43 rfl HI1.out) rfl ⟨L, rfl, by rw [HKK.out, HBI.out, HBO.out]; exact HKV.out, ?_⟩
          · have := World.rangeAt_setCells_same w2 w.heap.size 0 L (by simpa using HTT.out)
            simpa using this
          · exact common.below_setCells HB2.out (Nat.le_refl _) _ _
end Go.Proofs.YtkmhhodapnlkiaaDoor.shaw
