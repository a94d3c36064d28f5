import Derived.Test.YtgmgffcfmopgmaaDoorWlTold
namespace Go.Proofs.YtgmgffcfmopgmaaDoor.wl
open Go.ChangeShapes Go.WideShapes Go.ChangeAt Go.RowKit Go.Proofs.YtgmgffcfmopgmaaDoor.common Go.Proofs.YtgmgffcfmopgmaaDoor.dk

theorem tab_fr {w w' : World} {K : Nat} {F : List Nat} (ht : crcw.Tab w) (hf : Fr F w w') (hK : 13 < K) (hF : ∀ k ∈ F, K ≤ k) : crcw.Tab w' := fun i hi => by
  rw [← ht i hi]
  refine World.cell?_of_block (hf.block _ ht.lt (fun hm => ?_))
  have h1 : K ≤ 13 := hF _ hm
  omega
theorem lgD_below {w w' : World} {g p : Nat} {F : List Nat} {y : Lg} (h : LgD w g p F y) (hb : Below w.heap.size w w') : LgD w' g p F y := ⟨h.1.below hb, (hb.block g (Array.getElem?_eq_some_iff.1 h.2.1).1).trans h.2.1, h.2.2⟩
theorem lgAt_fr {w w' : World} {g p n z : Nat} {d : Bool} {F : List Nat} (h : LgAt w g p n z d) (hf : Fr F w w') (hg : g ∉ F) : LgAt w' g p n z d := (hf.block g (Array.getElem?_eq_some_iff.1 h).1 hg).trans h
theorem mem_up {F F1 : List Nat} {w : World} {K : Nat} (hs : ∀ k ∈ F1, k ∈ F ∨ w.heap.size ≤ k) (hF : ∀ k ∈ F, K ≤ k) (hK : K ≤ w.heap.size) : ∀ k ∈ F1, K ≤ k := fun k hk => by
  rcases hs k hk with h | h
  · exact hF k h
  · omega

set_option maxRecDepth 100000 in
set_option maxHeartbeats 6400000 in
theorem lawTwice (w : World) (v : Value) (l : List UInt8) (h : Rd w v l) (hl : l.length ≤ 1048576) (ht : crcw.Tab w) (e : Nat → Addr) (he : Ed w w.heap.size e) :
    Calls Tryd.prog 3 #[v] w fun r' w' => r' = .returned (.bool true) ∧ Below w.heap.size w w' := by
  have HTE : Hid (∀ Y, Below w.heap.size w Y → crcw.Tab Y) := fun Y hY => ht.below hY ht.lt
  have HEE : Hid (∀ Y, Below w.heap.size w Y → Ed Y Y.heap.size e) := fun Y hY => ⟨(he.below hY).arg, (he.below hY).dead, Nat.le_refl _, Nat.lt_of_lt_of_le he.lt.1 hY.size, Nat.lt_of_lt_of_le he.lt.2 hY.size⟩
  have HR := hide h
  have HEA : Hid (1 < w.heap.size) := he.lt.1
  have HTL : Hid (13 < w.heap.size) := ht.lt
  have HBG := hide (begun_any w ht _ he.arg HEA.out)
  obtain ⟨oa, ca, rfl⟩ := h.len
  obtain ⟨A, hA⟩ : ∃ A, A = l.take (Wl.good l) := ⟨_, rfl⟩
  have hgl := Wl.good_le l
  have hAl : A.length = Wl.good l := by rw [hA, List.length_take]; omega
  have hAf : A = Wl.flat (Wl.scan l) := by rw [hA]; exact Wl.good_take l
  have hsA : Wl.scan A = Wl.scan l := by rw [hAf]; exact Wl.scan_flat _ (Wl.scan_fits l)
  have hgA : Wl.good A = A.length := by unfold Wl.good; rw [hsA, ← hAf]
  have hAb : A.length ≤ 1048576 := by omega
  have hAn : (Wl.scan l).length ≤ 1048576 := by
    have h1 : (Wl.scan l).length ≤ (Wl.flat (Wl.scan l)).length := by
      generalize Wl.scan l = L
      induction L with
      | nil => exact Nat.le_refl _
      | cons a r ih => rw [Wl.flat_cons, List.length_append, Wl.fr_len, List.length_cons]; omega
    rw [← hAf] at h1; omega
  have hAq : ∀ q ∈ Wl.scan l, q.length ≤ 4611686018427387904 := fun q hq => by have := ((Wl.fit_iff _).1 (Wl.scan_fits l q hq)).2; omega
  have HA := hide hA
  have HAL := hide hAl
  have HSA := hide hsA
  have HGA := hide hgA
  have HAQ := hide hAq
  have hkA : kpS (plain A 1073741824) (Wl.good A) A.length = (plain A 1073741824, 0) := by
    have := keep_plain A 1073741824
    rw [hgA, List.take_length] at this
    rw [hgA]; exact this
  have hkl : kpS (plain l 1073741824) (Wl.good l) l.length = (plain A 1073741824, 0) := by rw [hA]; exact keep_plain l 1073741824
  have HKA := hide hkA
  have HKL := hide hkl
  clear h ht he hA hAl hAf hsA hgA hAq hkA hkl hgl
  go_enter Tryd.func3, Tryd.ntmps3
  go_wp2_with fail
  refine HBG.out.mono ?_
  rintro r' w1 ⟨rfl, b1⟩
  have HB1 := hide b1
  have HCP := hide (copy_any w1 _ l (HR.out.below b1) (by omega))
  clear HBG b1
  go_wp2_with fail
  refine HCP.out.mono ?_
  rintro r' w2 ⟨vw, rfl, hown, b2⟩
  obtain ⟨ow, cw, rfl⟩ := (rd_own hown).len
  have hBS2 : Bs w2 [] (.slice ow l.length cw) l := own_bs hown
  have HB2 : Hid (Below w.heap.size w w2) := keepD HB1.out b2
  have HOP := hide (open_any w2 _ l 1073741824 (HR.out.below HB2.out) (by omega))
  have hroom : roomOf 1073741824 = 1073741824 := by decide
  rw [hroom] at HOP
  obtain ⟨K, hK⟩ : ∃ K, K = w2.heap.size := ⟨_, rfl⟩
  have HE2 : Hid (Ed w2 K e) := by rw [hK]; exact HEE.out _ HB2.out
  have HKT : Hid (13 < K) := by have := HTL.out; have := HB2.out.size; show _ < _; omega
  have HBS2 := hide hBS2
  have HK := hide hK
  clear HCP hown b2 hroom hBS2 hK
  go_wp2_with fail
  refine HOP.out.mono ?_
  rintro r' w3 ⟨p, F, rfl, hD3, hF3, b3⟩
  have hFK : ∀ k ∈ F, K ≤ k := fun k hk => by rw [HK.out]; exact hF3 k hk
  have HBSW : Hid (Bs w3 F (.slice ow l.length cw) l) := HBS2.out.fr (Fr.of b3) (fun k hk => Or.inr (hF3 k hk))
  have HB3 : Hid (Below w.heap.size w w3) := keepD HB2.out b3
  have HE3 := hide (HE2.out.below b3)
  have HK3 : Hid (K ≤ w3.heap.size) := by show _ ≤ _; rw [HK.out]; exact b3.size
  have HOP1 := hide (openL_ok w3 K p F (plain l 1073741824) hD3 e HE3.out hFK (fine_plain l _ (by omega) (by decide)) (HTE.out _ HB3.out) (plain l 1073741824) rfl (fine_plain l _ (by omega) (by decide)) (trunc_plain l _ (by omega) (by decide)) (by show l.length ≤ _; omega) _ HKL.out HKT.out)
  have HFK := hide hFK
  have HW3 : Hid (w.heap.size ≤ K) := by show _ ≤ _; rw [HK.out]; exact HB2.out.size
  clear HOP hD3 hF3 b3 hFK HBS2 HE2
  go_wp2_with fail
  refine HOP1.out.mono ?_
  rintro r' w4 ⟨g1, F1, v1, its1, rfl, hlg1, hps1, hown1, hits1, hf1, hs1, hg1, hap1, hap1'⟩
  have HT1 : Hid (Tl w4 F1 v1 its1) := ⟨own_mono' hown1 (Nat.zero_le _), fun x hx => (hits1.1 x hx).1, hap1, hap1'⟩
  have HBSW1 := hide (HBSW.out.fr hf1 hs1)
  have HF1 := hide (mem_up hs1 HFK.out HK3.out)
  have HE4 := hide (HE3.out.fr hf1 HFK.out)
  have HTB4 := hide (tab_fr (HTE.out _ HB3.out) hf1 HKT.out HFK.out)
  have HB4 : Hid (Below w.heap.size w w4) := HB3.out.trans (hf1.below (fun k hk => Nat.le_trans HW3.out (HFK.out k hk)) HB3.out.size)
  have HLG1 := hide hlg1
  have HPS1 := hide hps1
  obtain ⟨o1, c1, hv1⟩ := HT1.out.ls.len
  have hpl1 : (ps its1).length = its1.length := by simp [ps]
  rw [hpl1] at hv1
  have hi1 : its1.length = (Wl.scan l).length := by rw [← hpl1, hps1]
  subst hv1
  have HLK := hide (look_any w4 p F1 (plain A 1073741824) hlg1.1 (by show A.length ≤ _; omega))
  clear HOP1 hlg1 hps1 hown1 hits1 hf1 hs1 hap1 hap1' HE3 HBSW hpl1
  have HI1 := hide hi1
  clear hi1
  go_wp2_with fail
  refine HLK.out.mono ?_
  rintro r' w5 ⟨va, rfl, hans5, b5⟩
  have HBA : Hid (Bs w5 F1 va A) := ans_bs hans5
  obtain ⟨oA, cA, hva⟩ := HBA.out.rc.rd.len
  subst hva
  have HT1' := hide (HT1.out.below b5)
  have HBSW2 := hide (HBSW1.out.below b5)
  have HE5 := hide (HE4.out.below b5)
  have HTB5 := hide (HTB4.out.below b5 HTB4.out.lt)
  have HLG1' := hide (lgD_below HLG1.out b5)
  have HB5 : Hid (Below w.heap.size w w5) := keepD HB4.out b5
  have HK5 : Hid (K ≤ w5.heap.size) := HE5.out.size
  have HOP2 := hide (openL_ok w5 K p F1 (plain A 1073741824) HLG1'.out.1 e HE5.out HF1.out (fine_plain A _ (by omega) (by decide)) HTB5.out (plain A 1073741824) rfl (fine_plain A _ (by omega) (by decide)) (trunc_plain A _ (by omega) (by decide)) (by show A.length ≤ _; omega) _ HKA.out HKT.out)
  clear HLK hans5 b5 HT1 HBSW1 HE4 HTB4 HLG1
  go_wp2_with fail
  refine HOP2.out.mono ?_
  rintro r' w6 ⟨g2, F2, v2, its2, rfl, hlg2, hps2, hown2, hits2, hf2, hs2, hg2, hap2, hap2'⟩
  have HT2 : Hid (Tl w6 F2 v2 its2) := ⟨own_mono' hown2 (Nat.zero_le _), fun x hx => (hits2.1 x hx).1, hap2, hap2'⟩
  have HT1 := hide (HT1'.out.fr hf2 hs2)
  have HBA2 := hide (HBA.out.fr hf2 hs2)
  have HBSW1 := hide (HBSW2.out.fr hf2 hs2)
  have HF2 := hide (mem_up hs2 HF1.out HK5.out)
  have HE6 := hide (HE5.out.fr hf2 HF1.out)
  have HTB6 := hide (tab_fr HTB5.out hf2 HKT.out HF1.out)
  have HB6 : Hid (Below w.heap.size w w6) := HB5.out.trans (hf2.below (fun k hk => Nat.le_trans HW3.out (HF1.out k hk)) HB5.out.size)
  have HL1 := hide (lgAt_fr HLG1'.out.2.1 hf2 HLG1'.out.2.2)
  have HG1 : Hid (g1 ∉ F2) := fun hm => by
    rcases hs2 _ hm with h1 | h1
    · exact HLG1'.out.2.2 h1
    · have := (Array.getElem?_eq_some_iff.1 HLG1'.out.2.1).1; omega
  have HLG2 := hide hlg2
  have HPS2 : Hid (ps its2 = Wl.scan l) := by show _ = _; rw [hps2]; exact HSA.out
  obtain ⟨o2, c2, hv2⟩ := HT2.out.ls.len
  have hpl2 : (ps its2).length = its2.length := by simp [ps]
  rw [hpl2] at hv2
  subst hv2
  have HLK := hide (look_any w6 p F2 (plain A 1073741824) hlg2.1 (by show A.length ≤ _; omega))
  clear HOP2 hlg2 hps2 hown2 hits2 hf2 hs2 hap2 hap2' HE5 HBSW2 hpl2 HT1' HBA HLG1' HTB5
  go_wp2_with fail
  refine HLK.out.mono ?_
  rintro r' w7 ⟨vb, rfl, hans7, b7⟩
  have HBB : Hid (Bs w7 F2 vb A) := ans_bs hans7
  obtain ⟨oB, cB, hvb⟩ := HBB.out.rc.rd.len
  subst hvb
  have HT1' := hide (HT1.out.below b7)
  have HT2' := hide (HT2.out.below b7)
  have HBA := hide (HBA2.out.below b7)
  have HBSW2 := hide (HBSW1.out.below b7)
  have HE7 := hide (HE6.out.below b7)
  have HTB7 := hide (HTB6.out.below b7 HTB6.out.lt)
  have HL1' := hide (lgAt_fr HL1.out (Fr.of (F := []) b7) (by simp))
  have HD7 := hide (HLG2.out.1.below b7)
  have HB7 : Hid (Below w.heap.size w w7) := keepD HB6.out b7
  have HCR := hide (crash_any w7 p F2 (plain A 1073741824) 0 HD7.out (fine_plain A _ (by omega) (by decide)))
  have hcr : (plain A 1073741824).crash 0 = ⟨A, A.length, 1073741824, [], true⟩ := by simp [St.crash, St.fail, St.left]
  rw [hcr] at HCR
  clear HLK hans7 b7 HT1 HT2 HBSW1 HE6 HTB6 HLG2 hcr HBA2 HL1 HD7
  go_wp2_with fail
  refine HCR.out.mono ?_
  rintro r' w8 ⟨rfl, F3, hD8, hf3, hs3⟩
  have HT1 := hide (HT1'.out.fr hf3 hs3)
  have HT2 := hide (HT2'.out.fr hf3 hs3)
  have HBA2 := hide (HBA.out.fr hf3 hs3)
  have HBB2 := hide (HBB.out.fr hf3 hs3)
  have HBSW1 := hide (HBSW2.out.fr hf3 hs3)
  have HF3 := hide (mem_up hs3 HF2.out HE7.out.size)
  have HE8 := hide (HE7.out.fr hf3 HF2.out)
  have HTB8 := hide (tab_fr HTB7.out hf3 HKT.out HF2.out)
  have HL1 := hide (lgAt_fr HL1'.out hf3 HG1.out)
  have HG13 : Hid (g1 ∉ F3) := fun hm => by
    rcases hs3 _ hm with h1 | h1
    · exact HG1.out h1
    · have := (Array.getElem?_eq_some_iff.1 HL1'.out).1; omega
  have HB8 : Hid (Below w.heap.size w w8) := HB7.out.trans (hf3.below (fun k hk => Nat.le_trans HW3.out (HF2.out k hk)) HB7.out.size)
  have HRV := hide (revive_any w8 p F3 _ hD8)
  clear HCR hD8 hf3 hs3 HT1' HT2' HBA HBB HBSW2 HE7 HTB7 HL1' HG1
  go_wp2_with fail
  refine HRV.out.mono ?_
  rintro r' w9 ⟨rfl, F4, hD9, hf4, hs4⟩
  have hD9' : Dk w9 p F4 (plain A 1073741824) := hD9
  have HT1' := hide (HT1.out.fr hf4 hs4)
  have HT2' := hide (HT2.out.fr hf4 hs4)
  have HBA := hide (HBA2.out.fr hf4 hs4)
  have HBB := hide (HBB2.out.fr hf4 hs4)
  have HBSW2 := hide (HBSW1.out.fr hf4 hs4)
  have HF4 := hide (mem_up hs4 HF3.out HE8.out.size)
  have HE9 := hide (HE8.out.fr hf4 HF3.out)
  have HTB9 := hide (tab_fr HTB8.out hf4 HKT.out HF3.out)
  have HL1' := hide (lgAt_fr HL1.out hf4 HG13.out)
  have HG14 : Hid (g1 ∉ F4) := fun hm => by
    rcases hs4 _ hm with h1 | h1
    · exact HG13.out h1
    · have := (Array.getElem?_eq_some_iff.1 HL1.out).1; omega
  have HB9 : Hid (Below w.heap.size w w9) := HB8.out.trans (hf4.below (fun k hk => Nat.le_trans HW3.out (HF3.out k hk)) HB8.out.size)
  have HOP3 := hide (openL_ok w9 K p F4 (plain A 1073741824) hD9' e HE9.out HF4.out (fine_plain A _ (by omega) (by decide)) HTB9.out (plain A 1073741824) rfl (fine_plain A _ (by omega) (by decide)) (trunc_plain A _ (by omega) (by decide)) (by show A.length ≤ _; omega) _ HKA.out HKT.out)
  clear HRV hD9 hD9' hf4 hs4 HT1 HT2 HBA2 HBB2 HBSW1 HE8 HTB8 HL1 HG13
  go_wp2_with fail
  refine HOP3.out.mono ?_
  rintro r' w10 ⟨g3, F5, v3, its3, rfl, hlg3, hps3, hown3, hits3, hf5, hs5, hg3, hap3, hap3'⟩
  have HT3 : Hid (Tl w10 F5 v3 its3) := ⟨own_mono' hown3 (Nat.zero_le _), fun x hx => (hits3.1 x hx).1, hap3, hap3'⟩
  have HT1 := hide (HT1'.out.fr hf5 hs5)
  have HT2 := hide (HT2'.out.fr hf5 hs5)
  have HBA2 := hide (HBA.out.fr hf5 hs5)
  have HBB2 := hide (HBB.out.fr hf5 hs5)
  have HBSW1 := hide (HBSW2.out.fr hf5 hs5)
  have HTB10 := hide (tab_fr HTB9.out hf5 HKT.out HF4.out)
  have HL1 := hide (lgAt_fr HL1'.out hf5 HG14.out)
  have HB10 : Hid (Below w.heap.size w w10) := HB9.out.trans (hf5.below (fun k hk => Nat.le_trans HW3.out (HF4.out k hk)) HB9.out.size)
  have HLG3 := hide hlg3
  have HPS3 : Hid (ps its3 = Wl.scan l) := by show _ = _; rw [hps3]; exact HSA.out
  obtain ⟨o3, c3, hv3⟩ := HT3.out.ls.len
  have hpl3 : (ps its3).length = its3.length := by simp [ps]
  rw [hpl3] at hv3
  subst hv3
  have HLK := hide (look_any w10 p F5 (plain A 1073741824) hlg3.1 (by show A.length ≤ _; omega))
  clear HOP3 hlg3 hps3 hown3 hits3 hf5 hs5 hap3 hap3' HE9 HBSW2 hpl3 HT1' HT2' HBA HBB HL1' HTB9
  go_wp2_with fail
  refine HLK.out.mono ?_
  rintro r' w11 ⟨vc, rfl, hans11, b11⟩
  have HBC : Hid (Bs w11 F5 vc A) := ans_bs hans11
  obtain ⟨oC, cC, hvc⟩ := HBC.out.rc.rd.len
  subst hvc
  have HT1' := hide (HT1.out.below b11).ls
  have HT2' := hide (HT2.out.below b11).ls
  have HT3' := hide (HT3.out.below b11).ls
  rw [HPS1.out] at HT1'
  rw [HPS2.out] at HT2'
  rw [HPS3.out] at HT3'
  have HBA := hide (HBA2.out.below b11).rc
  have HBB := hide (HBB2.out.below b11).rc
  have HBCc := hide HBC.out.rc
  have HBSW2 := hide (HBSW1.out.below b11).rc
  have HTB11 := hide (HTB10.out.below b11 HTB10.out.lt)
  have HL1' := hide (lgAt_fr HL1.out (Fr.of (F := []) b11) (by simp))
  have HL3' := hide (lgAt_fr HLG3.out.2.1 (Fr.of (F := []) b11) (by simp))
  have HB11 : Hid (Below w.heap.size w w11) := keepD HB10.out b11
  have HSC := hide (scan_any w11 _ A HBA.out (by omega) HTB11.out)
  rw [HSA.out, HGA.out] at HSC
  clear HLK hans11 b11 HT1 HT2 HT3 HBSW1 HTB10 HLG3 HBA2 HBB2 HL1 HBC
  go_wp2_with fail
  refine HSC.out.mono ?_
  rintro r' w12 ⟨vs, its4, rfl, hps4, hown4, hits4, b12⟩
  have HLS := hide (ls_itsW hown4 hits4)
  rw [hps4] at HLS
  obtain ⟨os, cs, hvs⟩ := HLS.out.len
  subst hvs
  have HB12 := hide b12
  have HS1 := hide (same_any w12 _ _ (Wl.scan l) (HT1'.out.below b12) (HT2'.out.below b12) (by omega) HAQ.out)
  clear HSC hps4 hown4 hits4 b12
  go_wp2_with fail
  refine HS1.out.mono ?_
  rintro r' w13 ⟨rfl, b13⟩
  have HB13 := hide (keepD HB12.out b13)
  have HS2 := hide (same_any w13 _ _ (Wl.scan l) (HT2'.out.below HB13.out) (HT3'.out.below HB13.out) (by omega) HAQ.out)
  have HLS' := hide (HLS.out.below b13)
  clear HS1 b13
  go_wp2_with fail
  refine HS2.out.mono ?_
  rintro r' w14 ⟨rfl, b14⟩
  have HB14 := hide (keepD HB13.out b14)
  have HS3 := hide (same_any w14 _ _ (Wl.scan l) (HT1'.out.below HB14.out) (HLS'.out.below b14) (by omega) HAQ.out)
  clear HS2 b14
  go_wp2_with fail
  refine HS3.out.mono ?_
  rintro r' w15 ⟨rfl, b15⟩
  have HB15 := hide (keepD HB14.out b15)
  have HS4 := hide (sameBytes_eq w15 _ _ A (HBA.out.rd.below HB15.out) (HBB.out.rd.below HB15.out) (by omega))
  clear HS3 b15
  go_wp2_with fail
  refine HS4.out.mono ?_
  rintro r' w16 ⟨rfl, b16⟩
  have HB16 := hide (keepD HB15.out b16)
  have HS5 := hide (sameBytes_eq w16 _ _ A (HBB.out.rd.below HB16.out) (HBCc.out.rd.below HB16.out) (by omega))
  clear HS4 b16
  go_wp2_with fail
  refine HS5.out.mono ?_
  rintro r' w17 ⟨rfl, b17⟩
  have HB17 := hide (keepD HB16.out b17)
  have hcw : l.length ≤ cw := by
    obtain ⟨_, _, e, hc, _⟩ := HBSW2.out
    cases e
    exact hc
  have hAL2 : A.length ≤ l.length := by have := HAL.out; have := Wl.good_le l; omega
  have m1 : (A.length : Int) % ((l.length : Int) + 1) = (A.length : Int) := Int.emod_eq_of_lt (by omega) (by omega)
  have m2 : (A.length : Int) ≤ (cw : Int) := by omega
  have m0 : (0 : Int) ≤ (A.length : Int) := by omega
  clear HS5 b17 hcw
  have hRT : Rd w17 (.slice ow A.length cw) A := by
    have h1 := Rd.take (HBSW2.out.rd.below HB17.out) A.length hAL2 cw
    have h2 : l.take A.length = A := by rw [HAL.out]; exact HA.out.symm
    rw [h2] at h1
    exact h1
  have HS6 := hide (sameBytes_eq w17 _ _ A (HBA.out.rd.below HB17.out) hRT (by omega))
  clear hRT
  go_wp2_with fail
  refine HS6.out.mono ?_
  rintro r' w18 ⟨rfl, b18⟩
  have HB18 := hide (keepD HB17.out b18)
  have HC1 := hide (count_any w18 g1 p _ _ _ (lgAt_fr HL1'.out (Fr.of (F := []) HB18.out) (by simp)))
  have HZ3 := hide (size_any w18 g3 p _ _ _ (lgAt_fr HL3'.out (Fr.of (F := []) HB18.out) (by simp)))
  rw [HGA.out] at HZ3
  have HFIN : Hid (Below w.heap.size w w18) := keepD HB11.out HB18.out
  clear HS6 b18 m1 m2
  go_wp2_with (first
    | (go_at_call 18; refine HC1.out.mono ?_; rintro r' w19 ⟨rfl, rfl⟩)
    | (go_at_call 19; refine HZ3.out.mono ?_; rintro r' w19 ⟨rfl, rfl⟩))
  go_ret
  exact ⟨by simp, HFIN.out⟩
end Go.Proofs.YtgmgffcfmopgmaaDoor.wl
