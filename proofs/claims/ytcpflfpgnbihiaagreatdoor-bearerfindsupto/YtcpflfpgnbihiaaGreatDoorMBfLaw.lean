import Derived.Test.YtcpflfpgnbihiaaGreatDoorMBfLaw0
namespace Go.Proofs.YtcpflfpgnbihiaaGreatDoor.bf
open Go.ChangeShapes Go.WideShapes Go.ChangeAt Go.RowKit Go.Proofs.YtcpflfpgnbihiaaGreatDoor.common Go.Proofs.YtcpflfpgnbihiaaGreatDoor.bk Go.Proofs.YtcpflfpgnbihiaaGreatDoor.fd
open Go.Proofs.YtcpflfpgnbihiaaGreatDoor.lst (PB Lies Row cl cl_app cl_len cl_get0 cl_get1 cl_set takeP row_of_own lookOf lies_of_own)
open Go.Proofs.YtcpflfpgnbihiaaGreatDoor.errw (Errs E)
attribute [local go_sem ↓] Go.wp_at_zero Go.wp_at_succ

/-- a field with one byte more, and the first k of them -/
def zp (p : PB) : PB := (p.1, p.2 ++ ⟨#[122]⟩)
def zed (l : List PB) (k : Nat) : List PB := (l.take k).map zp ++ l.drop k
theorem zed_zero (l : List PB) : zed l 0 = l := by simp [zed]
theorem zed_all (l : List PB) : zed l l.length = l.map zp := by simp [zed]
theorem zed_len (l : List PB) (k : Nat) : (zed l k).length = l.length := by simp [zed]; omega
theorem zed_at (l : List PB) (k : Nat) (h : k < l.length) : (zed l k)[k]'(by rw [zed_len]; exact h) = l[k] := by
  have : (zed l k)[k]? = some l[k] := by
    unfold zed
    rw [List.getElem?_append_right (by simp; omega)]
    simp; rw [Nat.min_eq_left (by omega)]; simp [h]
  exact (List.getElem?_eq_some_iff.1 this).2
theorem zed_set (l : List PB) (k : Nat) (h : k < l.length) : (zed l k).set k (zp l[k]) = zed l (k + 1) := by
  have e : l.drop k = l[k] :: l.drop (k + 1) := List.drop_eq_getElem_cons h
  unfold zed
  rw [e, takeP l k h, List.map_append, List.set_append_right _ _ (by rw [List.length_map, List.length_take]; exact Nat.min_le_left _ _)]
  simp only [List.length_map, List.length_take]
  rw [Nat.min_eq_left (by omega), Nat.sub_self]
  simp only [List.set_cons_zero, List.map_cons, List.map_nil, List.append_assoc, List.cons_append, List.nil_append]
theorem cl_set1 (l : List PB) (i : Nat) (h : i < l.length) (v : ByteArray) : (cl l).set (i * 2 + 1) (.string v) = cl (l.set i (l[i].1, v)) := by
  induction l generalizing i with
  | nil => simp at h
  | cons q r ih =>
    cases i with
    | zero => rfl
    | succ i =>
      have := ih i (by simpa using h)
      rw [show (i + 1) * 2 + 1 = i * 2 + 1 + 1 + 1 by omega]
      show Value.string q.1 :: Value.string q.2 :: ((cl r).set (i * 2 + 1) (.string v)) = _
      rw [this]; rfl
theorem row_set1 {w : World} {g : Nat} {l : List PB} (h : Row w g l) (i : Nat) (hi : i < l.length) (v : ByteArray) : Row (w.setCell ⟨g, i * 2 + 1, none⟩ (.string v)) g (l.set i (l[i].1, v)) := by
  refine ⟨by rw [List.length_set]; exact there_set h.1 _ _, ?_⟩
  have h1 := range_set h.2 (i * 2 + 1) (by rw [cl_len]; omega) (.string v)
  rw [Nat.zero_add, cl_set1 l i hi v] at h1
  exact h1
/-- fields whose texts are small -/
def Fs1 (fs : List PB) : Prop := fs.length ≤ 1048576 ∧ ∀ p ∈ fs, p.1.size ≤ 1048576 ∧ p.2.size ≤ 1048576
theorem Fs1.fz {fs : List PB} (h : Fs1 fs) : Fz fs := ⟨by have := h.1; omega, fun p hp => ⟨by have := (h.2 p hp).1; unfold big; omega, by have := (h.2 p hp).2; unfold big; omega⟩⟩
theorem Fs1.fzz {fs : List PB} (h : Fs1 fs) : Fz (fs.map zp) := by
  refine ⟨by rw [List.length_map]; have := h.1; omega, fun p hp => ?_⟩
  obtain ⟨q, hq, rfl⟩ := List.mem_map.1 hp
  obtain ⟨a, b⟩ := h.2 q hq
  refine ⟨by unfold big; show q.1.size ≤ _; omega, ?_⟩
  show (q.2 ++ ⟨#[122]⟩).size ≤ big
  rw [ByteArray.size_append]
  show q.2.size + 1 ≤ big
  unfold big; omega
theorem answ_code (m t b : ByteArray) (fs : List PB) : (answ m t b fs).2 = 0 ∨ (answ m t b fs).2 = 2 ∨ (answ m t b fs).2 = 4 ∨ (answ m t b fs).2 = 12 := by
  unfold answ gtn.ans
  split
  · unfold gtn.fin
    split
    · exact Or.inr (Or.inr (Or.inl rfl))
    · split
      · exact Or.inr (Or.inr (Or.inr rfl))
      · split
        · exact Or.inl rfl
        · exact Or.inr (Or.inl rfl)
  · exact Or.inr (Or.inl rfl)
theorem num_any (e : Nat → Addr) (k : Nat) (hk : k = 0 ∨ k = 2 ∨ k = 4 ∨ k = 12) (w : World) (h : Errs w e) : Calls Tryz.prog 7 #[errV e k] w fun x w' => x = .returned (.int .i64 (k : Int)) ∧ w' = w := by
  rcases hk with rfl | rfl | rfl | rfl
  · exact errw.num_nil w
  · exact errw.num_1 w e h
  · exact errw.num_3 w e h
  · exact errw.num_11 w e h
theorem lies_nil {w : World} {oa : Option Addr} {cap : Nat} : Lies w (.slice oa 0 cap) [] := ⟨oa, cap, rfl, fun _ hi => absurd hi (Nat.not_lt_zero _)⟩

set_option maxRecDepth 100000 in
set_option maxHeartbeats 4000000 in
theorem lawFinds (m t : ByteArray) (n : Int) (v : Value) (b : ByteArray) (c : Bool) (fs : List PB) (w : World) (hl : Lies w v fs) (hz : Fs1 fs) (e : Nat → Addr) (hE : Bv w e) (ht : t.size ≤ 1048576) (hb : b.size ≤ 1048576) :
    Calls Tryz.prog 3 #[rv m t n v b c] w fun x w' => x = .returned (.bool true) ∧ Below w.heap.size w w' := by
  have htr : t.size ≤ reachBytes := Nat.le_trans ht (by unfold reachBytes; omega)
  have hbr : b.size ≤ reachBytes := Nat.le_trans hb (by unfold reachBytes; omega)
  have hfl : fs.length * 32 ≤ 140737488355328 := by have := hz.1; omega
  have hf1 : fs.length ≤ 4611686018427387904 := by omega
  have hfz := hz.fz
  have hfzz := hz.fzz
  have B0 : Below w.heap.size w (w.alloc (rq m t n v b c)) := (Below.refl _ _).alloc (Nat.le_refl _) _
  have o0 := heap_new w (rq m t n v b c)
  have HB0 := hide B0
  have HO0 := hide o0
  have HR0 := hide (rqr o0)
  have HEV := hide (fun W (hW : Below w.heap.size w W) => hE.fr hW)
  have HFP := hide (fun (u : Value) (gs : List PB) W (hW : Below w.heap.size w W) (hu : Lies W u gs) (hg : Fz gs) => find_any m t n u b c gs W hu hg e (hE.fr hW) htr hbr)
  have HFD := hide (fun (u : Value) (gs : List PB) W (hu : Lies W u gs) (hg : Fz gs) => refFind_any m t n u b c gs W hu hg ht hb)
  have HRQ := hide (fun (u : Value) (gs : List PB) W (hu : Lies W u gs) (hg : gs.length * 32 ≤ 140737488355328) => request_any m t n u b c gs W hu hg)
  have HQ1 := hide (request_any m t n v b c fs (w.alloc (rq m t n v b c)) (hl.below B0) hfl)
  have HCD := hide (fun gs => answ_code m t b gs)
  have HL0 := hide (hl.below B0)
  clear B0 o0 hl hE ht hb htr hbr
  go_enter Tryz.func3, Tryz.ntmps3
  go_wp2_with (refine wpList_load_mid rfl 24 (.tmp 1) rfl w.heap.size 0 rfl _ _ HR0.out Tryz.underlying24 rfl sizeR ?_)
  refine HQ1.out.mono ?_
  rintro x w1 ⟨v1, rfl, own1, b1⟩
  have HB1 : Hid (Below w.heap.size w (w1.alloc (rq m t n v1 b c))) := (keepW HB0.out b1 HB0.out.size).alloc (Nat.le_trans HB0.out.size b1.size) _
  have HX1 : Hid (Below w1.heap.size w1 (w1.alloc (rq m t n v1 b c))) := (Below.refl _ _).alloc (Nat.le_refl _) _
  have HO1 := hide (heap_new w1 (rq m t n v1 b c))
  have HOQ := hide (blkR (blkR HO0.out b1) HX1.out)
  have HL1 := hide ((lies_of_own own1).below HX1.out)
  have HLV := hide ((HL0.out.below b1).below HX1.out)
  have HR1 := hide (rqr HOQ.out)
  have HQ2 := hide (HRQ.out v fs _ HLV.out hfl)
  obtain ⟨o1a, c1a, rfl⟩ : ∃ oa cap, v1 = .slice oa fs.length cap := by
    obtain ⟨oa, cap, hv, _⟩ := lies_of_own own1
    exact ⟨oa, cap, hv⟩
  clear own1 b1 HB0 HO0 HR0 HQ1 HL0
  go_wp2_with (refine wpList_load_mid rfl 24 (.tmp 1) rfl w.heap.size 0 rfl _ _ HR1.out Tryz.underlying24 rfl sizeR ?_)
  refine HQ2.out.mono ?_
  rintro x w2 ⟨v2, rfl, own2, b2⟩
  have HB2 : Hid (Below w.heap.size w (w2.alloc (rq m t n v2 b c))) := (keepW HB1.out b2 HB1.out.size).alloc (Nat.le_trans HB1.out.size b2.size) _
  have HX2 : Hid (Below w2.heap.size w2 (w2.alloc (rq m t n v2 b c))) := (Below.refl _ _).alloc (Nat.le_refl _) _
  have HO2 := hide (heap_new w2 (rq m t n v2 b c))
  have HP1 := hide (blkR (blkR HO1.out b2) HX2.out)
  have HM1 := hide ((HL1.out.below b2).below HX2.out)
  have HM2 := hide ((lies_of_own own2).below HX2.out)
  have HRW := hide (own_below own2 HX2.out)
  have hp12 : Hid (w1.heap.size < w2.heap.size) := by have h := b2.size; rw [World.size_alloc] at h; show _ < _; omega
  have HG2 : Hid (∀ g, v2.ownBlock = some g → w.heap.size ≤ g ∧ g ≠ w2.heap.size) := fun g hg => by
    have h1 := own_ge own2 g hg
    have h2 := HB1.out.size
    refine ⟨by omega, ?_⟩
    rcases row_of_own own2 with ⟨h3, _⟩ | ⟨g2, cap, h3, _, h4, _⟩
    · rw [h3] at hg; cases hg
    · rw [h3] at hg; cases hg; show g2 ≠ w2.heap.size; omega
  obtain ⟨o2a, c2a, rfl⟩ : ∃ oa cap, v2 = .slice oa fs.length cap := by
    obtain ⟨oa, cap, hv, _⟩ := lies_of_own own2
    exact ⟨oa, cap, hv⟩
  have HR2 := hide (rqr HO2.out)
  have HF2 := hide (HFP.out _ fs _ HB2.out HM2.out hfz)
  clear own2 b2 HB1 HX1 HO1 HOQ HL1 HLV HR1 HQ2
  go_wp2_with (refine wpList_load_mid rfl 24 (.tmp 4) rfl w2.heap.size 0 rfl _ _ HR2.out Tryz.underlying24 rfl sizeR ?_)
  refine HF2.out.mono ?_
  rintro x w3 ⟨rfl, b3⟩
  have HB3 := hide (keepW HB2.out b3 HB2.out.size)
  have HP3 := hide (blkR HP1.out b3)
  have HO3 := hide (blkR HO2.out b3)
  have HN1 := hide (HM1.out.below b3)
  have HN2 := hide (HM2.out.below b3)
  have HW3 := hide (own_below HRW.out b3)
  have HR3 := hide (rqr HP3.out)
  have HD3 := hide (HFD.out _ fs _ HN1.out hfz)
  clear b3 HB2 HX2 HO2 HP1 HM1 HM2 HRW HR2 HF2
  go_wp2_with (refine wpList_load_mid rfl 24 (.tmp 3) rfl w1.heap.size 0 rfl _ _ HR3.out Tryz.underlying24 rfl sizeR ?_)
  refine HD3.out.mono ?_
  rintro x w4 ⟨rfl, b4⟩
  have HB4 := hide (keepW HB3.out b4 HB3.out.size)
  have HP4 := hide (blkR HP3.out b4)
  have HO4 := hide (blkR HO3.out b4)
  have HK1 := hide (HN1.out.below b4)
  have HK2 := hide (HN2.out.below b4)
  have HW4 := hide (own_below HW3.out b4)
  have HNU := hide (num_any e (answ m t b fs).2 (HCD.out fs) w4 (HEV.out _ HB4.out).er)
  have HSR := hide (sameReq_any m t n _ _ b c fs w4 HK2.out HK1.out hf1)
  obtain ⟨a0, a1, a2, a3, a4, a5⟩ := rqc6 HP4.out
  obtain ⟨d0, d1, d2, d3, d4, d5⟩ := rqc6 HO4.out
  clear b4 HB3 HP3 HO3 HN1 HN2 HW3 HR3 HD3
  generalize (answ m t b fs).1 = A1 at *
  generalize (answ m t b fs).2 = A2 at *
  go_wp2_with (first
    | (go_at_call 7; refine HNU.out.mono ?_; rintro x w5 ⟨rfl, e5⟩; subst e5)
    | (go_at_call 8; refine HSR.out.mono ?_; rintro x w6 ⟨rfl, b6⟩))
  have HB6 := hide (keepW HB4.out b6 HB4.out.size)
  have HO6 := hide (blkR HO4.out b6)
  have HW6 := hide (own_below HW4.out b6)
  have HNI : Hid (fs = [] ∨ ∃ g, o2a = some ⟨g, 0, none⟩ ∧ w.heap.size ≤ g ∧ g ≠ w2.heap.size ∧ g < w6.heap.size) := by
    rcases row_of_own HW6.out with ⟨_, h⟩ | ⟨g, cap, h, _, h4, _⟩
    · exact Or.inl h
    · have h1 : o2a = some ⟨g, 0, none⟩ := by injection h
      obtain ⟨h2, h3⟩ := HG2.out g (by rw [h1]; rfl)
      exact Or.inr ⟨g, h1, h2, h3, h4⟩
  have HRO : Hid (∀ g, o2a = some ⟨g, 0, none⟩ → Row w6 g fs ∧ g < w6.heap.size) := fun g hg => by
    rcases row_of_own HW6.out with ⟨h, hf⟩ | ⟨g2, cap, h, _, h4, h5, _⟩
    · have h1 : o2a = none := by injection h
      rw [h1] at hg; cases hg
    · have h1 : o2a = some ⟨g2, 0, none⟩ := by injection h
      rw [h1] at hg; cases hg; exact ⟨h5, h4⟩
  clear b6 HB4 HP4 HO4 HK1 HK2 HW4 HNU HSR a0 a1 a2 a3 a4 a5 d0 d1 d2 d4 d5 d3 HW6 HG2
  obtain ⟨_, _, _, d3, _, _⟩ := rqc6 HO6.out
  generalize w2.heap.size = P at *
  go_wp2_with fail
  clear d3
  go_loopw [9] (fun i wr => ∃ k : Nat, k ≤ fs.length ∧ i = .int .i64 k ∧ wr.heap[P]? = some (rq m t n (.slice o2a fs.length c2a) b c) ∧ Below w.heap.size w wr ∧ (∀ g, o2a = some ⟨g, 0, none⟩ → Row wr g (zed fs k) ∧ g < wr.heap.size)) (fun i _ => fs.length - (intOf i).toNat)
  case atStart =>
    exact ⟨0, Nat.zero_le _, rfl, HO6.out, HB6.out, fun g hg => ⟨by rw [zed_zero]; exact (HRO.out g hg).1, (HRO.out g hg).2⟩⟩
  case round =>
    obtain ⟨k, hk, rfl, ho, hb, hro⟩ := hrel
    obtain ⟨_, _, _, d3, _, _⟩ := rqc6 ho
    have HOK := hide ho
    have HBK := hide hb
    have HROK := hide hro
    clear ho hb hro
    have k0 : (0 : Int) ≤ (k : Int) := Int.natCast_nonneg _
    by_cases hlt : k < fs.length
    · have hki : (k : Int) < (fs.length : Int) := by omega
      obtain ⟨g, hg, hg1, hg2, _⟩ := HNI.out.resolve_left (fun h => by rw [h] at hlt; exact Nat.not_lt_zero _ hlt)
      obtain ⟨hrow, hgl⟩ := HROK.out g hg
      subst hg
      have hkz : k < (zed fs k).length := by rw [zed_len]; exact hlt
      have e0 : wr.cell? ⟨g, k * 2 + 1, none⟩ = some (.string (fs[k]'hlt).2) := by
        have := hrow.2 _ _ (cl_get1 _ k hkz)
        rw [Nat.zero_add] at this
        rw [this, zed_at fs k hlt]
      have f1 : wr.frozen? ⟨g, k * 2 + 1, none⟩ = false := by simpa using (hrow.1 (k * 2 + 1) (by omega)).2
      have HRW := hide (row_set1 hrow k hkz ((fs[k]'hlt).2 ++ ⟨#[122]⟩))
      have hzs := (hz.2 _ (List.getElem_mem hlt)).2
      rw [show ((zed fs k)[k]'hkz).1 = (fs[k]'hlt).1 by rw [zed_at fs k hlt]] at HRW
      rw [show ((fs[k]'hlt).1, (fs[k]'hlt).2 ++ (⟨#[122]⟩ : ByteArray)) = zp (fs[k]'hlt) from rfl, zed_set fs k hlt] at HRW
      have u1 := sum_is (fs[k]'hlt).2 ⟨#[122]⟩ _ rfl (by show _ + 1 ≤ _; omega)
      have HOS : Hid (∀ u, (wr.setCell ⟨g, k * 2 + 1, none⟩ u).heap[P]? = some (rq m t n (.slice (some ⟨g, 0, none⟩) fs.length c2a) b c)) := fun u => else_set HOK.out (Ne.symm hg2)
      have HBS : Hid (∀ u, Below w.heap.size w (wr.setCell ⟨g, k * 2 + 1, none⟩ u)) := fun u => HBK.out.setCell hg1 u
      have HGS : Hid (∀ u, g < (wr.setCell ⟨g, k * 2 + 1, none⟩ u).heap.size) := fun u => by simpa [World.setCell] using hgl
      generalize (fs[k]'hlt).2 ++ (⟨#[122]⟩ : ByteArray) = Z at *
      clear hrow hgl HOK HBK HROK hg1 hg2
      go_wp2_with fail
      go_region
      all_goals
        go_wp2_with fail
        go_roundw
        case rel => exact ⟨k + 1, by omega, by go_num, HOS.out _, (HBS.out _).drew, fun g2 hg => by cases hg; exact ⟨HRW.out.drew, HGS.out _⟩⟩
        case measure => simp [intOf]; omega
    · obtain rfl : k = fs.length := by omega
      have HLZ : Hid (Lies wr (.slice o2a fs.length c2a) (fs.map zp)) := by
        rcases HNI.out with h | ⟨g, h1, _, _, _⟩
        · subst h; exact lies_nil
        · obtain ⟨hrow, hgl⟩ := HROK.out g h1
          rw [zed_all] at hrow
          have := hrow.lies hgl fs.length c2a (by rw [List.length_map]; exact Nat.le_refl _)
          rw [List.take_of_length_le (by rw [List.length_map]; exact Nat.le_refl _)] at this
          rw [h1]; exact this
      have HRZ := hide (rqr HOK.out)
      have HFZ := hide (HFP.out _ (fs.map zp) _ HBK.out HLZ.out hfzz)
      clear HROK HNI HRO HO6 HB6
      go_wp2_with (refine wpList_load_mid rfl 24 (.tmp 4) rfl P 0 rfl _ _ HRZ.out Tryz.underlying24 rfl sizeR ?_)
      refine HFZ.out.mono ?_
      rintro x w7 ⟨rfl, b7⟩
      have HB7 := hide (keepW HBK.out b7 HBK.out.size)
      have HO7 := hide (blkR HOK.out b7)
      have HL7 := hide (HLZ.out.below b7)
      have HRZ7 := hide (rqr HO7.out)
      have HQ7 := hide (HRQ.out _ (fs.map zp) _ HL7.out (by rw [List.length_map]; exact hfl))
      clear d3 b7 HOK HBK HLZ HRZ HFZ
      go_wp2_with (refine wpList_load_mid rfl 24 (.tmp 4) rfl P 0 rfl _ _ HRZ7.out Tryz.underlying24 rfl sizeR ?_)
      refine HQ7.out.mono ?_
      rintro x w8 ⟨v3, rfl, own3, b8⟩
      have HB8 := hide (keepW HB7.out b8 HB7.out.size)
      have HD8 := hide (HFD.out v3 (fs.map zp) w8 (lies_of_own own3) hfzz)
      obtain ⟨o3a, c3a, rfl⟩ : ∃ oa cap, v3 = .slice oa fs.length cap := by
        obtain ⟨oa, cap, hv, _⟩ := lies_of_own own3
        exact ⟨oa, cap, by rw [hv, List.length_map]⟩
      clear own3 b8 HB7 HO7 HL7 HRZ7 HQ7
      go_wp2_with fail
      refine HD8.out.mono ?_
      rintro x w9 ⟨rfl, b9⟩
      have HB9 := hide (keepW HB8.out b9 HB8.out.size)
      have HN9 := hide (num_any e (answ m t b (fs.map zp)).2 (HCD.out _) w9 (HEV.out _ HB9.out).er)
      clear b9 HB8 HD8
      generalize (answ m t b (fs.map zp)).1 = Y1 at *
      generalize (answ m t b (fs.map zp)).2 = Y2 at *
      go_wp2_with (go_at_call 7; refine HN9.out.mono ?_; rintro x w10 ⟨rfl, e10⟩; subst e10)
      go_ret
      exact ⟨by first | rfl | simp, HB9.out⟩
end Go.Proofs.YtcpflfpgnbihiaaGreatDoor.bf
