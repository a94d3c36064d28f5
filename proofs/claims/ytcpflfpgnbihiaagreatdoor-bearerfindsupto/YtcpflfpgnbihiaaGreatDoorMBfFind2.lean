import Derived.Test.YtcpflfpgnbihiaaGreatDoorMBfFind
namespace Go.Proofs.YtcpflfpgnbihiaaGreatDoor.bf
open Go.ChangeShapes Go.WideShapes Go.ChangeAt Go.RowKit Go.Proofs.YtcpflfpgnbihiaaGreatDoor.common Go.Proofs.YtcpflfpgnbihiaaGreatDoor.bk Go.Proofs.YtcpflfpgnbihiaaGreatDoor.fd
open Go.Proofs.YtcpflfpgnbihiaaGreatDoor.lst (PB Lies cl cl_app cl_len infoP lookOf lies_of_own)
open Go.Proofs.YtcpflfpgnbihiaaGreatDoor.errw (Errs E)
attribute [local go_sem ↓] Go.wp_at_zero Go.wp_at_succ

/-- a code's refusal -/
def errV (e : Nat → Addr) (k : Nat) : Value := if k = 0 then .nilIface else if k = 4 then E e 3 else if k = 12 then E e 11 else E e 1
/-- what is answered -/
def answ (m t b : ByteArray) (fs : List PB) : ByteArray × Nat := gtn.ans (prsO (qryB t).data.toList) (prsO (frmB m b fs).data.toList) (lookOf fs auL)
/-- all that lies in the variables -/
structure Bv (w : World) (e : Nat → Addr) : Prop where
  er : Errs w e
  fo : FoldT w
theorem Bv.fr {w w' : World} {e : Nat → Addr} (h : Bv w e) (hb : Below w.heap.size w w') : Bv w' e := ⟨h.er.below hb, h.fo.fr hb⟩
theorem cTwice {w : World} {e : Nat → Addr} (h : Errs w e) : w.cell? ⟨1, 0, none⟩ = some (E e 3) := h.cell 3 (by decide)
theorem cLost {w : World} {e : Nat → Addr} (h : Errs w e) : w.cell? ⟨2, 0, none⟩ = some (E e 11) := h.cell 11 (by decide)
theorem cText {w : World} {e : Nat → Addr} (h : Errs w e) : w.cell? ⟨0, 0, none⟩ = some (E e 1) := h.cell 1 (by decide)

theorem shw_len (v : List UInt8) : (Bf.shw v).1.length ≤ v.length := by
  unfold Bf.shw
  have h1 := (List.dropWhile_suffix (l := v) Fd.tok).length_le
  have h2 := (List.dropWhile_suffix (l := v.dropWhile Fd.tok) (fun c => c == 32)).length_le
  split
  · simp only
    split
    · omega
    · simp
  · simp
theorem fin_1 {f c : Nat} {t : ByteArray} (h : 1 < f ∨ 1 < c) : gtn.fin f c t = (emp, 4) := by unfold gtn.fin; rw [if_pos h]
theorem fin_2 {f c : Nat} {t : ByteArray} (h : ¬ (1 < f ∨ 1 < c)) (h0 : c = 0) : gtn.fin f c t = (emp, 12) := by unfold gtn.fin; rw [if_neg h, if_pos h0]
theorem fin_3 {f c : Nat} {t : ByteArray} (h : ¬ (1 < f ∨ 1 < c)) (h0 : ¬ c = 0) : gtn.fin f c t = if Bf.isTk t.data.toList then (t, 0) else (emp, 2) := by unfold gtn.fin; rw [if_neg h, if_neg h0]

set_option maxRecDepth 100000 in
set_option maxHeartbeats 6400000 in
theorem find_any (m t : ByteArray) (n : Int) (v : Value) (b : ByteArray) (c : Bool) (fs : List PB) (w : World) (hl : Lies w v fs) (hz : Fz fs) (e : Nat → Addr) (hE : Bv w e) (ht : t.size ≤ reachBytes) (hb : b.size ≤ reachBytes) :
    Calls Tryz.prog 5 #[rv m t n v b c] w fun x w' => x = .returned (.tuple #[.string (answ m t b fs).1, errV e (answ m t b fs).2]) ∧ Below w.heap.size w w' := by
  have BA : Below w.heap.size w (w.alloc (rq m t n v b c)) := (Below.refl _ _).alloc (Nat.le_refl _) _
  have o0 := heap_new w (rq m t n v b c)
  have HB0 := hide BA
  have HO := hide o0
  have HR0 := hide (rqr o0)
  have HPA := hide (parameters_any m t n v b c fs (w.alloc (rq m t n v b c)) (hl.below BA) hz e (hE.fr BA).er ht hb)
  have HLA := hide (fun W (hW : Below w.heap.size w W) => lookPA_any v fs W (hl.below hW) hz)
  have hlz := look_sz hz auL
  have HBS := hide (fun W (hW : Below w.heap.size w W) => bBehind_any (lookOf fs auL).1 W (by unfold big at hlz; omega) (hE.fr hW).fo)
  have HEV := hide (fun W (hW : Below w.heap.size w W) => (hE.fr hW).er)
  obtain ⟨R, hR⟩ : ∃ R, answ m t b fs = R := ⟨_, rfl⟩
  rw [hR]
  unfold answ at hR
  have HRR := hide hR
  have hll : (lookOf fs auL).2 ≤ 4611686018427387904 := Nat.le_trans (lst.lookOf_le fs auL) hz.1
  generalize prsO (qryB t).data.toList = PQ at *
  generalize prsO (frmB m b fs).data.toList = PF at *
  generalize lookOf fs auL = lk at *
  obtain ⟨lv, ln⟩ := lk
  simp only at HLA HBS hll hlz
  have hlz := (show lv.size ≤ 4611686018427387904 by unfold big at hlz; omega)
  clear BA o0 hl hz hE ht hb hR
  go_enter Tryz.func5, Tryz.ntmps5
  go_wp2_with (refine wpList_load_mid rfl 24 (.tmp 1) rfl w.heap.size 0 rfl _ _ HR0.out Tryz.underlying24 rfl sizeR ?_)
  refine HPA.out.mono ?_
  rintro x w1 ⟨b1, h⟩
  have HB1 := hide (keepW HB0.out b1 HB0.out.size)
  have HO1 := hide (blkR HO.out b1)
  clear b1 HPA HB0 HO HR0
  rcases h with ⟨hn, y, rfl⟩ | ⟨p, q, u, hp, hq, rfl, hlu, hlen, hval⟩
  · have HF : Hid (R = (emp, 2)) := by
      show _ = _
      rw [← HRR.out]
      rcases hn with h | h
      · rw [h]; rfl
      · rw [h]; cases PQ <;> rfl
    have c5 := cText (HEV.out _ HB1.out)
    clear hn HRR
    go_wp2_with fail
    go_region
    all_goals
      go_wp2_with fail
      go_ret2
      exact ⟨by rw [HF.out]; rfl, HB1.out.drew⟩
  · have hgl := gtn.getOf_le (p ++ q) gtn.tn
    have hpq : (gtn.getOf (p ++ q) gtn.tn).2 ≤ 1000000 := by omega
    have hul : (p ++ q).length ≤ 4611686018427387904 := by omega
    have hgz : (gtn.getOf (p ++ q) gtn.tn).1.size ≤ 4611686018427387904 := by
      rcases get_in (p ++ q) gtn.tn with h | ⟨z, hz, h⟩
      · rw [h]; exact Nat.zero_le _
      · rw [h]; have := hval z hz; unfold reachBytes at this; omega
    have HG : Hid (Calls Tryz.prog 11 #[u, .string ⟨#[97, 99, 99, 101, 115, 115, 95, 116, 111, 107, 101, 110]⟩] w1 fun x w' => x = .returned (.tuple #[.string (gtn.getOf (p ++ q) gtn.tn).1, .int .i64 ((gtn.getOf (p ++ q) gtn.tn).2 : Int)]) ∧ Below w1.heap.size w1 w') := gtn.get_any u (p ++ q) gtn.tn w1 hlu hul
    have HF : Hid (R = gtn.fin ln (gtn.shT p q (lv, ln)).2 (gtn.shT p q (lv, ln)).1) := by show _ = _; rw [← HRR.out, hp, hq]; rfl
    unfold gtn.shT at HF
    simp only at HF
    obtain ⟨ou, lu, cu, rfl⟩ : ∃ ou lu cu, u = .slice ou lu cu := by
      obtain ⟨ou, cu, hv, _⟩ := hlu
      exact ⟨ou, _, cu, hv⟩
    clear hp hq hlu HRR hul hgl hlen hval
    generalize gtn.getOf (p ++ q) gtn.tn = g at *
    obtain ⟨g1, g2⟩ := g
    simp only at HG HF hpq hgz
    go_wp2_with fail
    refine HG.out.mono ?_
    rintro x w2 ⟨rfl, b2⟩
    have HB2 := hide (keepW HB1.out b2 HB1.out.size)
    obtain ⟨_, _, c3, _⟩ := rqc (blkR HO1.out b2)
    have HL2 := hide (HLA.out w2 HB2.out)
    clear b2 HB1 HO1 HG HLA
    go_wp2_with fail
    refine HL2.out.mono ?_
    rintro x w3 ⟨rfl, b3⟩
    have HB3 := hide (keepW HB2.out b3 HB2.out.size)
    have HS3 := hide (HBS.out w3 HB3.out)
    clear b3 HB2 HL2 HBS c3
    unfold shV at HS3
    have hsz : (Bf.shw lv.data.toList).1.length ≤ 4611686018427387904 := Nat.le_trans (shw_len _) (by rw [len_list]; exact hlz)
    generalize Bf.shw lv.data.toList = sh at *
    obtain ⟨s1, s2⟩ := sh
    simp only at HS3 HF hsz
    obtain ⟨SB, hSB⟩ : ∃ SB : ByteArray, (⟨s1.toArray⟩ : ByteArray) = SB := ⟨_, rfl⟩
    have hSz : SB.size ≤ 4611686018427387904 := by rw [← hSB, str_size]; exact hsz
    rw [show S s1 = Value.string SB from congrArg Value.string hSB] at HS3
    rw [hSB] at HF
    clear hSB hsz
    go_wp2_with fail
    refine HS3.out.mono ?_
    rintro x w4 ⟨rfl, b4⟩
    have HB4 := hide (keepW HB3.out b4 HB3.out.size)
    have HE4 := hide (HEV.out w4 HB4.out)
    have HTK := hide (fun (X : ByteArray) (hX : X.size ≤ 4611686018427387904) => bTok_any X w4 hX)
    clear b4 HB3 HS3 HEV
    cases s2 with
    | true =>
      rw [if_pos rfl] at HF
      simp only at HF
      obtain ⟨C, hC⟩ : ∃ C, C = g2 + 1 := ⟨_, rfl⟩
      have hw : wrap64 ((g2 : Int) + 1) = (C : Int) := by unfold wrap64; omega
      have hw2 : IntKind.i64.wrap ((g2 : Int) + 1) = (C : Int) := by rw [wrap_le _ (by omega) (by omega)]; omega
      rw [← hC] at HF
      clear hC
      obtain ⟨c1, c2⟩ : w4.cell? ⟨1, 0, none⟩ = some (E e 3) ∧ w4.cell? ⟨2, 0, none⟩ = some (E e 11) := ⟨cTwice HE4.out, cLost HE4.out⟩
      have c5 := cText HE4.out
      by_cases h1 : 1 < ln
      · have h1i : (1 : Int) < (ln : Int) := by omega
        have h1d : decide ((1 : Int) < (ln : Int)) = true := decide_eq_true h1i
        have HR := hide (HF.out.trans (fin_1 (Or.inl h1)))
        clear h1 HF HTK
        go_wp2_with fail
        go_region
        all_goals
          go_wp2_with fail
          go_ret2
          exact ⟨by rw [HR.out]; rfl, HB4.out.drew⟩
      · have h1i : ¬ (1 : Int) < (ln : Int) := by omega
        have h1d : decide ((1 : Int) < (ln : Int)) = false := decide_eq_false h1i
        by_cases h2 : 1 < C
        · have h2i : (1 : Int) < (C : Int) := by omega
          have h2d : decide ((1 : Int) < (C : Int)) = true := decide_eq_true h2i
          have HR := hide (HF.out.trans (fin_1 (Or.inr h2)))
          clear h1 h2 HF HTK
          go_wp2_with fail
          go_region
          all_goals
            go_wp2_with fail
            go_ret2
            exact ⟨by rw [HR.out]; rfl, HB4.out.drew⟩
        · have h2i : ¬ (1 : Int) < (C : Int) := by omega
          have h2d : decide ((1 : Int) < (C : Int)) = false := decide_eq_false h2i
          have hno : ¬ (1 < ln ∨ 1 < C) := fun h => h.elim h1 h2
          by_cases h0 : C = 0
          · have h0i : (C : Int) = 0 := by omega
            have HR := hide (HF.out.trans (fin_2 hno h0))
            clear h1 h2 hno HF HTK h0
            go_wp2_with fail
            go_region
            all_goals
              go_wp2_with fail
              go_ret2
              exact ⟨by rw [HR.out]; rfl, HB4.out.drew⟩
          · have h0i : ¬ (C : Int) = 0 := by omega
            have HR := hide (HF.out.trans (fin_3 hno h0))
            have HT := hide (HTK.out SB hSz)
            clear h1 h2 hno HF HTK h0
            generalize Bf.isTk SB.data.toList = tk at *
            cases tk with
            | true =>
              go_wp2_with (go_at_call 14; refine HT.out.mono ?_; rintro x w5 ⟨rfl, rfl⟩)
              go_ret2
              exact ⟨by rw [HR.out]; rfl, HB4.out⟩
            | false =>
              go_wp2_with (go_at_call 14; refine HT.out.mono ?_; rintro x w5 ⟨rfl, rfl⟩)
              go_region
              all_goals
                go_wp2_with fail
                go_ret2
                exact ⟨by rw [HR.out]; rfl, HB4.out.drew⟩
    | false =>
      rw [if_neg (by decide)] at HF
      obtain ⟨C, hC⟩ : ∃ C, C = g2 := ⟨_, rfl⟩
      subst hC
      obtain ⟨c1, c2⟩ : w4.cell? ⟨1, 0, none⟩ = some (E e 3) ∧ w4.cell? ⟨2, 0, none⟩ = some (E e 11) := ⟨cTwice HE4.out, cLost HE4.out⟩
      have c5 := cText HE4.out
      by_cases h1 : 1 < ln
      · have h1i : (1 : Int) < (ln : Int) := by omega
        have h1d : decide ((1 : Int) < (ln : Int)) = true := decide_eq_true h1i
        have HR := hide (HF.out.trans (fin_1 (Or.inl h1)))
        clear h1 HF HTK
        go_wp2_with fail
        go_region
        all_goals
          go_wp2_with fail
          go_ret2
          exact ⟨by rw [HR.out]; rfl, HB4.out.drew⟩
      · have h1i : ¬ (1 : Int) < (ln : Int) := by omega
        have h1d : decide ((1 : Int) < (ln : Int)) = false := decide_eq_false h1i
        by_cases h2 : 1 < C
        · have h2i : (1 : Int) < (C : Int) := by omega
          have h2d : decide ((1 : Int) < (C : Int)) = true := decide_eq_true h2i
          have HR := hide (HF.out.trans (fin_1 (Or.inr h2)))
          clear h1 h2 HF HTK
          go_wp2_with fail
          go_region
          all_goals
            go_wp2_with fail
            go_ret2
            exact ⟨by rw [HR.out]; rfl, HB4.out.drew⟩
        · have h2i : ¬ (1 : Int) < (C : Int) := by omega
          have h2d : decide ((1 : Int) < (C : Int)) = false := decide_eq_false h2i
          have hno : ¬ (1 < ln ∨ 1 < C) := fun h => h.elim h1 h2
          by_cases h0 : C = 0
          · have h0i : (C : Int) = 0 := by omega
            have HR := hide (HF.out.trans (fin_2 hno h0))
            clear h1 h2 hno HF HTK h0
            go_wp2_with fail
            go_region
            all_goals
              go_wp2_with fail
              go_ret2
              exact ⟨by rw [HR.out]; rfl, HB4.out.drew⟩
          · have h0i : ¬ (C : Int) = 0 := by omega
            have HR := hide (HF.out.trans (fin_3 hno h0))
            have HT := hide (HTK.out g1 hgz)
            clear h1 h2 hno HF HTK h0
            generalize Bf.isTk g1.data.toList = tk at *
            cases tk with
            | true =>
              go_wp2_with (go_at_call 14; refine HT.out.mono ?_; rintro x w5 ⟨rfl, rfl⟩)
              go_ret2
              exact ⟨by rw [HR.out]; rfl, HB4.out⟩
            | false =>
              go_wp2_with (go_at_call 14; refine HT.out.mono ?_; rintro x w5 ⟨rfl, rfl⟩)
              go_region
              all_goals
                go_wp2_with fail
                go_ret2
                exact ⟨by rw [HR.out]; rfl, HB4.out.drew⟩
end Go.Proofs.YtcpflfpgnbihiaaGreatDoor.bf
