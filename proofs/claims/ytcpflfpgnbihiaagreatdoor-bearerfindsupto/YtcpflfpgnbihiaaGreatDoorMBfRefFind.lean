import Derived.Test.YtcpflfpgnbihiaaGreatDoorMBfFind2
namespace Go.Proofs.YtcpflfpgnbihiaaGreatDoor.bf
open Go.ChangeShapes Go.WideShapes Go.ChangeAt Go.RowKit Go.Proofs.YtcpflfpgnbihiaaGreatDoor.common Go.Proofs.YtcpflfpgnbihiaaGreatDoor.bk Go.Proofs.YtcpflfpgnbihiaaGreatDoor.fd
open Go.Proofs.YtcpflfpgnbihiaaGreatDoor.lst (PB Lies cl cl_app cl_len infoP lookOf lies_of_own)
attribute [local go_sem ↓] Go.wp_at_zero Go.wp_at_succ

theorem sum_is (a b c : ByteArray) (h : a ++ b = c) (hs : a.size + b.size ≤ 9223372036854775807) : ∀ X : World, (Op.stringOp .add a b).run Tryz.prog X = .ok (.string c) X := fun X => h ▸ run_string_add_sum X _ _ hs
theorem cat_is (a b : ByteArray) : a ++ b = gtn.cat a b := by
  apply ba_ext; simp [gtn.cat]
theorem cat_size (a b : ByteArray) : (gtn.cat a b).size = a.size + b.size := by rw [← cat_is, ByteArray.size_append]
theorem emp_cat (b : ByteArray) : (⟨#[]⟩ : ByteArray) ++ b = b := by rw [cat_is]; exact gtn.nil_cat b
theorem txV_none {s : List UInt8} (h : prsO s = none) : txV s = .tuple #[.string ⟨#[]⟩, .int .i64 0, .int .i64 2] := by unfold txV; rw [h]
theorem txV_some {s : List UInt8} {q : List PB} (h : prsO s = some q) : txV s = .tuple #[.string (gtn.getOf q gtn.tn).1, .int .i64 ((gtn.getOf q gtn.tn).2 : Int), .int .i64 0] := by unfold txV; rw [h]
theorem prs_nil : prsO (emp).data.toList = some [] := by
  show prsO [] = some []
  rfl
theorem get_val {s : List UInt8} {q : List PB} (h : prsO s = some q) (hs : s.length ≤ 1048576) : (gtn.getOf q gtn.tn).1.size ≤ 1048576 ∧ (gtn.getOf q gtn.tn).2 ≤ 32 := by
  refine ⟨?_, Nat.le_trans (gtn.getOf_le q gtn.tn) (prsO_len h)⟩
  rcases get_in q gtn.tn with e | ⟨z, hz, e⟩
  · rw [e]; exact Nat.zero_le _
  · rw [e]; exact Nat.le_trans (prsO_val h z hz) hs
theorem wN (n : Nat) (h : n ≤ 1000000) : wrap64 (n : Int) = (n : Int) ∧ IntKind.i64.wrap (n : Int) = (n : Int) := ⟨by unfold wrap64; omega, by rw [wrap_le _ (by omega) (by omega)]⟩
theorem wNM (n m : Nat) (h : n ≤ 1000000) (h2 : m ≤ 1000000) : wrap64 ((n : Int) + (m : Int)) = ((n + m : Nat) : Int) ∧ IntKind.i64.wrap ((n : Int) + (m : Int)) = ((n + m : Nat) : Int) := ⟨by unfold wrap64; omega, by rw [wrap_le _ (by omega) (by omega)]; omega⟩
theorem wN1 (n : Nat) (h : n ≤ 1000000) : wrap64 ((n : Int) + 1) = ((n + 1 : Nat) : Int) ∧ IntKind.i64.wrap ((n : Int) + 1) = ((n + 1 : Nat) : Int) := ⟨by unfold wrap64; omega, by rw [wrap_le _ (by omega) (by omega)]; omega⟩

set_option maxRecDepth 100000 in
set_option maxHeartbeats 12800000 in
theorem refFind_any (m t : ByteArray) (n : Int) (v : Value) (b : ByteArray) (c : Bool) (fs : List PB) (w : World) (hl : Lies w v fs) (hz : Fz fs) (ht : t.size ≤ 1048576) (hb : b.size ≤ 1048576) :
    Calls Tryz.prog 6 #[rv m t n v b c] w fun x w' => x = .returned (.tuple #[.string (answ m t b fs).1, .int .i64 ((answ m t b fs).2 : Int)]) ∧ Below w.heap.size w w' := by
  have ht9 : t.size ≤ 4611686018427387904 := by omega
  have BA : Below w.heap.size w (w.alloc (rq m t n v b c)) := (Below.refl _ _).alloc (Nat.le_refl _) _
  have o0 := heap_new w (rq m t n v b c)
  have HB0 := hide BA
  have HO := hide o0
  have HR0 := hide (rqr o0)
  have HFO := hide (form_any m t n v b c fs (w.alloc (rq m t n v b c)) (hl.below BA) hz)
  have HSP : Hid (∀ W, Calls Tryz.prog 17 #[.string t] W fun x w' => x = .returned (.tuple #[S (before 63 t.data.toList), .string (qryB t), .bool (t.data.toList.contains 63)]) ∧ Below W.heap.size W w') := fun W => tm.refSplit_any t W ht9
  have HNQ : Hid (t.data.toList.contains 63 = false → qryB t = emp) := fun h => by
    unfold qryB; rw [(tm.ba_whole t h).2]
  have HTB := hide (fun W => byText_any b W hb)
  have HTQ := hide (fun W => byText_any (qryB t) W (Nat.le_trans (qry_size t) ht))
  have HLA := hide (fun W (hW : Below w.heap.size w W) => lookDA_any v fs W (hl.below hW) hz)
  have hlz := look_sz hz auL
  have HBS := hide (fun W => byField_any (lookOf fs auL).1 W hlz)
  have h0 := (look_in fs auL).2
  have HRR : Hid (answ m t b fs = gtn.ans (prsO (qryB t).data.toList) (prsO (frmB m b fs).data.toList) (lookOf fs auL)) := rfl
  have HFB : Hid (frmB m b fs = if formB m (lookOf fs ctL) then b else emp) := rfl
  have hqz : (qryB t).data.toList.length ≤ 1048576 := by rw [len_list]; exact Nat.le_trans (qry_size t) ht
  have hbz : b.data.toList.length ≤ 1048576 := by rw [len_list]; exact hb
  have hll : (lookOf fs auL).2 ≤ 4611686018427387904 := Nat.le_trans (lst.lookOf_le fs auL) hz.1
  have HVZ : Hid ((Bf.shw (lookOf fs auL).1.data.toList).1.length ≤ 140737488355328) := Nat.le_trans (shw_len _) (by rw [len_list]; exact hlz)
  have HSAME := hide (fun pq pf => gtn.fin_same pq pf (lookOf fs auL) h0)
  generalize answ m t b fs = R at *
  generalize frmB m b fs = FB at *
  generalize formB m (lookOf fs ctL) = has at *
  generalize before 63 t.data.toList = bfr at *
  generalize t.data.toList.contains 63 = asks at *
  generalize qryB t = QB at *
  unfold shV at HBS
  generalize lookOf fs auL = lk at *
  obtain ⟨lv, ln⟩ := lk
  simp only at HLA HBS hll HVZ
  have HGB : Hid (∀ q, prsO b.data.toList = some q → (gtn.getOf q gtn.tn).1.size ≤ 1048576 ∧ (gtn.getOf q gtn.tn).2 ≤ 32) := fun q h => get_val h hbz
  have HGQ : Hid (∀ q, prsO QB.data.toList = some q → (gtn.getOf q gtn.tn).1.size ≤ 1048576 ∧ (gtn.getOf q gtn.tn).2 ≤ 32) := fun q h => get_val h hqz
  clear o0 hl hz ht hb ht9 BA hlz h0 hqz hbz
  have HFIN : Hid (∀ pq pf, prsO QB.data.toList = some pq → prsO FB.data.toList = some pf → R = gtn.fin ln (gtn.shD pq pf (lv, ln)).2 (gtn.shD pq pf (lv, ln)).1) := fun pq pf h1 h2 => by
    rw [HRR.out, h1, h2]
    exact HSAME.out pq pf
  have HBAD : Hid (prsO QB.data.toList = none ∨ prsO FB.data.toList = none → R = (emp, 2)) := fun h => by
    rw [HRR.out]
    rcases h with h | h
    · rw [h]; rfl
    · rw [h]; cases prsO QB.data.toList <;> rfl
  clear HRR HSAME
  unfold gtn.shD at HFIN
  simp only at HFIN
  generalize hsh : Bf.shw lv.data.toList = sh at *
  obtain ⟨s1, s2⟩ := sh
  simp only at HBS HFIN HVZ
  obtain ⟨SB, hSB⟩ : ∃ SB : ByteArray, (⟨s1.toArray⟩ : ByteArray) = SB := ⟨_, rfl⟩
  have hSz : SB.size ≤ 140737488355328 := by rw [← hSB, str_size]; exact HVZ.out
  rw [show S s1 = Value.string SB from congrArg Value.string hSB] at HBS
  rw [hSB] at HFIN
  clear hSB HVZ hsh
  go_enter Tryz.func6, Tryz.ntmps6
  go_wp2_with (refine wpList_load_mid rfl 24 (.tmp 1) rfl w.heap.size 0 rfl _ _ HR0.out Tryz.underlying24 rfl sizeR ?_)
  refine HFO.out.mono ?_
  rintro x w1 ⟨rfl, b1⟩
  have HB1 := hide (keepW HB0.out b1 HB0.out.size)
  have HO1 := hide (blkR HO.out b1)
  obtain ⟨_, c1, c3, c4⟩ := rqc HO1.out
  clear b1 HB0 HO HR0 HFO
  cases has with
  | true =>
    have hFB : FB = b := by rw [HFB.out]; rfl
    subst hFB
    have HT := hide (HTB.out w1)
    cases hpf : prsO FB.data.toList with
    | none =>
      rw [txV_none hpf] at HT
      have HR := hide (HBAD.out (Or.inr hpf))
      clear hpf
      go_wp2_with fail
      refine HT.out.mono ?_
      rintro x w2 ⟨rfl, b2⟩
      have HB2 := hide (keepW HB1.out b2 HB1.out.size)
      clear c1 c3 c4 b2 HB1 HO1 HTB HFB HT
      go_wp2_with fail
      go_ret2
      exact ⟨by rw [HR.out]; rfl, HB2.out⟩
    | some pf =>
      rw [txV_some hpf] at HT
      obtain ⟨z1, z2⟩ := HGB.out pf hpf
      have HPF := hide (fun pq h => HFIN.out pq pf h hpf)
      have HQN := hide (fun h => HBAD.out (Or.inl h))
      clear hpf HFIN HBAD HGB
      generalize gtn.getOf pf gtn.tn = gf at *
      obtain ⟨t1, k1⟩ := gf
      simp only at z1 z2 HPF HT
      have u1 := sum_is (⟨#[]⟩ : ByteArray) t1 t1 (emp_cat t1) (by show 0 + t1.size ≤ _; omega)
      go_wp2_with fail
      refine HT.out.mono ?_
      rintro x w2 ⟨rfl, b2⟩
      have HB2 := hide (keepW HB1.out b2 HB1.out.size)
      have HO2 := hide (blkR HO1.out b2)
      clear c1 c3 c4 b2 HB1 HO1 HTB HFB HT
      obtain ⟨wk1, wk2⟩ := wN k1 (by omega)
      obtain ⟨c1, c3, _⟩ : w2.cell? ⟨w.heap.size, 1, none⟩ = some (.string t) ∧ w2.cell? ⟨w.heap.size, 3, none⟩ = some v ∧ True := ⟨(rqc HO2.out).2.1, (rqc HO2.out).2.2.1, trivial⟩
      go_wp2_with fail
      refine (HSP.out _).mono ?_
      rintro x w3 ⟨rfl, b3⟩
      have HB3 := hide (keepW HB2.out b3 HB2.out.size)
      have HO3 := hide (blkR HO2.out b3)
      clear c1 c3 b3 HB2 HO2 HSP
      cases asks with
      | true =>
        clear HNQ
        have HT := hide (HTQ.out w3)
        cases hpq : prsO QB.data.toList with
        | none =>
          rw [txV_none hpq] at HT
          have HR := hide (HQN.out hpq)
          clear hpq
          go_wp2_with fail
          refine HT.out.mono ?_
          rintro x w4 ⟨rfl, b4⟩
          have HB4 := hide (keepW HB3.out b4 HB3.out.size)
          clear b4 HB3 HO3 HTQ HT
          go_wp2_with fail
          go_ret2
          exact ⟨by rw [HR.out]; rfl, HB4.out⟩
        | some pq =>
          rw [txV_some hpq] at HT
          obtain ⟨z3, z4⟩ := HGQ.out pq hpq
          have HF := hide (HPF.out pq hpq)
          clear hpq HPF HQN HGQ
          generalize gtn.getOf pq gtn.tn = gq at *
          obtain ⟨t2, k2⟩ := gq
          simp only at z3 z4 HF HT
          go_wp2_with fail
          refine HT.out.mono ?_
          rintro x w4 ⟨rfl, b4⟩
          have HB4 := hide (keepW HB3.out b4 HB3.out.size)
          have HO4 := hide (blkR HO3.out b4)
          clear b4 HB3 HO3 HTQ HT
          obtain ⟨T, hT⟩ : ∃ T, gtn.cat t1 t2 = T := ⟨_, rfl⟩
          have hTs : T.size ≤ 2097152 := by rw [← hT, cat_size]; omega
          have u2 := sum_is t1 t2 T ((cat_is t1 t2).trans hT) (by omega)
          obtain ⟨N, hNe⟩ : ∃ N, N = k1 + k2 := ⟨_, rfl⟩
          have hN : N ≤ 1000000 := by omega
          obtain ⟨wn1, wn2⟩ := wNM k1 k2 (by omega) (by omega)
          rw [← hNe] at HF wn1 wn2
          rw [hT] at HF
          clear hT hNe
          obtain ⟨_, _, c3, _⟩ := rqc HO4.out
          clear HO4
          go_wp2_with fail
          refine (HLA.out _ HB4.out).mono ?_
          rintro x w5 ⟨rfl, b5⟩
          have HB5 := hide (keepW HB4.out b5 HB4.out.size)
          clear b5 HB4 HLA c3
          go_wp2_with fail
          refine (HBS.out _).mono ?_
          rintro x w6 ⟨rfl, b6⟩
          have HB6 := hide (keepW HB5.out b6 HB5.out.size)
          clear b6 HB5 HBS
          have HTK := hide (fun (X : ByteArray) (hX : X.size ≤ 4611686018427387904) => text_any X w6 hX)
          by_cases hon : ln = 1 ∧ s2 = true
          · obtain ⟨hl1, rfl⟩ := hon
            rw [if_pos ⟨hl1, rfl⟩] at HF
            have hgd : (ln : Int) = 1 := by omega
            simp only at HF
            obtain ⟨TT, hTT⟩ : ∃ TT, gtn.cat T SB = TT := ⟨_, rfl⟩
            rw [hTT] at HF
            have hTz : TT.size ≤ 4611686018427387904 := by rw [← hTT, cat_size]; omega
            have u9 := sum_is T SB TT ((cat_is T SB).trans hTT) (by omega)
            obtain ⟨C, hC⟩ : ∃ C, C = N + 1 := ⟨_, rfl⟩
            obtain ⟨wc1, wc2⟩ := wN1 N hN
            rw [← hC] at HF wc1 wc2
            clear hTT hC
            by_cases h1 : 1 < ln
            · first
                | (exfalso; omega)
                | (have h1i : (1 : Int) < (ln : Int) := by omega
                   have h1d : decide ((1 : Int) < (ln : Int)) = true := decide_eq_true h1i
                   have HR := hide (HF.out.trans (fin_1 (Or.inl h1)))
                   clear h1 HF HTK
                   go_wp2_with fail
                   go_ret2
                   exact ⟨by rw [HR.out]; rfl, HB6.out⟩)
            · have h1i : ¬ (1 : Int) < (ln : Int) := by omega
              have h1d : decide ((1 : Int) < (ln : Int)) = false := decide_eq_false h1i
              by_cases h2 : 1 < C
              · have h2i : (1 : Int) < (C : Int) := by omega
                have h2d : decide ((1 : Int) < (C : Int)) = true := decide_eq_true h2i
                have HR := hide (HF.out.trans (fin_1 (Or.inr h2)))
                clear h1 h2 HF HTK
                go_wp2_with fail
                go_ret2
                exact ⟨by rw [HR.out]; rfl, HB6.out⟩
              · have h2i : ¬ (1 : Int) < (C : Int) := by omega
                have h2d : decide ((1 : Int) < (C : Int)) = false := decide_eq_false h2i
                have hno : ¬ (1 < ln ∨ 1 < C) := fun h => h.elim h1 h2
                by_cases h0 : C = 0
                · have h0i : (C : Int) = 0 := by omega
                  have HR := hide (HF.out.trans (fin_2 hno h0))
                  clear h1 h2 hno HF HTK h0
                  go_wp2_with fail
                  go_ret2
                  exact ⟨by rw [HR.out]; rfl, HB6.out⟩
                · have h0i : ¬ (C : Int) = 0 := by omega
                  have HR := hide (HF.out.trans (fin_3 hno h0))
                  have HT := hide (HTK.out TT hTz)
                  clear h1 h2 hno HF HTK h0
                  generalize Bf.isTk TT.data.toList = tk at *
                  cases tk with
                  | true =>
                    go_wp2_with fail
                    refine HT.out.mono ?_
                    rintro x w7 ⟨rfl, e7⟩
                    subst e7
                    go_wp2_with fail
                    go_ret2
                    exact ⟨by rw [HR.out]; rfl, HB6.out⟩
                  | false =>
                    go_wp2_with fail
                    refine HT.out.mono ?_
                    rintro x w7 ⟨rfl, e7⟩
                    subst e7
                    go_wp2_with fail
                    go_ret2
                    exact ⟨by rw [HR.out]; rfl, HB6.out⟩
          · have HF2 : Hid (R = gtn.fin ln N T) := by
              show _ = _
              rw [HF.out, if_neg hon]
            obtain ⟨C, hC⟩ : ∃ C, C = N := ⟨_, rfl⟩
            rw [← hC] at HF2
            have hgd : ((ln : Int) = 1 ∧ s2 = false) ∨ ¬ (ln : Int) = 1 := by
              by_cases h : ln = 1
              · cases s2 with
                | true => exact absurd ⟨h, rfl⟩ hon
                | false => exact Or.inl ⟨by omega, rfl⟩
              · exact Or.inr (by omega)
            clear HF hon
            have HF := HF2
            clear HF2
            rw [← hC]
            clear hC
            rcases hgd with ⟨hgd, rfl⟩ | hgd
            all_goals
              by_cases h1 : 1 < ln
              · first
                  | (exfalso; omega)
                  | (have h1i : (1 : Int) < (ln : Int) := by omega
                     have h1d : decide ((1 : Int) < (ln : Int)) = true := decide_eq_true h1i
                     have HR := hide (HF.out.trans (fin_1 (Or.inl h1)))
                     clear h1 HF HTK
                     go_wp2_with fail
                     go_ret2
                     exact ⟨by rw [HR.out]; rfl, HB6.out⟩)
              · have h1i : ¬ (1 : Int) < (ln : Int) := by omega
                have h1d : decide ((1 : Int) < (ln : Int)) = false := decide_eq_false h1i
                by_cases h2 : 1 < C
                · have h2i : (1 : Int) < (C : Int) := by omega
                  have h2d : decide ((1 : Int) < (C : Int)) = true := decide_eq_true h2i
                  have HR := hide (HF.out.trans (fin_1 (Or.inr h2)))
                  clear h1 h2 HF HTK
                  go_wp2_with fail
                  go_ret2
                  exact ⟨by rw [HR.out]; rfl, HB6.out⟩
                · have h2i : ¬ (1 : Int) < (C : Int) := by omega
                  have h2d : decide ((1 : Int) < (C : Int)) = false := decide_eq_false h2i
                  have hno : ¬ (1 < ln ∨ 1 < C) := fun h => h.elim h1 h2
                  by_cases h0 : C = 0
                  · have h0i : (C : Int) = 0 := by omega
                    have HR := hide (HF.out.trans (fin_2 hno h0))
                    clear h1 h2 hno HF HTK h0
                    go_wp2_with fail
                    go_ret2
                    exact ⟨by rw [HR.out]; rfl, HB6.out⟩
                  · have h0i : ¬ (C : Int) = 0 := by omega
                    have HR := hide (HF.out.trans (fin_3 hno h0))
                    have HT := hide (HTK.out T (by omega))
                    clear h1 h2 hno HF HTK h0
                    generalize Bf.isTk T.data.toList = tk at *
                    cases tk with
                    | true =>
                      go_wp2_with fail
                      refine HT.out.mono ?_
                      rintro x w7 ⟨rfl, e7⟩
                      subst e7
                      go_wp2_with fail
                      go_ret2
                      exact ⟨by rw [HR.out]; rfl, HB6.out⟩
                    | false =>
                      go_wp2_with fail
                      refine HT.out.mono ?_
                      rintro x w7 ⟨rfl, e7⟩
                      subst e7
                      go_wp2_with fail
                      go_ret2
                      exact ⟨by rw [HR.out]; rfl, HB6.out⟩
      | false =>
        have hQB := HNQ.out rfl
        subst hQB
        have HF := hide (HPF.out [] prs_nil)
        obtain ⟨w4, hw4⟩ : ∃ w4, w4 = w3 := ⟨_, rfl⟩
        subst hw4
        have HB4 := HB3
        obtain ⟨_, _, c3, _⟩ := rqc HO3.out
        rw [gtn.getOf_nil] at HF
        clear HB3 HO3 HTQ HPF HQN HGQ HNQ
        obtain ⟨T, hT⟩ : ∃ T, t1 = T := ⟨_, rfl⟩
        subst hT
        have hTs : t1.size ≤ 2097152 := by omega
        obtain ⟨N, hNe⟩ : ∃ N, N = k1 := ⟨_, rfl⟩
        subst hNe
        have hN : N ≤ 1000000 := by omega
        simp only [Nat.add_zero, gtn.cat_nil] at HF
        go_wp2_with fail
        refine (HLA.out _ HB4.out).mono ?_
        rintro x w5 ⟨rfl, b5⟩
        have HB5 := hide (keepW HB4.out b5 HB4.out.size)
        clear b5 HB4 HLA c3
        go_wp2_with fail
        refine (HBS.out _).mono ?_
        rintro x w6 ⟨rfl, b6⟩
        have HB6 := hide (keepW HB5.out b6 HB5.out.size)
        clear b6 HB5 HBS
        have HTK := hide (fun (X : ByteArray) (hX : X.size ≤ 4611686018427387904) => text_any X w6 hX)
        by_cases hon : ln = 1 ∧ s2 = true
        · obtain ⟨hl1, rfl⟩ := hon
          rw [if_pos ⟨hl1, rfl⟩] at HF
          have hgd : (ln : Int) = 1 := by omega
          simp only at HF
          obtain ⟨TT, hTT⟩ : ∃ TT, gtn.cat t1 SB = TT := ⟨_, rfl⟩
          rw [hTT] at HF
          have hTz : TT.size ≤ 4611686018427387904 := by rw [← hTT, cat_size]; omega
          have u9 := sum_is t1 SB TT ((cat_is t1 SB).trans hTT) (by omega)
          obtain ⟨C, hC⟩ : ∃ C, C = N + 1 := ⟨_, rfl⟩
          obtain ⟨wc1, wc2⟩ := wN1 N hN
          rw [← hC] at HF wc1 wc2
          clear hTT hC
          by_cases h1 : 1 < ln
          · first
              | (exfalso; omega)
              | (have h1i : (1 : Int) < (ln : Int) := by omega
                 have h1d : decide ((1 : Int) < (ln : Int)) = true := decide_eq_true h1i
                 have HR := hide (HF.out.trans (fin_1 (Or.inl h1)))
                 clear h1 HF HTK
                 go_wp2_with fail
                 go_ret2
                 exact ⟨by rw [HR.out]; rfl, HB6.out⟩)
          · have h1i : ¬ (1 : Int) < (ln : Int) := by omega
            have h1d : decide ((1 : Int) < (ln : Int)) = false := decide_eq_false h1i
            by_cases h2 : 1 < C
            · have h2i : (1 : Int) < (C : Int) := by omega
              have h2d : decide ((1 : Int) < (C : Int)) = true := decide_eq_true h2i
              have HR := hide (HF.out.trans (fin_1 (Or.inr h2)))
              clear h1 h2 HF HTK
              go_wp2_with fail
              go_ret2
              exact ⟨by rw [HR.out]; rfl, HB6.out⟩
            · have h2i : ¬ (1 : Int) < (C : Int) := by omega
              have h2d : decide ((1 : Int) < (C : Int)) = false := decide_eq_false h2i
              have hno : ¬ (1 < ln ∨ 1 < C) := fun h => h.elim h1 h2
              by_cases h0 : C = 0
              · have h0i : (C : Int) = 0 := by omega
                have HR := hide (HF.out.trans (fin_2 hno h0))
                clear h1 h2 hno HF HTK h0
                go_wp2_with fail
                go_ret2
                exact ⟨by rw [HR.out]; rfl, HB6.out⟩
              · have h0i : ¬ (C : Int) = 0 := by omega
                have HR := hide (HF.out.trans (fin_3 hno h0))
                have HT := hide (HTK.out TT hTz)
                clear h1 h2 hno HF HTK h0
                generalize Bf.isTk TT.data.toList = tk at *
                cases tk with
                | true =>
                  go_wp2_with fail
                  refine HT.out.mono ?_
                  rintro x w7 ⟨rfl, e7⟩
                  subst e7
                  go_wp2_with fail
                  go_ret2
                  exact ⟨by rw [HR.out]; rfl, HB6.out⟩
                | false =>
                  go_wp2_with fail
                  refine HT.out.mono ?_
                  rintro x w7 ⟨rfl, e7⟩
                  subst e7
                  go_wp2_with fail
                  go_ret2
                  exact ⟨by rw [HR.out]; rfl, HB6.out⟩
        · have HF2 : Hid (R = gtn.fin ln N t1) := by
            show _ = _
            rw [HF.out, if_neg hon]
          obtain ⟨C, hC⟩ : ∃ C, C = N := ⟨_, rfl⟩
          rw [← hC] at HF2
          have hgd : ((ln : Int) = 1 ∧ s2 = false) ∨ ¬ (ln : Int) = 1 := by
            by_cases h : ln = 1
            · cases s2 with
              | true => exact absurd ⟨h, rfl⟩ hon
              | false => exact Or.inl ⟨by omega, rfl⟩
            · exact Or.inr (by omega)
          clear HF hon
          have HF := HF2
          clear HF2
          rw [← hC]
          clear hC
          rcases hgd with ⟨hgd, rfl⟩ | hgd
          all_goals
            by_cases h1 : 1 < ln
            · first
                | (exfalso; omega)
                | (have h1i : (1 : Int) < (ln : Int) := by omega
                   have h1d : decide ((1 : Int) < (ln : Int)) = true := decide_eq_true h1i
                   have HR := hide (HF.out.trans (fin_1 (Or.inl h1)))
                   clear h1 HF HTK
                   go_wp2_with fail
                   go_ret2
                   exact ⟨by rw [HR.out]; rfl, HB6.out⟩)
            · have h1i : ¬ (1 : Int) < (ln : Int) := by omega
              have h1d : decide ((1 : Int) < (ln : Int)) = false := decide_eq_false h1i
              by_cases h2 : 1 < C
              · have h2i : (1 : Int) < (C : Int) := by omega
                have h2d : decide ((1 : Int) < (C : Int)) = true := decide_eq_true h2i
                have HR := hide (HF.out.trans (fin_1 (Or.inr h2)))
                clear h1 h2 HF HTK
                go_wp2_with fail
                go_ret2
                exact ⟨by rw [HR.out]; rfl, HB6.out⟩
              · have h2i : ¬ (1 : Int) < (C : Int) := by omega
                have h2d : decide ((1 : Int) < (C : Int)) = false := decide_eq_false h2i
                have hno : ¬ (1 < ln ∨ 1 < C) := fun h => h.elim h1 h2
                by_cases h0 : C = 0
                · have h0i : (C : Int) = 0 := by omega
                  have HR := hide (HF.out.trans (fin_2 hno h0))
                  clear h1 h2 hno HF HTK h0
                  go_wp2_with fail
                  go_ret2
                  exact ⟨by rw [HR.out]; rfl, HB6.out⟩
                · have h0i : ¬ (C : Int) = 0 := by omega
                  have HR := hide (HF.out.trans (fin_3 hno h0))
                  have HT := hide (HTK.out t1 (by omega))
                  clear h1 h2 hno HF HTK h0
                  generalize Bf.isTk t1.data.toList = tk at *
                  cases tk with
                  | true =>
                    go_wp2_with fail
                    refine HT.out.mono ?_
                    rintro x w7 ⟨rfl, e7⟩
                    subst e7
                    go_wp2_with fail
                    go_ret2
                    exact ⟨by rw [HR.out]; rfl, HB6.out⟩
                  | false =>
                    go_wp2_with fail
                    refine HT.out.mono ?_
                    rintro x w7 ⟨rfl, e7⟩
                    subst e7
                    go_wp2_with fail
                    go_ret2
                    exact ⟨by rw [HR.out]; rfl, HB6.out⟩
  | false =>
    have hFB : FB = emp := by rw [HFB.out]; rfl
    subst hFB
    have HPF := hide (fun pq h => HFIN.out pq [] h prs_nil)
    have HQN := hide (fun h => HBAD.out (Or.inl h))
    obtain ⟨w2, hw2⟩ : ∃ w2, w2 = w1 := ⟨_, rfl⟩
    subst hw2
    have HB2 := HB1
    have HO2 := HO1
    clear HB1 HO1 HTB HFB HFIN HBAD HGB c4
    rw [gtn.getOf_nil] at HPF
    simp only [Nat.zero_add, gtn.nil_cat] at HPF
    go_wp2_with fail
    refine (HSP.out _).mono ?_
    rintro x w3 ⟨rfl, b3⟩
    have HB3 := hide (keepW HB2.out b3 HB2.out.size)
    have HO3 := hide (blkR HO2.out b3)
    clear c1 c3 b3 HB2 HO2 HSP
    cases asks with
    | true =>
      clear HNQ
      have HT := hide (HTQ.out w3)
      cases hpq : prsO QB.data.toList with
      | none =>
        rw [txV_none hpq] at HT
        have HR := hide (HQN.out hpq)
        clear hpq
        go_wp2_with fail
        refine HT.out.mono ?_
        rintro x w4 ⟨rfl, b4⟩
        have HB4 := hide (keepW HB3.out b4 HB3.out.size)
        clear b4 HB3 HO3 HTQ HT
        go_wp2_with fail
        go_ret2
        exact ⟨by rw [HR.out]; rfl, HB4.out⟩
      | some pq =>
        rw [txV_some hpq] at HT
        obtain ⟨z3, z4⟩ := HGQ.out pq hpq
        have HF := hide (HPF.out pq hpq)
        clear hpq HPF HQN HGQ
        generalize gtn.getOf pq gtn.tn = gq at *
        obtain ⟨t2, k2⟩ := gq
        simp only at z3 z4 HF HT
        go_wp2_with fail
        refine HT.out.mono ?_
        rintro x w4 ⟨rfl, b4⟩
        have HB4 := hide (keepW HB3.out b4 HB3.out.size)
        have HO4 := hide (blkR HO3.out b4)
        clear b4 HB3 HO3 HTQ HT
        obtain ⟨T, hT⟩ : ∃ T, t2 = T := ⟨_, rfl⟩
        subst hT
        have hTs : t2.size ≤ 2097152 := by omega
        have u2 := sum_is (⟨#[]⟩ : ByteArray) t2 t2 (emp_cat t2) (by show 0 + t2.size ≤ _; omega)
        obtain ⟨N, hNe⟩ : ∃ N, N = k2 := ⟨_, rfl⟩
        subst hNe
        have hN : N ≤ 1000000 := by omega
        obtain ⟨wn1, wn2⟩ := wN N (by omega)
        obtain ⟨_, _, c3, _⟩ := rqc HO4.out
        clear HO4
        go_wp2_with fail
        refine (HLA.out _ HB4.out).mono ?_
        rintro x w5 ⟨rfl, b5⟩
        have HB5 := hide (keepW HB4.out b5 HB4.out.size)
        clear b5 HB4 HLA c3
        go_wp2_with fail
        refine (HBS.out _).mono ?_
        rintro x w6 ⟨rfl, b6⟩
        have HB6 := hide (keepW HB5.out b6 HB5.out.size)
        clear b6 HB5 HBS
        have HTK := hide (fun (X : ByteArray) (hX : X.size ≤ 4611686018427387904) => text_any X w6 hX)
        by_cases hon : ln = 1 ∧ s2 = true
        · obtain ⟨hl1, rfl⟩ := hon
          rw [if_pos ⟨hl1, rfl⟩] at HF
          have hgd : (ln : Int) = 1 := by omega
          simp only at HF
          obtain ⟨TT, hTT⟩ : ∃ TT, gtn.cat t2 SB = TT := ⟨_, rfl⟩
          rw [hTT] at HF
          have hTz : TT.size ≤ 4611686018427387904 := by rw [← hTT, cat_size]; omega
          have u9 := sum_is t2 SB TT ((cat_is t2 SB).trans hTT) (by omega)
          obtain ⟨C, hC⟩ : ∃ C, C = N + 1 := ⟨_, rfl⟩
          obtain ⟨wc1, wc2⟩ := wN1 N hN
          rw [← hC] at HF wc1 wc2
          clear hTT hC
          by_cases h1 : 1 < ln
          · first
              | (exfalso; omega)
              | (have h1i : (1 : Int) < (ln : Int) := by omega
                 have h1d : decide ((1 : Int) < (ln : Int)) = true := decide_eq_true h1i
                 have HR := hide (HF.out.trans (fin_1 (Or.inl h1)))
                 clear h1 HF HTK
                 go_wp2_with fail
                 go_ret2
                 exact ⟨by rw [HR.out]; rfl, HB6.out⟩)
          · have h1i : ¬ (1 : Int) < (ln : Int) := by omega
            have h1d : decide ((1 : Int) < (ln : Int)) = false := decide_eq_false h1i
            by_cases h2 : 1 < C
            · have h2i : (1 : Int) < (C : Int) := by omega
              have h2d : decide ((1 : Int) < (C : Int)) = true := decide_eq_true h2i
              have HR := hide (HF.out.trans (fin_1 (Or.inr h2)))
              clear h1 h2 HF HTK
              go_wp2_with fail
              go_ret2
              exact ⟨by rw [HR.out]; rfl, HB6.out⟩
            · have h2i : ¬ (1 : Int) < (C : Int) := by omega
              have h2d : decide ((1 : Int) < (C : Int)) = false := decide_eq_false h2i
              have hno : ¬ (1 < ln ∨ 1 < C) := fun h => h.elim h1 h2
              by_cases h0 : C = 0
              · have h0i : (C : Int) = 0 := by omega
                have HR := hide (HF.out.trans (fin_2 hno h0))
                clear h1 h2 hno HF HTK h0
                go_wp2_with fail
                go_ret2
                exact ⟨by rw [HR.out]; rfl, HB6.out⟩
              · have h0i : ¬ (C : Int) = 0 := by omega
                have HR := hide (HF.out.trans (fin_3 hno h0))
                have HT := hide (HTK.out TT hTz)
                clear h1 h2 hno HF HTK h0
                generalize Bf.isTk TT.data.toList = tk at *
                cases tk with
                | true =>
                  go_wp2_with fail
                  refine HT.out.mono ?_
                  rintro x w7 ⟨rfl, e7⟩
                  subst e7
                  go_wp2_with fail
                  go_ret2
                  exact ⟨by rw [HR.out]; rfl, HB6.out⟩
                | false =>
                  go_wp2_with fail
                  refine HT.out.mono ?_
                  rintro x w7 ⟨rfl, e7⟩
                  subst e7
                  go_wp2_with fail
                  go_ret2
                  exact ⟨by rw [HR.out]; rfl, HB6.out⟩
        · have HF2 : Hid (R = gtn.fin ln N t2) := by
            show _ = _
            rw [HF.out, if_neg hon]
          obtain ⟨C, hC⟩ : ∃ C, C = N := ⟨_, rfl⟩
          rw [← hC] at HF2
          have hgd : ((ln : Int) = 1 ∧ s2 = false) ∨ ¬ (ln : Int) = 1 := by
            by_cases h : ln = 1
            · cases s2 with
              | true => exact absurd ⟨h, rfl⟩ hon
              | false => exact Or.inl ⟨by omega, rfl⟩
            · exact Or.inr (by omega)
          clear HF hon
          have HF := HF2
          clear HF2
          rw [← hC]
          clear hC
          rcases hgd with ⟨hgd, rfl⟩ | hgd
          all_goals
            by_cases h1 : 1 < ln
            · first
                | (exfalso; omega)
                | (have h1i : (1 : Int) < (ln : Int) := by omega
                   have h1d : decide ((1 : Int) < (ln : Int)) = true := decide_eq_true h1i
                   have HR := hide (HF.out.trans (fin_1 (Or.inl h1)))
                   clear h1 HF HTK
                   go_wp2_with fail
                   go_ret2
                   exact ⟨by rw [HR.out]; rfl, HB6.out⟩)
            · have h1i : ¬ (1 : Int) < (ln : Int) := by omega
              have h1d : decide ((1 : Int) < (ln : Int)) = false := decide_eq_false h1i
              by_cases h2 : 1 < C
              · have h2i : (1 : Int) < (C : Int) := by omega
                have h2d : decide ((1 : Int) < (C : Int)) = true := decide_eq_true h2i
                have HR := hide (HF.out.trans (fin_1 (Or.inr h2)))
                clear h1 h2 HF HTK
                go_wp2_with fail
                go_ret2
                exact ⟨by rw [HR.out]; rfl, HB6.out⟩
              · have h2i : ¬ (1 : Int) < (C : Int) := by omega
                have h2d : decide ((1 : Int) < (C : Int)) = false := decide_eq_false h2i
                have hno : ¬ (1 < ln ∨ 1 < C) := fun h => h.elim h1 h2
                by_cases h0 : C = 0
                · have h0i : (C : Int) = 0 := by omega
                  have HR := hide (HF.out.trans (fin_2 hno h0))
                  clear h1 h2 hno HF HTK h0
                  go_wp2_with fail
                  go_ret2
                  exact ⟨by rw [HR.out]; rfl, HB6.out⟩
                · have h0i : ¬ (C : Int) = 0 := by omega
                  have HR := hide (HF.out.trans (fin_3 hno h0))
                  have HT := hide (HTK.out t2 (by omega))
                  clear h1 h2 hno HF HTK h0
                  generalize Bf.isTk t2.data.toList = tk at *
                  cases tk with
                  | true =>
                    go_wp2_with fail
                    refine HT.out.mono ?_
                    rintro x w7 ⟨rfl, e7⟩
                    subst e7
                    go_wp2_with fail
                    go_ret2
                    exact ⟨by rw [HR.out]; rfl, HB6.out⟩
                  | false =>
                    go_wp2_with fail
                    refine HT.out.mono ?_
                    rintro x w7 ⟨rfl, e7⟩
                    subst e7
                    go_wp2_with fail
                    go_ret2
                    exact ⟨by rw [HR.out]; rfl, HB6.out⟩
    | false =>
      have hQB := HNQ.out rfl
      subst hQB
      have HF := hide (HPF.out [] prs_nil)
      obtain ⟨w4, hw4⟩ : ∃ w4, w4 = w3 := ⟨_, rfl⟩
      subst hw4
      have HB4 := HB3
      obtain ⟨_, _, c3, _⟩ := rqc HO3.out
      rw [gtn.getOf_nil] at HF
      clear HB3 HO3 HTQ HPF HQN HGQ HNQ
      have hTs : (⟨#[]⟩ : ByteArray).size = 0 := rfl
      have hN : 0 ≤ 1000000 := Nat.zero_le _
      go_wp2_with fail
      refine (HLA.out _ HB4.out).mono ?_
      rintro x w5 ⟨rfl, b5⟩
      have HB5 := hide (keepW HB4.out b5 HB4.out.size)
      clear b5 HB4 HLA c3
      go_wp2_with fail
      refine (HBS.out _).mono ?_
      rintro x w6 ⟨rfl, b6⟩
      have HB6 := hide (keepW HB5.out b6 HB5.out.size)
      clear b6 HB5 HBS
      have HTK := hide (fun (X : ByteArray) (hX : X.size ≤ 4611686018427387904) => text_any X w6 hX)
      by_cases hon : ln = 1 ∧ s2 = true
      · obtain ⟨hl1, rfl⟩ := hon
        rw [if_pos ⟨hl1, rfl⟩] at HF
        have hgd : (ln : Int) = 1 := by omega
        simp only at HF
        obtain ⟨TT, hTT⟩ : ∃ TT, gtn.cat ⟨#[]⟩ SB = TT := ⟨_, rfl⟩
        rw [hTT] at HF
        have hTz : TT.size ≤ 4611686018427387904 := by rw [← hTT, cat_size]; omega
        have u9 := sum_is ⟨#[]⟩ SB TT ((cat_is ⟨#[]⟩ SB).trans hTT) (by omega)
        have HR := hide (HF.out.trans (fin_3 (by omega) (by omega)))
        have HT := hide (HTK.out TT hTz)
        clear hTT HF HTK hl1
        generalize Bf.isTk TT.data.toList = tk at *
        cases tk with
        | true =>
          go_wp2_with fail
          refine HT.out.mono ?_
          rintro x w7 ⟨rfl, e7⟩
          subst e7
          go_wp2_with fail
          go_ret2
          exact ⟨by rw [HR.out]; rfl, HB6.out⟩
        | false =>
          go_wp2_with fail
          refine HT.out.mono ?_
          rintro x w7 ⟨rfl, e7⟩
          subst e7
          go_wp2_with fail
          go_ret2
          exact ⟨by rw [HR.out]; rfl, HB6.out⟩
      · have HF2 : Hid (R = gtn.fin ln 0 ⟨#[]⟩) := by
          show _ = _
          rw [HF.out, if_neg hon]
        have hgd : ((ln : Int) = 1 ∧ s2 = false) ∨ ¬ (ln : Int) = 1 := by
          by_cases h : ln = 1
          · cases s2 with
            | true => exact absurd ⟨h, rfl⟩ hon
            | false => exact Or.inl ⟨by omega, rfl⟩
          · exact Or.inr (by omega)
        clear HF hon HTK
        rcases hgd with ⟨hgd, rfl⟩ | hgd
        all_goals
          by_cases h1 : 1 < ln
          · first
              | (exfalso; omega)
              | (have h1i : (1 : Int) < (ln : Int) := by omega
                 have h1d : decide ((1 : Int) < (ln : Int)) = true := decide_eq_true h1i
                 have HR := hide (HF2.out.trans (fin_1 (Or.inl h1)))
                 clear h1 HF2
                 go_wp2_with fail
                 go_ret2
                 exact ⟨by rw [HR.out]; rfl, HB6.out⟩)
          · have h1i : ¬ (1 : Int) < (ln : Int) := by omega
            have h1d : decide ((1 : Int) < (ln : Int)) = false := decide_eq_false h1i
            have HR := hide (HF2.out.trans (fin_2 (by omega) rfl))
            clear h1 HF2
            go_wp2_with fail
            go_ret2
            exact ⟨by rw [HR.out]; rfl, HB6.out⟩
end Go.Proofs.YtcpflfpgnbihiaaGreatDoor.bf
