import Derived.Test.YthhkhpgffamdhaaDoorMqB
import Derived.Test.YthhkhpgffamdhaaDoorErrWalks
import Derived.Test.YthhkhpgffamdhaaDoorFourOpenQ
namespace Go.Proofs.YthhkhpgffamdhaaDoor.fd
open Go.ChangeShapes Go.WideShapes Go.ChangeAt Go.RowKit Go.Proofs.YthhkhpgffamdhaaDoor.common Go.Proofs.YthhkhpgffamdhaaDoor.bk
attribute [local go_sem ↓] Go.wp_at_zero Go.wp_at_succ

theorem err_eqlQ (w : World) (a : Addr) : (binOp .eql 28 (X a) (X a)).run Tryd.prog w = .ok (.bool true) w := by
  obtain ⟨info, hinfo, hcomp⟩ := Option.map_eq_some_iff.1 errw.compErr
  obtain ⟨jinfo, hj1, hj2⟩ := Option.map_eq_some_iff.1 errw.sizeErr
  exact run_eql_iface_ptr_same w a Tryd.underlying28 Tryd.underlying172 hinfo hcomp hj1

/-- the text that is quoted: the given one, or none -/
def qOf (l : List UInt8) : List UInt8 := if l.all Fd.val = true then l else []
theorem qOf_val (l : List UInt8) : ∀ c ∈ qOf l, Fd.val c = true := by
  unfold qOf
  split
  · rename_i h; exact fun c hc => List.all_eq_true.1 h c hc
  · intro c hc; cases hc
theorem qOf_len (l : List UInt8) : (qTxt (qOf l)).length ≤ 2 * l.length + 2 := by
  unfold qTxt
  rw [List.length_cons, List.length_append, List.length_singleton]
  have h1 := qEsc_len (qOf l)
  have h2 : (qOf l).length ≤ l.length := by unfold qOf; split <;> simp
  omega
def nmOf (l : List UInt8) : List UInt8 := if Fd.token l = true then l else [97]
theorem nmOf_tok (l : List UInt8) : Fd.token (nmOf l) = true := by
  unfold nmOf
  split
  · rename_i h; exact h
  · decide
theorem nmOf_len (l : List UInt8) : (nmOf l).length ≤ l.length + 1 := by unfold nmOf; split <;> simp

/-- a sum of two texts, under one name -/
theorem sum_is (a b : ByteArray) (h : a.size + b.size ≤ 9223372036854775807) : ∃ c : ByteArray, c.data.toList = a.data.toList ++ b.data.toList ∧ c.size = a.size + b.size ∧ ∀ X : World, (Op.stringOp .add a b).run Tryd.prog X = .ok (.string c) X :=
  ⟨a ++ b, by simp, ByteArray.size_append, fun X => run_string_add_sum X _ _ h⟩
/-- all the texts that the law puts together -/
structure Parts (ty su N Q HD T5 U3 V5 : ByteArray) : Prop where
  hd : HD.data.toList = ty.data.toList ++ 47 :: su.data.toList
  t5 : T5.data.toList = ty.data.toList ++ 47 :: (su.data.toList ++ ([32, 9, 59, 9, 32] ++ (N.data.toList ++ 61 :: (Q.data.toList ++ [59]))))
  u3 : U3.data.toList = ty.data.toList ++ 47 :: (su.data.toList ++ 59 :: (N.data.toList ++ [61, 34]))
  v5 : V5.data.toList = ty.data.toList ++ 47 :: (su.data.toList ++ 59 :: (N.data.toList ++ 61 :: (Q.data.toList ++ [32])))
  sz : HD.size ≤ 8388608 ∧ T5.size ≤ 8388608 ∧ U3.size ≤ 8388608 ∧ V5.size ≤ 8388608
theorem broken_med {ty su : ByteArray} {X : List UInt8} (h : Broken ty.data.toList su.data.toList) : medR (ty.data.toList ++ 47 :: (su.data.toList ++ ([32, 9, 59, 9, 32] ++ X))) = none := by
  have := broken_none (X := [9, 59, 9, 32] ++ X) h
  simpa using this

set_option maxRecDepth 100000 in
set_option maxHeartbeats 12800000 in
theorem mq_tt (ty su nm tx : ByteArray) (w : World) (hs : ty.size + su.size + nm.size + tx.size ≤ 1048576) (ea : Addr) (he : Ev 0 w (X ea)) (htn : Fd.token nm.data.toList = true) (hall : tx.data.toList.all Fd.val = true) :
    Calls Tryd.prog 3 #[.agg #[.string ty, .string su, .string nm, .string tx]] w fun x w' => x = .returned (.bool true) ∧ Below w.heap.size w w' := by
  obtain ⟨hx0, hx1, hx2, hx3, hbox⟩ := box4Q w (.string ty) (.string su) (.string nm) (.string tx) 23
  obtain ⟨W0, hW0⟩ : ∃ W0 : World, w.alloc (.cells #[.string ty, .string su, .string nm, .string tx] 23) = W0 := ⟨_, rfl⟩
  rw [hW0] at hx0 hx1 hx2 hx3 hbox
  have HX0 := hide hx0
  have HX1 := hide hx1
  have HX2 := hide hx2
  have HX3 := hide hx3
  have HBOX := hide hbox
  have HE : Hid (∀ W, Below W0.heap.size W0 W → Ev 0 W (X ea)) := fun W hW => (he.below hbox).below hW
  have HW0 := hide hW0
  have a2 := hx2 W0 (Below.refl _ _)
  rw [← hW0] at a2
  clear hx0 hx1 hx2 hx3 hbox he hW0
  have HTN := hide (fun W => token_any nm W (by omega))
  have HQW := hide (fun W => lawQuoted_any tx W (by omega))
  obtain ⟨NL, hNL⟩ : ∃ NL, nm.data.toList = NL := ⟨_, rfl⟩
  have HNL := hide hNL
  have HNTK : Hid (Fd.token NL = true) := by show _ = _; rw [← hNL]; exact htn
  clear hNL
  obtain ⟨Q, hQ⟩ : ∃ Q : ByteArray, Q = ⟨(qTxt tx.data.toList).toArray⟩ := ⟨_, rfl⟩
  have HQL : Hid (Q.data.toList = qTxt (qOf tx.data.toList)) := by show _ = _; rw [hQ]; unfold qOf; rw [if_pos hall]
  have hQs : Q.size ≤ 2097154 := by
    rw [hQ, str_size]
    have h1 := qOf_len tx.data.toList
    unfold qOf at h1
    rw [if_pos hall, len_list] at h1
    omega
  rw [hall, if_pos rfl, show S (qTxt tx.data.toList) = .string Q from by rw [hQ]] at HQW
  clear hQ hall
  rw [htn] at HTN
  clear htn
  obtain ⟨A1, e1, z1, q1⟩ := sum_is ty ⟨#[47]⟩ (by show ty.size + 1 ≤ _; omega)
  have z1' : A1.size = ty.size + 1 := z1
  obtain ⟨HD, e2, z2, q2⟩ := sum_is A1 su (by omega)
  obtain ⟨T1, e3, z3, q3⟩ := sum_is HD ⟨#[32, 9, 59, 9, 32]⟩ (by show HD.size + 5 ≤ _; omega)
  have z3' : T1.size = HD.size + 5 := z3
  obtain ⟨T2, e4, z4, q4⟩ := sum_is T1 nm (by omega)
  obtain ⟨T3, e5, z5, q5⟩ := sum_is T2 ⟨#[61]⟩ (by show T2.size + 1 ≤ _; omega)
  have z5' : T3.size = T2.size + 1 := z5
  obtain ⟨T4, e6, z6, q6⟩ := sum_is T3 Q (by omega)
  obtain ⟨T5, e7, z7, q7⟩ := sum_is T4 ⟨#[59]⟩ (by show T4.size + 1 ≤ _; omega)
  have z7' : T5.size = T4.size + 1 := z7
  obtain ⟨U1, f1, y1, p1⟩ := sum_is HD ⟨#[59]⟩ (by show HD.size + 1 ≤ _; omega)
  have y1' : U1.size = HD.size + 1 := y1
  obtain ⟨U2, f2, y2, p2⟩ := sum_is U1 nm (by omega)
  obtain ⟨U3, f3, y3, p3⟩ := sum_is U2 ⟨#[61, 34]⟩ (by show U2.size + 2 ≤ _; omega)
  have y3' : U3.size = U2.size + 2 := y3
  obtain ⟨V3, g3, x3, r3⟩ := sum_is U2 ⟨#[61]⟩ (by show U2.size + 1 ≤ _; omega)
  have x3' : V3.size = U2.size + 1 := x3
  obtain ⟨V4, g4, x4, r4⟩ := sum_is V3 Q (by omega)
  obtain ⟨V5, g5, x5, r5⟩ := sum_is V4 ⟨#[32]⟩ (by show V4.size + 1 ≤ _; omega)
  have x5' : V5.size = V4.size + 1 := x5
  have hp : Parts ty su nm Q HD T5 U3 V5 := by
    refine ⟨?_, ?_, ?_, ?_, ?_⟩
    · rw [e2, e1]; simp
    · rw [e7, e6, e5, e4, e3, e2, e1]; simp
    · rw [f3, f2, f1, e2, e1]; simp
    · rw [g5, g4, g3, f2, f1, e2, e1]; simp
    · exact ⟨by omega, by omega, by omega, by omega⟩
  clear e1 e2 e3 e4 e5 e6 e7 f1 f2 f3 g3 g4 g5 z1 z2 z3 z4 z5 z6 z7 y1 y2 y3 x3 x4 x5 z1' z3' z5' z7' y1' y3' x3' x5'
  cases htt : Fd.token ty.data.toList with
  | false =>
    have HBR := hide (fun W => broken_any ty su W (by omega) (by omega))
    have HTT := hide (fun W => token_any ty W (by omega))
    have HTS := hide (fun W => token_any su W (by omega))
    have HM1 := hide (fun W (hW : Below W0.heap.size W0 W) => media_any T5 W (by have := hp.sz; omega) ea (HE.out W hW))
    have HNB : Hid (Broken ty.data.toList su.data.toList → medR T5.data.toList = none) := fun h => by rw [hp.t5]; exact broken_med h
    obtain ⟨sv, ev, hsv, hor⟩ : ∃ (sv : ByteArray) (ev : Value), medV T5.data.toList (X ea) = .tuple #[.string sv, ev] ∧ (medR T5.data.toList = none → sv = ⟨#[]⟩ ∧ ev = X ea) := by
      cases hm : medR T5.data.toList with
      | none => exact ⟨⟨#[]⟩, X ea, (by unfold medV; rw [hm]), fun _ => ⟨rfl, rfl⟩⟩
      | some t => exact ⟨⟨t.toArray⟩, .nilIface, (by unfold medV; rw [hm]), fun h => (by cases h)⟩
    rw [hsv] at HM1
    have HOR := hide hor
    clear hsv hor hp
    rw [htt] at HTT
    go_enter Tryd.func3, Tryd.ntmps3
    go_wp2_with fail
    rw [HW0.out]
    refine (HTN.out W0).mono ?_
    rintro x w1 ⟨rfl, hb1⟩
    have HB1 := hide hb1
    clear hb1
    have b0 := HX0.out w1 HB1.out
    have b1 := HX1.out w1 HB1.out
    have b2 := HX2.out w1 HB1.out
    have b3 := HX3.out w1 HB1.out
    go_wp2_with fail
    refine (HQW.out w1).mono ?_
    rintro x w2 ⟨rfl, hb2⟩
    have HBk := hide (keepD HB1.out hb2)
    clear hb2 b0 b1 b2 b3
    go_wp2_with fail
    refine (HM1.out _ HBk.out).mono ?_
    rintro x w5 ⟨rfl, hb5⟩
    have HB5 := hide (keepD HBk.out hb5)
    clear hb5
    have b0 := HX0.out w5 HB5.out
    go_wp2_with fail
    refine (HTT.out _).mono ?_
    rintro x w6 ⟨rfl, hb6⟩
    have HB6 := hide (keepD HB5.out hb6)
    clear hb6 b0
    have b0 := HX0.out w6 HB6.out
    have b1 := HX1.out w6 HB6.out
    go_wp2_with fail
    refine (HBR.out _).mono ?_
    rintro x w8 ⟨⟨tt, rfl, himp⟩, hb8⟩
    have HB8 := hide (keepD HB6.out hb8)
    clear hb8 b0 b1
    cases tt with
    | false =>
      go_wp2_with fail
      go_ret
      exact ⟨by simp, HBOX.out.trans (HB8.out.mono HBOX.out.size)⟩
    | true =>
      obtain ⟨rfl, rfl⟩ := HOR.out (HNB.out (himp rfl))
      have hx : w8.cell? ⟨0, 0, none⟩ = some (X ea) := HE.out w8 HB8.out
      have hq := err_eqlQ w8 ea
      go_wp2_with fail
      go_ret
      exact ⟨by simp, HBOX.out.trans (HB8.out.mono HBOX.out.size)⟩
  | true =>
    cases hts : Fd.token su.data.toList with
    | false =>
      have HBR := hide (fun W => broken_any ty su W (by omega) (by omega))
      have HTT := hide (fun W => token_any ty W (by omega))
      have HTS := hide (fun W => token_any su W (by omega))
      have HM1 := hide (fun W (hW : Below W0.heap.size W0 W) => media_any T5 W (by have := hp.sz; omega) ea (HE.out W hW))
      have HNB : Hid (Broken ty.data.toList su.data.toList → medR T5.data.toList = none) := fun h => by rw [hp.t5]; exact broken_med h
      obtain ⟨sv, ev, hsv, hor⟩ : ∃ (sv : ByteArray) (ev : Value), medV T5.data.toList (X ea) = .tuple #[.string sv, ev] ∧ (medR T5.data.toList = none → sv = ⟨#[]⟩ ∧ ev = X ea) := by
        cases hm : medR T5.data.toList with
        | none => exact ⟨⟨#[]⟩, X ea, (by unfold medV; rw [hm]), fun _ => ⟨rfl, rfl⟩⟩
        | some t => exact ⟨⟨t.toArray⟩, .nilIface, (by unfold medV; rw [hm]), fun h => (by cases h)⟩
      rw [hsv] at HM1
      have HOR := hide hor
      clear hsv hor hp
      rw [htt] at HTT
      rw [hts] at HTS
      go_enter Tryd.func3, Tryd.ntmps3
      go_wp2_with fail
      rw [HW0.out]
      refine (HTN.out W0).mono ?_
      rintro x w1 ⟨rfl, hb1⟩
      have HB1 := hide hb1
      clear hb1
      have b0 := HX0.out w1 HB1.out
      have b1 := HX1.out w1 HB1.out
      have b2 := HX2.out w1 HB1.out
      have b3 := HX3.out w1 HB1.out
      go_wp2_with fail
      refine (HQW.out w1).mono ?_
      rintro x w2 ⟨rfl, hb2⟩
      have HBk := hide (keepD HB1.out hb2)
      clear hb2 b0 b1 b2 b3
      go_wp2_with fail
      refine (HM1.out _ HBk.out).mono ?_
      rintro x w5 ⟨rfl, hb5⟩
      have HB5 := hide (keepD HBk.out hb5)
      clear hb5
      have b0 := HX0.out w5 HB5.out
      go_wp2_with fail
      refine (HTT.out _).mono ?_
      rintro x w6 ⟨rfl, hb6⟩
      have HB6 := hide (keepD HB5.out hb6)
      clear hb6 b0
      have b1 := HX1.out w6 HB6.out
      go_wp2_with fail
      refine (HTS.out _).mono ?_
      rintro x w7 ⟨rfl, hb7⟩
      have HB7 := hide (keepD HB6.out hb7)
      clear hb7 b1
      have b0 := HX0.out w7 HB7.out
      have b1 := HX1.out w7 HB7.out
      go_wp2_with fail
      refine (HBR.out _).mono ?_
      rintro x w8 ⟨⟨tt, rfl, himp⟩, hb8⟩
      have HB8 := hide (keepD HB7.out hb8)
      clear hb8 b0 b1
      cases tt with
      | false =>
        go_wp2_with fail
        go_ret
        exact ⟨by simp, HBOX.out.trans (HB8.out.mono HBOX.out.size)⟩
      | true =>
        obtain ⟨rfl, rfl⟩ := HOR.out (HNB.out (himp rfl))
        have hx : w8.cell? ⟨0, 0, none⟩ = some (X ea) := HE.out w8 HB8.out
        have hq := err_eqlQ w8 ea
        go_wp2_with fail
        go_ret
        exact ⟨by simp, HBOX.out.trans (HB8.out.mono HBOX.out.size)⟩
    | true =>
      have HM1 := hide (fun W (hW : Below W0.heap.size W0 W) => media_any T5 W (by have := hp.sz; omega) ea (HE.out W hW))
      rw [hp.t5, HNL.out, HQL.out, show medV (ty.data.toList ++ 47 :: (su.data.toList ++ ([32, 9, 59, 9, 32] ++ (NL ++ 61 :: (qTxt (qOf tx.data.toList) ++ [59]))))) (X ea) = .tuple #[S (Fd.lows (ty.data.toList ++ 47 :: su.data.toList)), .nilIface] from by unfold medV; rw [med_good htt hts HNTK.out (qOf_val _)]] at HM1
      have HLO := hide (fun W => lawLower_any HD W (by have := hp.sz; omega))
      rw [hp.hd] at HLO
      have HMA := hide (fun W (hW : Below W0.heap.size W0 W) => media_any (⟨(Fd.lows (ty.data.toList ++ 47 :: su.data.toList)).toArray⟩ : ByteArray) W (by rw [str_size]; unfold Fd.lows; rw [List.length_map, List.length_append, List.length_cons, len_list, len_list]; omega) ea (HE.out W hW))
      rw [show (⟨(Fd.lows (ty.data.toList ++ 47 :: su.data.toList)).toArray⟩ : ByteArray).data.toList = Fd.lows (ty.data.toList ++ 47 :: su.data.toList) from rfl, show medV (Fd.lows (ty.data.toList ++ 47 :: su.data.toList)) (X ea) = .tuple #[S (Fd.lows (ty.data.toList ++ 47 :: su.data.toList)), .nilIface] from by unfold medV; rw [med_again htt hts]] at HMA
      have HLN := hide (fun W => lawLower_any nm W (by omega))
      obtain ⟨LN, hLN⟩ : ∃ LN : ByteArray, LN = ⟨(Fd.lows nm.data.toList).toArray⟩ := ⟨_, rfl⟩
      rw [← hLN] at HLN
      have hLNs : LN.size = nm.size := by rw [hLN, str_size]; unfold Fd.lows; rw [List.length_map, len_list]
      obtain ⟨U4, hu4, hu4s, qu4⟩ := sum_is U3 LN (by have := hp.sz; omega)
      have HMU := hide (fun W (hW : Below W0.heap.size W0 W) => media_any U4 W (by have := hp.sz; omega) ea (HE.out W hW))
      have eu : U4.data.toList = ty.data.toList ++ 47 :: (su.data.toList ++ 59 :: (NL ++ 61 :: 34 :: Fd.lows NL)) := by
        rw [hu4, hp.u3, hLN, HNL.out]; simp
      have hlt : ∀ c ∈ Fd.lows (NL), Fd.tok c = true := (token_facts (token_low HNTK.out)).2
      rw [eu, show medV (ty.data.toList ++ 47 :: (su.data.toList ++ 59 :: (NL ++ 61 :: 34 :: Fd.lows NL))) (X ea) = .tuple #[.string ⟨#[]⟩, X ea] from by unfold medV; rw [med_open htt hts HNTK.out hlt]] at HMU
      have HMV := hide (fun W (hW : Below W0.heap.size W0 W) => media_any V5 W (by have := hp.sz; omega) ea (HE.out W hW))
      rw [hp.v5, HNL.out, HQL.out, show medV (ty.data.toList ++ 47 :: (su.data.toList ++ 59 :: (NL ++ 61 :: (qTxt (qOf tx.data.toList) ++ [32])))) (X ea) = .tuple #[.string ⟨#[]⟩, X ea] from by unfold medV; rw [med_white htt hts HNTK.out (qOf_val _)]] at HMV
      have HTT := hide (fun W => token_any ty W (by omega))
      have HTS := hide (fun W => token_any su W (by omega))
      rw [htt] at HTT
      rw [hts] at HTS
      clear hp eu hlt hu4 hLN
      generalize Fd.lows (ty.data.toList ++ 47 :: su.data.toList) = L at *
      go_enter Tryd.func3, Tryd.ntmps3
      go_wp2_with fail
      rw [HW0.out]
      refine (HTN.out W0).mono ?_
      rintro x w1 ⟨rfl, hb1⟩
      have HB1 := hide hb1
      clear hb1
      have b0 := HX0.out w1 HB1.out
      have b1 := HX1.out w1 HB1.out
      have b2 := HX2.out w1 HB1.out
      have b3 := HX3.out w1 HB1.out
      go_wp2_with fail
      refine (HQW.out w1).mono ?_
      rintro x w2 ⟨rfl, hb2⟩
      have HBk := hide (keepD HB1.out hb2)
      clear hb2 b0 b1 b2 b3
      go_wp2_with fail
      refine (HM1.out _ HBk.out).mono ?_
      rintro x w5 ⟨rfl, hb5⟩
      have HB5 := hide (keepD HBk.out hb5)
      clear hb5
      have b0 := HX0.out w5 HB5.out
      go_wp2_with fail
      refine (HTT.out _).mono ?_
      rintro x w6 ⟨rfl, hb6⟩
      have HB6 := hide (keepD HB5.out hb6)
      clear hb6 b0
      have b1 := HX1.out w6 HB6.out
      go_wp2_with fail
      refine (HTS.out _).mono ?_
      rintro x w7 ⟨rfl, hb7⟩
      have HB7 := hide (keepD HB6.out hb7)
      clear hb7 b1
      go_wp2_with fail
      refine (HLO.out _).mono ?_
      rintro x w8 ⟨rfl, hb8⟩
      have HB8 := hide (keepD HB7.out hb8)
      clear hb8
      go_wp2_with fail
      refine (HMA.out _ HB8.out).mono ?_
      rintro x w9 ⟨rfl, hb9⟩
      have HB9 := hide (keepD HB8.out hb9)
      clear hb9
      go_wp2_with fail
      refine (HLN.out _).mono ?_
      rintro x w10 ⟨rfl, hb10⟩
      have HB10 := hide (keepD HB9.out hb10)
      clear hb10
      go_wp2_with fail
      refine (HMU.out _ HB10.out).mono ?_
      rintro x w11 ⟨rfl, hb11⟩
      have HB11 := hide (keepD HB10.out hb11)
      clear hb11
      go_wp2_with fail
      refine (HMV.out _ HB11.out).mono ?_
      rintro x w12 ⟨rfl, hb12⟩
      have HB12 := hide (keepD HB11.out hb12)
      clear hb12
      have hx : w12.cell? ⟨0, 0, none⟩ = some (X ea) := HE.out w12 HB12.out
      have hq := err_eqlQ w12 ea
      go_wp2_with fail
      go_ret
      exact ⟨by simp, HBOX.out.trans (HB12.out.mono HBOX.out.size)⟩

set_option maxRecDepth 100000 in
set_option maxHeartbeats 12800000 in
theorem mq_tf (ty su nm tx : ByteArray) (w : World) (hs : ty.size + su.size + nm.size + tx.size ≤ 1048576) (ea : Addr) (he : Ev 0 w (X ea)) (htn : Fd.token nm.data.toList = true) (hall : tx.data.toList.all Fd.val = false) :
    Calls Tryd.prog 3 #[.agg #[.string ty, .string su, .string nm, .string tx]] w fun x w' => x = .returned (.bool true) ∧ Below w.heap.size w w' := by
  obtain ⟨hx0, hx1, hx2, hx3, hbox⟩ := box4Q w (.string ty) (.string su) (.string nm) (.string tx) 23
  obtain ⟨W0, hW0⟩ : ∃ W0 : World, w.alloc (.cells #[.string ty, .string su, .string nm, .string tx] 23) = W0 := ⟨_, rfl⟩
  rw [hW0] at hx0 hx1 hx2 hx3 hbox
  have HX0 := hide hx0
  have HX1 := hide hx1
  have HX2 := hide hx2
  have HX3 := hide hx3
  have HBOX := hide hbox
  have HE : Hid (∀ W, Below W0.heap.size W0 W → Ev 0 W (X ea)) := fun W hW => (he.below hbox).below hW
  have HW0 := hide hW0
  have a2 := hx2 W0 (Below.refl _ _)
  rw [← hW0] at a2
  clear hx0 hx1 hx2 hx3 hbox he hW0
  have HTN := hide (fun W => token_any nm W (by omega))
  have HQW := hide (fun W => lawQuoted_any tx W (by omega))
  obtain ⟨NL, hNL⟩ : ∃ NL, nm.data.toList = NL := ⟨_, rfl⟩
  have HNL := hide hNL
  have HNTK : Hid (Fd.token NL = true) := by show _ = _; rw [← hNL]; exact htn
  clear hNL
  have HQL : Hid ((⟨#[34, 34]⟩ : ByteArray).data.toList = qTxt (qOf tx.data.toList)) := by show _ = _; unfold qOf; rw [if_neg (by rw [hall]; decide)]; rfl
  have hQs : (⟨#[34, 34]⟩ : ByteArray).size = 2 := rfl
  rw [hall, if_neg (by decide)] at HQW
  clear hall
  rw [htn] at HTN
  clear htn
  obtain ⟨A1, e1, z1, q1⟩ := sum_is ty ⟨#[47]⟩ (by show ty.size + 1 ≤ _; omega)
  have z1' : A1.size = ty.size + 1 := z1
  obtain ⟨HD, e2, z2, q2⟩ := sum_is A1 su (by omega)
  obtain ⟨T1, e3, z3, q3⟩ := sum_is HD ⟨#[32, 9, 59, 9, 32]⟩ (by show HD.size + 5 ≤ _; omega)
  have z3' : T1.size = HD.size + 5 := z3
  obtain ⟨T2, e4, z4, q4⟩ := sum_is T1 nm (by omega)
  obtain ⟨T3, e5, z5, q5⟩ := sum_is T2 ⟨#[61]⟩ (by show T2.size + 1 ≤ _; omega)
  have z5' : T3.size = T2.size + 1 := z5
  obtain ⟨T4, e6, z6, q6⟩ := sum_is T3 (⟨#[34, 34]⟩ : ByteArray) (by omega)
  obtain ⟨T5, e7, z7, q7⟩ := sum_is T4 ⟨#[59]⟩ (by show T4.size + 1 ≤ _; omega)
  have z7' : T5.size = T4.size + 1 := z7
  obtain ⟨U1, f1, y1, p1⟩ := sum_is HD ⟨#[59]⟩ (by show HD.size + 1 ≤ _; omega)
  have y1' : U1.size = HD.size + 1 := y1
  obtain ⟨U2, f2, y2, p2⟩ := sum_is U1 nm (by omega)
  obtain ⟨U3, f3, y3, p3⟩ := sum_is U2 ⟨#[61, 34]⟩ (by show U2.size + 2 ≤ _; omega)
  have y3' : U3.size = U2.size + 2 := y3
  obtain ⟨V3, g3, x3, r3⟩ := sum_is U2 ⟨#[61]⟩ (by show U2.size + 1 ≤ _; omega)
  have x3' : V3.size = U2.size + 1 := x3
  obtain ⟨V4, g4, x4, r4⟩ := sum_is V3 (⟨#[34, 34]⟩ : ByteArray) (by omega)
  obtain ⟨V5, g5, x5, r5⟩ := sum_is V4 ⟨#[32]⟩ (by show V4.size + 1 ≤ _; omega)
  have x5' : V5.size = V4.size + 1 := x5
  have hp : Parts ty su nm (⟨#[34, 34]⟩ : ByteArray) HD T5 U3 V5 := by
    refine ⟨?_, ?_, ?_, ?_, ?_⟩
    · rw [e2, e1]; simp
    · rw [e7, e6, e5, e4, e3, e2, e1]; simp
    · rw [f3, f2, f1, e2, e1]; simp
    · rw [g5, g4, g3, f2, f1, e2, e1]; simp
    · exact ⟨by omega, by omega, by omega, by omega⟩
  clear e1 e2 e3 e4 e5 e6 e7 f1 f2 f3 g3 g4 g5 z1 z2 z3 z4 z5 z6 z7 y1 y2 y3 x3 x4 x5 z1' z3' z5' z7' y1' y3' x3' x5'
  cases htt : Fd.token ty.data.toList with
  | false =>
    have HBR := hide (fun W => broken_any ty su W (by omega) (by omega))
    have HTT := hide (fun W => token_any ty W (by omega))
    have HTS := hide (fun W => token_any su W (by omega))
    have HM1 := hide (fun W (hW : Below W0.heap.size W0 W) => media_any T5 W (by have := hp.sz; omega) ea (HE.out W hW))
    have HNB : Hid (Broken ty.data.toList su.data.toList → medR T5.data.toList = none) := fun h => by rw [hp.t5]; exact broken_med h
    obtain ⟨sv, ev, hsv, hor⟩ : ∃ (sv : ByteArray) (ev : Value), medV T5.data.toList (X ea) = .tuple #[.string sv, ev] ∧ (medR T5.data.toList = none → sv = ⟨#[]⟩ ∧ ev = X ea) := by
      cases hm : medR T5.data.toList with
      | none => exact ⟨⟨#[]⟩, X ea, (by unfold medV; rw [hm]), fun _ => ⟨rfl, rfl⟩⟩
      | some t => exact ⟨⟨t.toArray⟩, .nilIface, (by unfold medV; rw [hm]), fun h => (by cases h)⟩
    rw [hsv] at HM1
    have HOR := hide hor
    clear hsv hor hp
    rw [htt] at HTT
    go_enter Tryd.func3, Tryd.ntmps3
    go_wp2_with fail
    rw [HW0.out]
    refine (HTN.out W0).mono ?_
    rintro x w1 ⟨rfl, hb1⟩
    have HB1 := hide hb1
    clear hb1
    have b0 := HX0.out w1 HB1.out
    have b1 := HX1.out w1 HB1.out
    have b2 := HX2.out w1 HB1.out
    have b3 := HX3.out w1 HB1.out
    go_wp2_with fail
    refine (HQW.out w1).mono ?_
    rintro x w2 ⟨rfl, hb2⟩
    have HBk := hide (keepD HB1.out hb2)
    clear hb2 b0 b1 b2 b3
    go_wp2_with fail
    refine (HM1.out _ HBk.out).mono ?_
    rintro x w5 ⟨rfl, hb5⟩
    have HB5 := hide (keepD HBk.out hb5)
    clear hb5
    have b0 := HX0.out w5 HB5.out
    go_wp2_with fail
    refine (HTT.out _).mono ?_
    rintro x w6 ⟨rfl, hb6⟩
    have HB6 := hide (keepD HB5.out hb6)
    clear hb6 b0
    have b0 := HX0.out w6 HB6.out
    have b1 := HX1.out w6 HB6.out
    go_wp2_with fail
    refine (HBR.out _).mono ?_
    rintro x w8 ⟨⟨tt, rfl, himp⟩, hb8⟩
    have HB8 := hide (keepD HB6.out hb8)
    clear hb8 b0 b1
    cases tt with
    | false =>
      go_wp2_with fail
      go_ret
      exact ⟨by simp, HBOX.out.trans (HB8.out.mono HBOX.out.size)⟩
    | true =>
      obtain ⟨rfl, rfl⟩ := HOR.out (HNB.out (himp rfl))
      have hx : w8.cell? ⟨0, 0, none⟩ = some (X ea) := HE.out w8 HB8.out
      have hq := err_eqlQ w8 ea
      go_wp2_with fail
      go_ret
      exact ⟨by simp, HBOX.out.trans (HB8.out.mono HBOX.out.size)⟩
  | true =>
    cases hts : Fd.token su.data.toList with
    | false =>
      have HBR := hide (fun W => broken_any ty su W (by omega) (by omega))
      have HTT := hide (fun W => token_any ty W (by omega))
      have HTS := hide (fun W => token_any su W (by omega))
      have HM1 := hide (fun W (hW : Below W0.heap.size W0 W) => media_any T5 W (by have := hp.sz; omega) ea (HE.out W hW))
      have HNB : Hid (Broken ty.data.toList su.data.toList → medR T5.data.toList = none) := fun h => by rw [hp.t5]; exact broken_med h
      obtain ⟨sv, ev, hsv, hor⟩ : ∃ (sv : ByteArray) (ev : Value), medV T5.data.toList (X ea) = .tuple #[.string sv, ev] ∧ (medR T5.data.toList = none → sv = ⟨#[]⟩ ∧ ev = X ea) := by
        cases hm : medR T5.data.toList with
        | none => exact ⟨⟨#[]⟩, X ea, (by unfold medV; rw [hm]), fun _ => ⟨rfl, rfl⟩⟩
        | some t => exact ⟨⟨t.toArray⟩, .nilIface, (by unfold medV; rw [hm]), fun h => (by cases h)⟩
      rw [hsv] at HM1
      have HOR := hide hor
      clear hsv hor hp
      rw [htt] at HTT
      rw [hts] at HTS
      go_enter Tryd.func3, Tryd.ntmps3
      go_wp2_with fail
      rw [HW0.out]
      refine (HTN.out W0).mono ?_
      rintro x w1 ⟨rfl, hb1⟩
      have HB1 := hide hb1
      clear hb1
      have b0 := HX0.out w1 HB1.out
      have b1 := HX1.out w1 HB1.out
      have b2 := HX2.out w1 HB1.out
      have b3 := HX3.out w1 HB1.out
      go_wp2_with fail
      refine (HQW.out w1).mono ?_
      rintro x w2 ⟨rfl, hb2⟩
      have HBk := hide (keepD HB1.out hb2)
      clear hb2 b0 b1 b2 b3
      go_wp2_with fail
      refine (HM1.out _ HBk.out).mono ?_
      rintro x w5 ⟨rfl, hb5⟩
      have HB5 := hide (keepD HBk.out hb5)
      clear hb5
      have b0 := HX0.out w5 HB5.out
      go_wp2_with fail
      refine (HTT.out _).mono ?_
      rintro x w6 ⟨rfl, hb6⟩
      have HB6 := hide (keepD HB5.out hb6)
      clear hb6 b0
      have b1 := HX1.out w6 HB6.out
      go_wp2_with fail
      refine (HTS.out _).mono ?_
      rintro x w7 ⟨rfl, hb7⟩
      have HB7 := hide (keepD HB6.out hb7)
      clear hb7 b1
      have b0 := HX0.out w7 HB7.out
      have b1 := HX1.out w7 HB7.out
      go_wp2_with fail
      refine (HBR.out _).mono ?_
      rintro x w8 ⟨⟨tt, rfl, himp⟩, hb8⟩
      have HB8 := hide (keepD HB7.out hb8)
      clear hb8 b0 b1
      cases tt with
      | false =>
        go_wp2_with fail
        go_ret
        exact ⟨by simp, HBOX.out.trans (HB8.out.mono HBOX.out.size)⟩
      | true =>
        obtain ⟨rfl, rfl⟩ := HOR.out (HNB.out (himp rfl))
        have hx : w8.cell? ⟨0, 0, none⟩ = some (X ea) := HE.out w8 HB8.out
        have hq := err_eqlQ w8 ea
        go_wp2_with fail
        go_ret
        exact ⟨by simp, HBOX.out.trans (HB8.out.mono HBOX.out.size)⟩
    | true =>
      have HM1 := hide (fun W (hW : Below W0.heap.size W0 W) => media_any T5 W (by have := hp.sz; omega) ea (HE.out W hW))
      rw [hp.t5, HNL.out, HQL.out, show medV (ty.data.toList ++ 47 :: (su.data.toList ++ ([32, 9, 59, 9, 32] ++ (NL ++ 61 :: (qTxt (qOf tx.data.toList) ++ [59]))))) (X ea) = .tuple #[S (Fd.lows (ty.data.toList ++ 47 :: su.data.toList)), .nilIface] from by unfold medV; rw [med_good htt hts HNTK.out (qOf_val _)]] at HM1
      have HLO := hide (fun W => lawLower_any HD W (by have := hp.sz; omega))
      rw [hp.hd] at HLO
      have HMA := hide (fun W (hW : Below W0.heap.size W0 W) => media_any (⟨(Fd.lows (ty.data.toList ++ 47 :: su.data.toList)).toArray⟩ : ByteArray) W (by rw [str_size]; unfold Fd.lows; rw [List.length_map, List.length_append, List.length_cons, len_list, len_list]; omega) ea (HE.out W hW))
      rw [show (⟨(Fd.lows (ty.data.toList ++ 47 :: su.data.toList)).toArray⟩ : ByteArray).data.toList = Fd.lows (ty.data.toList ++ 47 :: su.data.toList) from rfl, show medV (Fd.lows (ty.data.toList ++ 47 :: su.data.toList)) (X ea) = .tuple #[S (Fd.lows (ty.data.toList ++ 47 :: su.data.toList)), .nilIface] from by unfold medV; rw [med_again htt hts]] at HMA
      have HLN := hide (fun W => lawLower_any nm W (by omega))
      obtain ⟨LN, hLN⟩ : ∃ LN : ByteArray, LN = ⟨(Fd.lows nm.data.toList).toArray⟩ := ⟨_, rfl⟩
      rw [← hLN] at HLN
      have hLNs : LN.size = nm.size := by rw [hLN, str_size]; unfold Fd.lows; rw [List.length_map, len_list]
      obtain ⟨U4, hu4, hu4s, qu4⟩ := sum_is U3 LN (by have := hp.sz; omega)
      have HMU := hide (fun W (hW : Below W0.heap.size W0 W) => media_any U4 W (by have := hp.sz; omega) ea (HE.out W hW))
      have eu : U4.data.toList = ty.data.toList ++ 47 :: (su.data.toList ++ 59 :: (NL ++ 61 :: 34 :: Fd.lows NL)) := by
        rw [hu4, hp.u3, hLN, HNL.out]; simp
      have hlt : ∀ c ∈ Fd.lows (NL), Fd.tok c = true := (token_facts (token_low HNTK.out)).2
      rw [eu, show medV (ty.data.toList ++ 47 :: (su.data.toList ++ 59 :: (NL ++ 61 :: 34 :: Fd.lows NL))) (X ea) = .tuple #[.string ⟨#[]⟩, X ea] from by unfold medV; rw [med_open htt hts HNTK.out hlt]] at HMU
      have HMV := hide (fun W (hW : Below W0.heap.size W0 W) => media_any V5 W (by have := hp.sz; omega) ea (HE.out W hW))
      rw [hp.v5, HNL.out, HQL.out, show medV (ty.data.toList ++ 47 :: (su.data.toList ++ 59 :: (NL ++ 61 :: (qTxt (qOf tx.data.toList) ++ [32])))) (X ea) = .tuple #[.string ⟨#[]⟩, X ea] from by unfold medV; rw [med_white htt hts HNTK.out (qOf_val _)]] at HMV
      have HTT := hide (fun W => token_any ty W (by omega))
      have HTS := hide (fun W => token_any su W (by omega))
      rw [htt] at HTT
      rw [hts] at HTS
      clear hp eu hlt hu4 hLN
      generalize Fd.lows (ty.data.toList ++ 47 :: su.data.toList) = L at *
      go_enter Tryd.func3, Tryd.ntmps3
      go_wp2_with fail
      rw [HW0.out]
      refine (HTN.out W0).mono ?_
      rintro x w1 ⟨rfl, hb1⟩
      have HB1 := hide hb1
      clear hb1
      have b0 := HX0.out w1 HB1.out
      have b1 := HX1.out w1 HB1.out
      have b2 := HX2.out w1 HB1.out
      have b3 := HX3.out w1 HB1.out
      go_wp2_with fail
      refine (HQW.out w1).mono ?_
      rintro x w2 ⟨rfl, hb2⟩
      have HBk := hide (keepD HB1.out hb2)
      clear hb2 b0 b1 b2 b3
      go_wp2_with fail
      refine (HM1.out _ HBk.out).mono ?_
      rintro x w5 ⟨rfl, hb5⟩
      have HB5 := hide (keepD HBk.out hb5)
      clear hb5
      have b0 := HX0.out w5 HB5.out
      go_wp2_with fail
      refine (HTT.out _).mono ?_
      rintro x w6 ⟨rfl, hb6⟩
      have HB6 := hide (keepD HB5.out hb6)
      clear hb6 b0
      have b1 := HX1.out w6 HB6.out
      go_wp2_with fail
      refine (HTS.out _).mono ?_
      rintro x w7 ⟨rfl, hb7⟩
      have HB7 := hide (keepD HB6.out hb7)
      clear hb7 b1
      go_wp2_with fail
      refine (HLO.out _).mono ?_
      rintro x w8 ⟨rfl, hb8⟩
      have HB8 := hide (keepD HB7.out hb8)
      clear hb8
      go_wp2_with fail
      refine (HMA.out _ HB8.out).mono ?_
      rintro x w9 ⟨rfl, hb9⟩
      have HB9 := hide (keepD HB8.out hb9)
      clear hb9
      go_wp2_with fail
      refine (HLN.out _).mono ?_
      rintro x w10 ⟨rfl, hb10⟩
      have HB10 := hide (keepD HB9.out hb10)
      clear hb10
      go_wp2_with fail
      refine (HMU.out _ HB10.out).mono ?_
      rintro x w11 ⟨rfl, hb11⟩
      have HB11 := hide (keepD HB10.out hb11)
      clear hb11
      go_wp2_with fail
      refine (HMV.out _ HB11.out).mono ?_
      rintro x w12 ⟨rfl, hb12⟩
      have HB12 := hide (keepD HB11.out hb12)
      clear hb12
      have hx : w12.cell? ⟨0, 0, none⟩ = some (X ea) := HE.out w12 HB12.out
      have hq := err_eqlQ w12 ea
      go_wp2_with fail
      go_ret
      exact ⟨by simp, HBOX.out.trans (HB12.out.mono HBOX.out.size)⟩

set_option maxRecDepth 100000 in
set_option maxHeartbeats 12800000 in
theorem mq_ft (ty su nm tx : ByteArray) (w : World) (hs : ty.size + su.size + nm.size + tx.size ≤ 1048576) (ea : Addr) (he : Ev 0 w (X ea)) (htn : Fd.token nm.data.toList = false) (hall : tx.data.toList.all Fd.val = true) :
    Calls Tryd.prog 3 #[.agg #[.string ty, .string su, .string nm, .string tx]] w fun x w' => x = .returned (.bool true) ∧ Below w.heap.size w w' := by
  obtain ⟨hx0, hx1, hx2, hx3, hbox⟩ := box4Q w (.string ty) (.string su) (.string nm) (.string tx) 23
  obtain ⟨W0, hW0⟩ : ∃ W0 : World, w.alloc (.cells #[.string ty, .string su, .string nm, .string tx] 23) = W0 := ⟨_, rfl⟩
  rw [hW0] at hx0 hx1 hx2 hx3 hbox
  have HX0 := hide hx0
  have HX1 := hide hx1
  have HX2 := hide hx2
  have HX3 := hide hx3
  have HBOX := hide hbox
  have HE : Hid (∀ W, Below W0.heap.size W0 W → Ev 0 W (X ea)) := fun W hW => (he.below hbox).below hW
  have HW0 := hide hW0
  have a2 := hx2 W0 (Below.refl _ _)
  rw [← hW0] at a2
  clear hx0 hx1 hx2 hx3 hbox he hW0
  have HTN := hide (fun W => token_any nm W (by omega))
  have HQW := hide (fun W => lawQuoted_any tx W (by omega))
  obtain ⟨NL, hNL⟩ : ∃ NL, (⟨#[97]⟩ : ByteArray).data.toList = NL := ⟨_, rfl⟩
  have HNL := hide hNL
  have HNTK : Hid (Fd.token NL = true) := by show _ = _; rw [← hNL]; decide
  clear hNL
  have hn1 : (⟨#[97]⟩ : ByteArray).size = 1 := rfl
  obtain ⟨Q, hQ⟩ : ∃ Q : ByteArray, Q = ⟨(qTxt tx.data.toList).toArray⟩ := ⟨_, rfl⟩
  have HQL : Hid (Q.data.toList = qTxt (qOf tx.data.toList)) := by show _ = _; rw [hQ]; unfold qOf; rw [if_pos hall]
  have hQs : Q.size ≤ 2097154 := by
    rw [hQ, str_size]
    have h1 := qOf_len tx.data.toList
    unfold qOf at h1
    rw [if_pos hall, len_list] at h1
    omega
  rw [hall, if_pos rfl, show S (qTxt tx.data.toList) = .string Q from by rw [hQ]] at HQW
  clear hQ hall
  rw [htn] at HTN
  clear htn
  obtain ⟨A1, e1, z1, q1⟩ := sum_is ty ⟨#[47]⟩ (by show ty.size + 1 ≤ _; omega)
  have z1' : A1.size = ty.size + 1 := z1
  obtain ⟨HD, e2, z2, q2⟩ := sum_is A1 su (by omega)
  obtain ⟨T1, e3, z3, q3⟩ := sum_is HD ⟨#[32, 9, 59, 9, 32]⟩ (by show HD.size + 5 ≤ _; omega)
  have z3' : T1.size = HD.size + 5 := z3
  obtain ⟨T2, e4, z4, q4⟩ := sum_is T1 (⟨#[97]⟩ : ByteArray) (by omega)
  obtain ⟨T3, e5, z5, q5⟩ := sum_is T2 ⟨#[61]⟩ (by show T2.size + 1 ≤ _; omega)
  have z5' : T3.size = T2.size + 1 := z5
  obtain ⟨T4, e6, z6, q6⟩ := sum_is T3 Q (by omega)
  obtain ⟨T5, e7, z7, q7⟩ := sum_is T4 ⟨#[59]⟩ (by show T4.size + 1 ≤ _; omega)
  have z7' : T5.size = T4.size + 1 := z7
  obtain ⟨U1, f1, y1, p1⟩ := sum_is HD ⟨#[59]⟩ (by show HD.size + 1 ≤ _; omega)
  have y1' : U1.size = HD.size + 1 := y1
  obtain ⟨U2, f2, y2, p2⟩ := sum_is U1 (⟨#[97]⟩ : ByteArray) (by omega)
  obtain ⟨U3, f3, y3, p3⟩ := sum_is U2 ⟨#[61, 34]⟩ (by show U2.size + 2 ≤ _; omega)
  have y3' : U3.size = U2.size + 2 := y3
  obtain ⟨V3, g3, x3, r3⟩ := sum_is U2 ⟨#[61]⟩ (by show U2.size + 1 ≤ _; omega)
  have x3' : V3.size = U2.size + 1 := x3
  obtain ⟨V4, g4, x4, r4⟩ := sum_is V3 Q (by omega)
  obtain ⟨V5, g5, x5, r5⟩ := sum_is V4 ⟨#[32]⟩ (by show V4.size + 1 ≤ _; omega)
  have x5' : V5.size = V4.size + 1 := x5
  have hp : Parts ty su (⟨#[97]⟩ : ByteArray) Q HD T5 U3 V5 := by
    refine ⟨?_, ?_, ?_, ?_, ?_⟩
    · rw [e2, e1]; simp
    · rw [e7, e6, e5, e4, e3, e2, e1]; simp
    · rw [f3, f2, f1, e2, e1]; simp
    · rw [g5, g4, g3, f2, f1, e2, e1]; simp
    · exact ⟨by omega, by omega, by omega, by omega⟩
  clear e1 e2 e3 e4 e5 e6 e7 f1 f2 f3 g3 g4 g5 z1 z2 z3 z4 z5 z6 z7 y1 y2 y3 x3 x4 x5 z1' z3' z5' z7' y1' y3' x3' x5'
  cases htt : Fd.token ty.data.toList with
  | false =>
    have HBR := hide (fun W => broken_any ty su W (by omega) (by omega))
    have HTT := hide (fun W => token_any ty W (by omega))
    have HTS := hide (fun W => token_any su W (by omega))
    have HM1 := hide (fun W (hW : Below W0.heap.size W0 W) => media_any T5 W (by have := hp.sz; omega) ea (HE.out W hW))
    have HNB : Hid (Broken ty.data.toList su.data.toList → medR T5.data.toList = none) := fun h => by rw [hp.t5]; exact broken_med h
    obtain ⟨sv, ev, hsv, hor⟩ : ∃ (sv : ByteArray) (ev : Value), medV T5.data.toList (X ea) = .tuple #[.string sv, ev] ∧ (medR T5.data.toList = none → sv = ⟨#[]⟩ ∧ ev = X ea) := by
      cases hm : medR T5.data.toList with
      | none => exact ⟨⟨#[]⟩, X ea, (by unfold medV; rw [hm]), fun _ => ⟨rfl, rfl⟩⟩
      | some t => exact ⟨⟨t.toArray⟩, .nilIface, (by unfold medV; rw [hm]), fun h => (by cases h)⟩
    rw [hsv] at HM1
    have HOR := hide hor
    clear hsv hor hp
    rw [htt] at HTT
    go_enter Tryd.func3, Tryd.ntmps3
    go_wp2_with fail
    rw [HW0.out]
    refine (HTN.out W0).mono ?_
    rintro x w1 ⟨rfl, hb1⟩
    have HB1 := hide hb1
    clear hb1
    have b0 := HX0.out w1 HB1.out
    have b1 := HX1.out w1 HB1.out
    have b2 := HX2.out w1 HB1.out
    have b3 := HX3.out w1 HB1.out
    go_wp2_with fail
    refine (HQW.out w1).mono ?_
    rintro x w2 ⟨rfl, hb2⟩
    have HBk := hide (keepD HB1.out hb2)
    clear hb2 b0 b1 b2 b3
    go_wp2_with fail
    refine (HM1.out _ HBk.out).mono ?_
    rintro x w5 ⟨rfl, hb5⟩
    have HB5 := hide (keepD HBk.out hb5)
    clear hb5
    have b0 := HX0.out w5 HB5.out
    go_wp2_with fail
    refine (HTT.out _).mono ?_
    rintro x w6 ⟨rfl, hb6⟩
    have HB6 := hide (keepD HB5.out hb6)
    clear hb6 b0
    have b0 := HX0.out w6 HB6.out
    have b1 := HX1.out w6 HB6.out
    go_wp2_with fail
    refine (HBR.out _).mono ?_
    rintro x w8 ⟨⟨tt, rfl, himp⟩, hb8⟩
    have HB8 := hide (keepD HB6.out hb8)
    clear hb8 b0 b1
    cases tt with
    | false =>
      go_wp2_with fail
      go_ret
      exact ⟨by simp, HBOX.out.trans (HB8.out.mono HBOX.out.size)⟩
    | true =>
      obtain ⟨rfl, rfl⟩ := HOR.out (HNB.out (himp rfl))
      have hx : w8.cell? ⟨0, 0, none⟩ = some (X ea) := HE.out w8 HB8.out
      have hq := err_eqlQ w8 ea
      go_wp2_with fail
      go_ret
      exact ⟨by simp, HBOX.out.trans (HB8.out.mono HBOX.out.size)⟩
  | true =>
    cases hts : Fd.token su.data.toList with
    | false =>
      have HBR := hide (fun W => broken_any ty su W (by omega) (by omega))
      have HTT := hide (fun W => token_any ty W (by omega))
      have HTS := hide (fun W => token_any su W (by omega))
      have HM1 := hide (fun W (hW : Below W0.heap.size W0 W) => media_any T5 W (by have := hp.sz; omega) ea (HE.out W hW))
      have HNB : Hid (Broken ty.data.toList su.data.toList → medR T5.data.toList = none) := fun h => by rw [hp.t5]; exact broken_med h
      obtain ⟨sv, ev, hsv, hor⟩ : ∃ (sv : ByteArray) (ev : Value), medV T5.data.toList (X ea) = .tuple #[.string sv, ev] ∧ (medR T5.data.toList = none → sv = ⟨#[]⟩ ∧ ev = X ea) := by
        cases hm : medR T5.data.toList with
        | none => exact ⟨⟨#[]⟩, X ea, (by unfold medV; rw [hm]), fun _ => ⟨rfl, rfl⟩⟩
        | some t => exact ⟨⟨t.toArray⟩, .nilIface, (by unfold medV; rw [hm]), fun h => (by cases h)⟩
      rw [hsv] at HM1
      have HOR := hide hor
      clear hsv hor hp
      rw [htt] at HTT
      rw [hts] at HTS
      go_enter Tryd.func3, Tryd.ntmps3
      go_wp2_with fail
      rw [HW0.out]
      refine (HTN.out W0).mono ?_
      rintro x w1 ⟨rfl, hb1⟩
      have HB1 := hide hb1
      clear hb1
      have b0 := HX0.out w1 HB1.out
      have b1 := HX1.out w1 HB1.out
      have b2 := HX2.out w1 HB1.out
      have b3 := HX3.out w1 HB1.out
      go_wp2_with fail
      refine (HQW.out w1).mono ?_
      rintro x w2 ⟨rfl, hb2⟩
      have HBk := hide (keepD HB1.out hb2)
      clear hb2 b0 b1 b2 b3
      go_wp2_with fail
      refine (HM1.out _ HBk.out).mono ?_
      rintro x w5 ⟨rfl, hb5⟩
      have HB5 := hide (keepD HBk.out hb5)
      clear hb5
      have b0 := HX0.out w5 HB5.out
      go_wp2_with fail
      refine (HTT.out _).mono ?_
      rintro x w6 ⟨rfl, hb6⟩
      have HB6 := hide (keepD HB5.out hb6)
      clear hb6 b0
      have b1 := HX1.out w6 HB6.out
      go_wp2_with fail
      refine (HTS.out _).mono ?_
      rintro x w7 ⟨rfl, hb7⟩
      have HB7 := hide (keepD HB6.out hb7)
      clear hb7 b1
      have b0 := HX0.out w7 HB7.out
      have b1 := HX1.out w7 HB7.out
      go_wp2_with fail
      refine (HBR.out _).mono ?_
      rintro x w8 ⟨⟨tt, rfl, himp⟩, hb8⟩
      have HB8 := hide (keepD HB7.out hb8)
      clear hb8 b0 b1
      cases tt with
      | false =>
        go_wp2_with fail
        go_ret
        exact ⟨by simp, HBOX.out.trans (HB8.out.mono HBOX.out.size)⟩
      | true =>
        obtain ⟨rfl, rfl⟩ := HOR.out (HNB.out (himp rfl))
        have hx : w8.cell? ⟨0, 0, none⟩ = some (X ea) := HE.out w8 HB8.out
        have hq := err_eqlQ w8 ea
        go_wp2_with fail
        go_ret
        exact ⟨by simp, HBOX.out.trans (HB8.out.mono HBOX.out.size)⟩
    | true =>
      have HM1 := hide (fun W (hW : Below W0.heap.size W0 W) => media_any T5 W (by have := hp.sz; omega) ea (HE.out W hW))
      rw [hp.t5, HNL.out, HQL.out, show medV (ty.data.toList ++ 47 :: (su.data.toList ++ ([32, 9, 59, 9, 32] ++ (NL ++ 61 :: (qTxt (qOf tx.data.toList) ++ [59]))))) (X ea) = .tuple #[S (Fd.lows (ty.data.toList ++ 47 :: su.data.toList)), .nilIface] from by unfold medV; rw [med_good htt hts HNTK.out (qOf_val _)]] at HM1
      have HLO := hide (fun W => lawLower_any HD W (by have := hp.sz; omega))
      rw [hp.hd] at HLO
      have HMA := hide (fun W (hW : Below W0.heap.size W0 W) => media_any (⟨(Fd.lows (ty.data.toList ++ 47 :: su.data.toList)).toArray⟩ : ByteArray) W (by rw [str_size]; unfold Fd.lows; rw [List.length_map, List.length_append, List.length_cons, len_list, len_list]; omega) ea (HE.out W hW))
      rw [show (⟨(Fd.lows (ty.data.toList ++ 47 :: su.data.toList)).toArray⟩ : ByteArray).data.toList = Fd.lows (ty.data.toList ++ 47 :: su.data.toList) from rfl, show medV (Fd.lows (ty.data.toList ++ 47 :: su.data.toList)) (X ea) = .tuple #[S (Fd.lows (ty.data.toList ++ 47 :: su.data.toList)), .nilIface] from by unfold medV; rw [med_again htt hts]] at HMA
      have HLN := hide (fun W => lawLower_any (⟨#[97]⟩ : ByteArray) W (by omega))
      obtain ⟨LN, hLN⟩ : ∃ LN : ByteArray, LN = ⟨(Fd.lows (⟨#[97]⟩ : ByteArray).data.toList).toArray⟩ := ⟨_, rfl⟩
      rw [← hLN] at HLN
      have hLNs : LN.size = (⟨#[97]⟩ : ByteArray).size := by rw [hLN, str_size]; unfold Fd.lows; rw [List.length_map, len_list]
      obtain ⟨U4, hu4, hu4s, qu4⟩ := sum_is U3 LN (by have := hp.sz; omega)
      have HMU := hide (fun W (hW : Below W0.heap.size W0 W) => media_any U4 W (by have := hp.sz; omega) ea (HE.out W hW))
      have eu : U4.data.toList = ty.data.toList ++ 47 :: (su.data.toList ++ 59 :: (NL ++ 61 :: 34 :: Fd.lows NL)) := by
        rw [hu4, hp.u3, hLN, HNL.out]; simp
      have hlt : ∀ c ∈ Fd.lows (NL), Fd.tok c = true := (token_facts (token_low HNTK.out)).2
      rw [eu, show medV (ty.data.toList ++ 47 :: (su.data.toList ++ 59 :: (NL ++ 61 :: 34 :: Fd.lows NL))) (X ea) = .tuple #[.string ⟨#[]⟩, X ea] from by unfold medV; rw [med_open htt hts HNTK.out hlt]] at HMU
      have HMV := hide (fun W (hW : Below W0.heap.size W0 W) => media_any V5 W (by have := hp.sz; omega) ea (HE.out W hW))
      rw [hp.v5, HNL.out, HQL.out, show medV (ty.data.toList ++ 47 :: (su.data.toList ++ 59 :: (NL ++ 61 :: (qTxt (qOf tx.data.toList) ++ [32])))) (X ea) = .tuple #[.string ⟨#[]⟩, X ea] from by unfold medV; rw [med_white htt hts HNTK.out (qOf_val _)]] at HMV
      have HTT := hide (fun W => token_any ty W (by omega))
      have HTS := hide (fun W => token_any su W (by omega))
      rw [htt] at HTT
      rw [hts] at HTS
      clear hp eu hlt hu4 hLN
      generalize Fd.lows (ty.data.toList ++ 47 :: su.data.toList) = L at *
      go_enter Tryd.func3, Tryd.ntmps3
      go_wp2_with fail
      rw [HW0.out]
      refine (HTN.out W0).mono ?_
      rintro x w1 ⟨rfl, hb1⟩
      have HB1 := hide hb1
      clear hb1
      have b0 := HX0.out w1 HB1.out
      have b1 := HX1.out w1 HB1.out
      have b2 := HX2.out w1 HB1.out
      have b3 := HX3.out w1 HB1.out
      go_wp2_with fail
      refine (HQW.out w1).mono ?_
      rintro x w2 ⟨rfl, hb2⟩
      have HBk := hide (keepD HB1.out hb2)
      clear hb2 b0 b1 b2 b3
      go_wp2_with fail
      refine (HM1.out _ HBk.out).mono ?_
      rintro x w5 ⟨rfl, hb5⟩
      have HB5 := hide (keepD HBk.out hb5)
      clear hb5
      have b0 := HX0.out w5 HB5.out
      go_wp2_with fail
      refine (HTT.out _).mono ?_
      rintro x w6 ⟨rfl, hb6⟩
      have HB6 := hide (keepD HB5.out hb6)
      clear hb6 b0
      have b1 := HX1.out w6 HB6.out
      go_wp2_with fail
      refine (HTS.out _).mono ?_
      rintro x w7 ⟨rfl, hb7⟩
      have HB7 := hide (keepD HB6.out hb7)
      clear hb7 b1
      go_wp2_with fail
      refine (HLO.out _).mono ?_
      rintro x w8 ⟨rfl, hb8⟩
      have HB8 := hide (keepD HB7.out hb8)
      clear hb8
      go_wp2_with fail
      refine (HMA.out _ HB8.out).mono ?_
      rintro x w9 ⟨rfl, hb9⟩
      have HB9 := hide (keepD HB8.out hb9)
      clear hb9
      go_wp2_with fail
      refine (HLN.out _).mono ?_
      rintro x w10 ⟨rfl, hb10⟩
      have HB10 := hide (keepD HB9.out hb10)
      clear hb10
      go_wp2_with fail
      refine (HMU.out _ HB10.out).mono ?_
      rintro x w11 ⟨rfl, hb11⟩
      have HB11 := hide (keepD HB10.out hb11)
      clear hb11
      go_wp2_with fail
      refine (HMV.out _ HB11.out).mono ?_
      rintro x w12 ⟨rfl, hb12⟩
      have HB12 := hide (keepD HB11.out hb12)
      clear hb12
      have hx : w12.cell? ⟨0, 0, none⟩ = some (X ea) := HE.out w12 HB12.out
      have hq := err_eqlQ w12 ea
      go_wp2_with fail
      go_ret
      exact ⟨by simp, HBOX.out.trans (HB12.out.mono HBOX.out.size)⟩

set_option maxRecDepth 100000 in
set_option maxHeartbeats 12800000 in
theorem mq_ff (ty su nm tx : ByteArray) (w : World) (hs : ty.size + su.size + nm.size + tx.size ≤ 1048576) (ea : Addr) (he : Ev 0 w (X ea)) (htn : Fd.token nm.data.toList = false) (hall : tx.data.toList.all Fd.val = false) :
    Calls Tryd.prog 3 #[.agg #[.string ty, .string su, .string nm, .string tx]] w fun x w' => x = .returned (.bool true) ∧ Below w.heap.size w w' := by
  obtain ⟨hx0, hx1, hx2, hx3, hbox⟩ := box4Q w (.string ty) (.string su) (.string nm) (.string tx) 23
  obtain ⟨W0, hW0⟩ : ∃ W0 : World, w.alloc (.cells #[.string ty, .string su, .string nm, .string tx] 23) = W0 := ⟨_, rfl⟩
  rw [hW0] at hx0 hx1 hx2 hx3 hbox
  have HX0 := hide hx0
  have HX1 := hide hx1
  have HX2 := hide hx2
  have HX3 := hide hx3
  have HBOX := hide hbox
  have HE : Hid (∀ W, Below W0.heap.size W0 W → Ev 0 W (X ea)) := fun W hW => (he.below hbox).below hW
  have HW0 := hide hW0
  have a2 := hx2 W0 (Below.refl _ _)
  rw [← hW0] at a2
  clear hx0 hx1 hx2 hx3 hbox he hW0
  have HTN := hide (fun W => token_any nm W (by omega))
  have HQW := hide (fun W => lawQuoted_any tx W (by omega))
  obtain ⟨NL, hNL⟩ : ∃ NL, (⟨#[97]⟩ : ByteArray).data.toList = NL := ⟨_, rfl⟩
  have HNL := hide hNL
  have HNTK : Hid (Fd.token NL = true) := by show _ = _; rw [← hNL]; decide
  clear hNL
  have hn1 : (⟨#[97]⟩ : ByteArray).size = 1 := rfl
  have HQL : Hid ((⟨#[34, 34]⟩ : ByteArray).data.toList = qTxt (qOf tx.data.toList)) := by show _ = _; unfold qOf; rw [if_neg (by rw [hall]; decide)]; rfl
  have hQs : (⟨#[34, 34]⟩ : ByteArray).size = 2 := rfl
  rw [hall, if_neg (by decide)] at HQW
  clear hall
  rw [htn] at HTN
  clear htn
  obtain ⟨A1, e1, z1, q1⟩ := sum_is ty ⟨#[47]⟩ (by show ty.size + 1 ≤ _; omega)
  have z1' : A1.size = ty.size + 1 := z1
  obtain ⟨HD, e2, z2, q2⟩ := sum_is A1 su (by omega)
  obtain ⟨T1, e3, z3, q3⟩ := sum_is HD ⟨#[32, 9, 59, 9, 32]⟩ (by show HD.size + 5 ≤ _; omega)
  have z3' : T1.size = HD.size + 5 := z3
  obtain ⟨T2, e4, z4, q4⟩ := sum_is T1 (⟨#[97]⟩ : ByteArray) (by omega)
  obtain ⟨T3, e5, z5, q5⟩ := sum_is T2 ⟨#[61]⟩ (by show T2.size + 1 ≤ _; omega)
  have z5' : T3.size = T2.size + 1 := z5
  obtain ⟨T4, e6, z6, q6⟩ := sum_is T3 (⟨#[34, 34]⟩ : ByteArray) (by omega)
  obtain ⟨T5, e7, z7, q7⟩ := sum_is T4 ⟨#[59]⟩ (by show T4.size + 1 ≤ _; omega)
  have z7' : T5.size = T4.size + 1 := z7
  obtain ⟨U1, f1, y1, p1⟩ := sum_is HD ⟨#[59]⟩ (by show HD.size + 1 ≤ _; omega)
  have y1' : U1.size = HD.size + 1 := y1
  obtain ⟨U2, f2, y2, p2⟩ := sum_is U1 (⟨#[97]⟩ : ByteArray) (by omega)
  obtain ⟨U3, f3, y3, p3⟩ := sum_is U2 ⟨#[61, 34]⟩ (by show U2.size + 2 ≤ _; omega)
  have y3' : U3.size = U2.size + 2 := y3
  obtain ⟨V3, g3, x3, r3⟩ := sum_is U2 ⟨#[61]⟩ (by show U2.size + 1 ≤ _; omega)
  have x3' : V3.size = U2.size + 1 := x3
  obtain ⟨V4, g4, x4, r4⟩ := sum_is V3 (⟨#[34, 34]⟩ : ByteArray) (by omega)
  obtain ⟨V5, g5, x5, r5⟩ := sum_is V4 ⟨#[32]⟩ (by show V4.size + 1 ≤ _; omega)
  have x5' : V5.size = V4.size + 1 := x5
  have hp : Parts ty su (⟨#[97]⟩ : ByteArray) (⟨#[34, 34]⟩ : ByteArray) HD T5 U3 V5 := by
    refine ⟨?_, ?_, ?_, ?_, ?_⟩
    · rw [e2, e1]; simp
    · rw [e7, e6, e5, e4, e3, e2, e1]; simp
    · rw [f3, f2, f1, e2, e1]; simp
    · rw [g5, g4, g3, f2, f1, e2, e1]; simp
    · exact ⟨by omega, by omega, by omega, by omega⟩
  clear e1 e2 e3 e4 e5 e6 e7 f1 f2 f3 g3 g4 g5 z1 z2 z3 z4 z5 z6 z7 y1 y2 y3 x3 x4 x5 z1' z3' z5' z7' y1' y3' x3' x5'
  cases htt : Fd.token ty.data.toList with
  | false =>
    have HBR := hide (fun W => broken_any ty su W (by omega) (by omega))
    have HTT := hide (fun W => token_any ty W (by omega))
    have HTS := hide (fun W => token_any su W (by omega))
    have HM1 := hide (fun W (hW : Below W0.heap.size W0 W) => media_any T5 W (by have := hp.sz; omega) ea (HE.out W hW))
    have HNB : Hid (Broken ty.data.toList su.data.toList → medR T5.data.toList = none) := fun h => by rw [hp.t5]; exact broken_med h
    obtain ⟨sv, ev, hsv, hor⟩ : ∃ (sv : ByteArray) (ev : Value), medV T5.data.toList (X ea) = .tuple #[.string sv, ev] ∧ (medR T5.data.toList = none → sv = ⟨#[]⟩ ∧ ev = X ea) := by
      cases hm : medR T5.data.toList with
      | none => exact ⟨⟨#[]⟩, X ea, (by unfold medV; rw [hm]), fun _ => ⟨rfl, rfl⟩⟩
      | some t => exact ⟨⟨t.toArray⟩, .nilIface, (by unfold medV; rw [hm]), fun h => (by cases h)⟩
    rw [hsv] at HM1
    have HOR := hide hor
    clear hsv hor hp
    rw [htt] at HTT
    go_enter Tryd.func3, Tryd.ntmps3
    go_wp2_with fail
    rw [HW0.out]
    refine (HTN.out W0).mono ?_
    rintro x w1 ⟨rfl, hb1⟩
    have HB1 := hide hb1
    clear hb1
    have b0 := HX0.out w1 HB1.out
    have b1 := HX1.out w1 HB1.out
    have b2 := HX2.out w1 HB1.out
    have b3 := HX3.out w1 HB1.out
    go_wp2_with fail
    refine (HQW.out w1).mono ?_
    rintro x w2 ⟨rfl, hb2⟩
    have HBk := hide (keepD HB1.out hb2)
    clear hb2 b0 b1 b2 b3
    go_wp2_with fail
    refine (HM1.out _ HBk.out).mono ?_
    rintro x w5 ⟨rfl, hb5⟩
    have HB5 := hide (keepD HBk.out hb5)
    clear hb5
    have b0 := HX0.out w5 HB5.out
    go_wp2_with fail
    refine (HTT.out _).mono ?_
    rintro x w6 ⟨rfl, hb6⟩
    have HB6 := hide (keepD HB5.out hb6)
    clear hb6 b0
    have b0 := HX0.out w6 HB6.out
    have b1 := HX1.out w6 HB6.out
    go_wp2_with fail
    refine (HBR.out _).mono ?_
    rintro x w8 ⟨⟨tt, rfl, himp⟩, hb8⟩
    have HB8 := hide (keepD HB6.out hb8)
    clear hb8 b0 b1
    cases tt with
    | false =>
      go_wp2_with fail
      go_ret
      exact ⟨by simp, HBOX.out.trans (HB8.out.mono HBOX.out.size)⟩
    | true =>
      obtain ⟨rfl, rfl⟩ := HOR.out (HNB.out (himp rfl))
      have hx : w8.cell? ⟨0, 0, none⟩ = some (X ea) := HE.out w8 HB8.out
      have hq := err_eqlQ w8 ea
      go_wp2_with fail
      go_ret
      exact ⟨by simp, HBOX.out.trans (HB8.out.mono HBOX.out.size)⟩
  | true =>
    cases hts : Fd.token su.data.toList with
    | false =>
      have HBR := hide (fun W => broken_any ty su W (by omega) (by omega))
      have HTT := hide (fun W => token_any ty W (by omega))
      have HTS := hide (fun W => token_any su W (by omega))
      have HM1 := hide (fun W (hW : Below W0.heap.size W0 W) => media_any T5 W (by have := hp.sz; omega) ea (HE.out W hW))
      have HNB : Hid (Broken ty.data.toList su.data.toList → medR T5.data.toList = none) := fun h => by rw [hp.t5]; exact broken_med h
      obtain ⟨sv, ev, hsv, hor⟩ : ∃ (sv : ByteArray) (ev : Value), medV T5.data.toList (X ea) = .tuple #[.string sv, ev] ∧ (medR T5.data.toList = none → sv = ⟨#[]⟩ ∧ ev = X ea) := by
        cases hm : medR T5.data.toList with
        | none => exact ⟨⟨#[]⟩, X ea, (by unfold medV; rw [hm]), fun _ => ⟨rfl, rfl⟩⟩
        | some t => exact ⟨⟨t.toArray⟩, .nilIface, (by unfold medV; rw [hm]), fun h => (by cases h)⟩
      rw [hsv] at HM1
      have HOR := hide hor
      clear hsv hor hp
      rw [htt] at HTT
      rw [hts] at HTS
      go_enter Tryd.func3, Tryd.ntmps3
      go_wp2_with fail
      rw [HW0.out]
      refine (HTN.out W0).mono ?_
      rintro x w1 ⟨rfl, hb1⟩
      have HB1 := hide hb1
      clear hb1
      have b0 := HX0.out w1 HB1.out
      have b1 := HX1.out w1 HB1.out
      have b2 := HX2.out w1 HB1.out
      have b3 := HX3.out w1 HB1.out
      go_wp2_with fail
      refine (HQW.out w1).mono ?_
      rintro x w2 ⟨rfl, hb2⟩
      have HBk := hide (keepD HB1.out hb2)
      clear hb2 b0 b1 b2 b3
      go_wp2_with fail
      refine (HM1.out _ HBk.out).mono ?_
      rintro x w5 ⟨rfl, hb5⟩
      have HB5 := hide (keepD HBk.out hb5)
      clear hb5
      have b0 := HX0.out w5 HB5.out
      go_wp2_with fail
      refine (HTT.out _).mono ?_
      rintro x w6 ⟨rfl, hb6⟩
      have HB6 := hide (keepD HB5.out hb6)
      clear hb6 b0
      have b1 := HX1.out w6 HB6.out
      go_wp2_with fail
      refine (HTS.out _).mono ?_
      rintro x w7 ⟨rfl, hb7⟩
      have HB7 := hide (keepD HB6.out hb7)
      clear hb7 b1
      have b0 := HX0.out w7 HB7.out
      have b1 := HX1.out w7 HB7.out
      go_wp2_with fail
      refine (HBR.out _).mono ?_
      rintro x w8 ⟨⟨tt, rfl, himp⟩, hb8⟩
      have HB8 := hide (keepD HB7.out hb8)
      clear hb8 b0 b1
      cases tt with
      | false =>
        go_wp2_with fail
        go_ret
        exact ⟨by simp, HBOX.out.trans (HB8.out.mono HBOX.out.size)⟩
      | true =>
        obtain ⟨rfl, rfl⟩ := HOR.out (HNB.out (himp rfl))
        have hx : w8.cell? ⟨0, 0, none⟩ = some (X ea) := HE.out w8 HB8.out
        have hq := err_eqlQ w8 ea
        go_wp2_with fail
        go_ret
        exact ⟨by simp, HBOX.out.trans (HB8.out.mono HBOX.out.size)⟩
    | true =>
      have HM1 := hide (fun W (hW : Below W0.heap.size W0 W) => media_any T5 W (by have := hp.sz; omega) ea (HE.out W hW))
      rw [hp.t5, HNL.out, HQL.out, show medV (ty.data.toList ++ 47 :: (su.data.toList ++ ([32, 9, 59, 9, 32] ++ (NL ++ 61 :: (qTxt (qOf tx.data.toList) ++ [59]))))) (X ea) = .tuple #[S (Fd.lows (ty.data.toList ++ 47 :: su.data.toList)), .nilIface] from by unfold medV; rw [med_good htt hts HNTK.out (qOf_val _)]] at HM1
      have HLO := hide (fun W => lawLower_any HD W (by have := hp.sz; omega))
      rw [hp.hd] at HLO
      have HMA := hide (fun W (hW : Below W0.heap.size W0 W) => media_any (⟨(Fd.lows (ty.data.toList ++ 47 :: su.data.toList)).toArray⟩ : ByteArray) W (by rw [str_size]; unfold Fd.lows; rw [List.length_map, List.length_append, List.length_cons, len_list, len_list]; omega) ea (HE.out W hW))
      rw [show (⟨(Fd.lows (ty.data.toList ++ 47 :: su.data.toList)).toArray⟩ : ByteArray).data.toList = Fd.lows (ty.data.toList ++ 47 :: su.data.toList) from rfl, show medV (Fd.lows (ty.data.toList ++ 47 :: su.data.toList)) (X ea) = .tuple #[S (Fd.lows (ty.data.toList ++ 47 :: su.data.toList)), .nilIface] from by unfold medV; rw [med_again htt hts]] at HMA
      have HLN := hide (fun W => lawLower_any (⟨#[97]⟩ : ByteArray) W (by omega))
      obtain ⟨LN, hLN⟩ : ∃ LN : ByteArray, LN = ⟨(Fd.lows (⟨#[97]⟩ : ByteArray).data.toList).toArray⟩ := ⟨_, rfl⟩
      rw [← hLN] at HLN
      have hLNs : LN.size = (⟨#[97]⟩ : ByteArray).size := by rw [hLN, str_size]; unfold Fd.lows; rw [List.length_map, len_list]
      obtain ⟨U4, hu4, hu4s, qu4⟩ := sum_is U3 LN (by have := hp.sz; omega)
      have HMU := hide (fun W (hW : Below W0.heap.size W0 W) => media_any U4 W (by have := hp.sz; omega) ea (HE.out W hW))
      have eu : U4.data.toList = ty.data.toList ++ 47 :: (su.data.toList ++ 59 :: (NL ++ 61 :: 34 :: Fd.lows NL)) := by
        rw [hu4, hp.u3, hLN, HNL.out]; simp
      have hlt : ∀ c ∈ Fd.lows (NL), Fd.tok c = true := (token_facts (token_low HNTK.out)).2
      rw [eu, show medV (ty.data.toList ++ 47 :: (su.data.toList ++ 59 :: (NL ++ 61 :: 34 :: Fd.lows NL))) (X ea) = .tuple #[.string ⟨#[]⟩, X ea] from by unfold medV; rw [med_open htt hts HNTK.out hlt]] at HMU
      have HMV := hide (fun W (hW : Below W0.heap.size W0 W) => media_any V5 W (by have := hp.sz; omega) ea (HE.out W hW))
      rw [hp.v5, HNL.out, HQL.out, show medV (ty.data.toList ++ 47 :: (su.data.toList ++ 59 :: (NL ++ 61 :: (qTxt (qOf tx.data.toList) ++ [32])))) (X ea) = .tuple #[.string ⟨#[]⟩, X ea] from by unfold medV; rw [med_white htt hts HNTK.out (qOf_val _)]] at HMV
      have HTT := hide (fun W => token_any ty W (by omega))
      have HTS := hide (fun W => token_any su W (by omega))
      rw [htt] at HTT
      rw [hts] at HTS
      clear hp eu hlt hu4 hLN
      generalize Fd.lows (ty.data.toList ++ 47 :: su.data.toList) = L at *
      go_enter Tryd.func3, Tryd.ntmps3
      go_wp2_with fail
      rw [HW0.out]
      refine (HTN.out W0).mono ?_
      rintro x w1 ⟨rfl, hb1⟩
      have HB1 := hide hb1
      clear hb1
      have b0 := HX0.out w1 HB1.out
      have b1 := HX1.out w1 HB1.out
      have b2 := HX2.out w1 HB1.out
      have b3 := HX3.out w1 HB1.out
      go_wp2_with fail
      refine (HQW.out w1).mono ?_
      rintro x w2 ⟨rfl, hb2⟩
      have HBk := hide (keepD HB1.out hb2)
      clear hb2 b0 b1 b2 b3
      go_wp2_with fail
      refine (HM1.out _ HBk.out).mono ?_
      rintro x w5 ⟨rfl, hb5⟩
      have HB5 := hide (keepD HBk.out hb5)
      clear hb5
      have b0 := HX0.out w5 HB5.out
      go_wp2_with fail
      refine (HTT.out _).mono ?_
      rintro x w6 ⟨rfl, hb6⟩
      have HB6 := hide (keepD HB5.out hb6)
      clear hb6 b0
      have b1 := HX1.out w6 HB6.out
      go_wp2_with fail
      refine (HTS.out _).mono ?_
      rintro x w7 ⟨rfl, hb7⟩
      have HB7 := hide (keepD HB6.out hb7)
      clear hb7 b1
      go_wp2_with fail
      refine (HLO.out _).mono ?_
      rintro x w8 ⟨rfl, hb8⟩
      have HB8 := hide (keepD HB7.out hb8)
      clear hb8
      go_wp2_with fail
      refine (HMA.out _ HB8.out).mono ?_
      rintro x w9 ⟨rfl, hb9⟩
      have HB9 := hide (keepD HB8.out hb9)
      clear hb9
      go_wp2_with fail
      refine (HLN.out _).mono ?_
      rintro x w10 ⟨rfl, hb10⟩
      have HB10 := hide (keepD HB9.out hb10)
      clear hb10
      go_wp2_with fail
      refine (HMU.out _ HB10.out).mono ?_
      rintro x w11 ⟨rfl, hb11⟩
      have HB11 := hide (keepD HB10.out hb11)
      clear hb11
      go_wp2_with fail
      refine (HMV.out _ HB11.out).mono ?_
      rintro x w12 ⟨rfl, hb12⟩
      have HB12 := hide (keepD HB11.out hb12)
      clear hb12
      have hx : w12.cell? ⟨0, 0, none⟩ = some (X ea) := HE.out w12 HB12.out
      have hq := err_eqlQ w12 ea
      go_wp2_with fail
      go_ret
      exact ⟨by simp, HBOX.out.trans (HB12.out.mono HBOX.out.size)⟩

theorem lawMediaQuoted (ty su nm tx : ByteArray) (w : World) (hs : ty.size + su.size + nm.size + tx.size ≤ 1048576) (ea : Addr) (he : Ev 0 w (X ea)) :
    Calls Tryd.prog 3 #[.agg #[.string ty, .string su, .string nm, .string tx]] w fun x w' => x = .returned (.bool true) ∧ Below w.heap.size w w' := by
  cases h1 : Fd.token nm.data.toList <;> cases h2 : tx.data.toList.all Fd.val
  · exact mq_ff ty su nm tx w hs ea he h1 h2
  · exact mq_ft ty su nm tx w hs ea he h1 h2
  · exact mq_tf ty su nm tx w hs ea he h1 h2
  · exact mq_tt ty su nm tx w hs ea he h1 h2

end Go.Proofs.YthhkhpgffamdhaaDoor.fd
