import Derived.Test.YtbibfneofcphkaaDoorJdC2
namespace Go.Proofs.YtbibfneofcphkaaDoor.jc
open Go.ChangeShapes Go.WideShapes Go.ChangeAt Go.RowKit Go.Proofs.YtbibfneofcphkaaDoor.common Go.Proofs.YtbibfneofcphkaaDoor.Jc

theorem has_date : ∀ n : Nat, ∃ x, Is n x
  | 0 => ⟨_, is_first⟩
  | n + 1 => by obtain ⟨x, h⟩ := has_date n; exact ⟨_, h.next⟩
theorem refSeconds_ok (a b c d e f g : Int) (w : World) (hT : RTab w) (hdb : dateB a b c d e f g = true) : Calls Tryd.prog 19 #[dI a b c d e f g] w fun q w' => q = .returned (.tuple #[.int .i64 ((dt a b c d e f).sec : Int), .int .i64 0]) ∧ Below w.heap.size w w' := by
  unfold dateB at hdb
  simp only [Bool.and_eq_true, beq_iff_eq] at hdb
  obtain ⟨h1, h2⟩ := hdb
  have hm := mo_of h1
  have h := refSeconds_mo (dt a b c d e f) g w hT hm.ok hm.y1
  rw [← hm.ea, ← hm.eb, ← hm.ec, ← hm.ed, ← hm.ee, ← hm.ef, if_pos h2] at h
  exact h
theorem refSeconds_no (a b c d e f g : Int) (w : World) (hT : RTab w) (hdb : dateB a b c d e f g = false) : Calls Tryd.prog 19 #[dI a b c d e f g] w fun q w' => q = .returned (.tuple #[.int .i64 0, .int .i64 1]) ∧ Below w.heap.size w w' := by
  cases h1 : momB a b c d e f with
  | false => exact refSeconds_no1 a b c d e f g w hT h1
  | true =>
    unfold dateB at hdb
    rw [h1, Bool.true_and] at hdb
    have hm := mo_of h1
    have h := refSeconds_mo (dt a b c d e f) g w hT hm.ok hm.y1
    rw [← hm.ea, ← hm.eb, ← hm.ec, ← hm.ed, ← hm.ee, ← hm.ef, if_neg (by simpa using hdb)] at h
    exact h
/-- all that lies in the variables -/
structure Ev (w : World) (e : Nat → Addr) : Prop where
  mt : MTab w
  rt : RTab w
  pw : Pow w.heap.size w
  wt : WTab w
  ot : OTab w
  er : errw.Errs w e
theorem Ev.fr {w w' : World} {e : Nat → Addr} (h : Ev w e) (hb : Below w.heap.size w w') : Ev w' e := ⟨h.mt.fr hb, h.rt.fr hb, h.pw.up hb hb.size, h.wt.fr hb, h.ot.fr hb, h.er.below hb⟩
abbrev Says1 (fn : Nat) (args : Array Value) (r : Value) (e : Nat → Addr) : Prop := ∀ W, Ev W e → Calls Tryd.prog fn args W fun q w' => q = .returned r ∧ Below W.heap.size W w'
theorem num_all (e : Nat → Addr) (eC : Value) (fC : Int) (h : (eC = .nilIface ∧ fC = 0) ∨ (eC = errw.E e 0 ∧ fC = 1)) : ∀ W, Ev W e → Calls Tryd.prog 11 #[eC] W fun q w' => q = .returned (.int .i64 fC) ∧ w' = W := fun W hW => by
  rcases h with ⟨rfl, rfl⟩ | ⟨rfl, rfl⟩
  · exact errw.num_nil W
  · exact errw.num_0 W e hW.er
theorem cv_all (n : Int) (e : Nat → Addr) : ∃ (x : Dt) (eC : Value) (fC : Int) (T : ByteArray), Says1 8 #[.int .i64 n] (.tuple #[dv x, eC]) e ∧ Says1 17 #[.int .i64 n] (.tuple #[dv x, .int .i64 fC]) e ∧ Says1 14 #[.int .i64 n] (.tuple #[.string T, eC]) e ∧ Says1 18 #[.int .i64 n] (.tuple #[.string T, .int .i64 fC]) e ∧ ((eC = .nilIface ∧ fC = 0) ∨ (eC = errw.E e 0 ∧ fC = 1)) := by
  cases hs : secB n with
  | true =>
    have hb : 0 ≤ n ∧ n ≤ 253402300799 := by unfold secB at hs; simpa using hs
    obtain ⟨m, rfl⟩ : ∃ m : Nat, n = (m : Int) := ⟨n.toNat, by omega⟩
    have hm : m ≤ 253402300799 := by omega
    obtain ⟨x, hx⟩ := has_date m
    refine ⟨x, .nilIface, 0, tx (imfL x), fun W hW => ?_, fun W hW => ?_, fun W hW => ?_, fun W hW => ?_, Or.inl ⟨rfl, rfl⟩⟩
    · exact (civil_ok m W hW.mt hm).mono fun q w' ⟨z, h1, h2, h3⟩ => ⟨by rw [h1, h2.one hx], h3⟩
    · exact (refCivil_ok m W hW.rt hm).mono fun q w' ⟨z, h1, h2, h3⟩ => ⟨by rw [h1, h2.one hx], h3⟩
    · exact (fixdate_ok m W hW.mt hW.pw hW.wt hW.ot hm).mono fun q w' ⟨z, h1, h2, h3⟩ => ⟨by rw [h1, h2.one hx], h3⟩
    · exact (refFixdate_ok m W hW.rt hm).mono fun q w' ⟨z, h1, h2, h3⟩ => ⟨by rw [h1, h2.one hx], h3⟩
  | false =>
    refine ⟨z0, errw.E e 0, 1, ⟨#[]⟩, fun W hW => ?_, fun W hW => ?_, fun W hW => ?_, fun W hW => ?_, Or.inr ⟨rfl, rfl⟩⟩
    · exact civil_no n _ W (hW.er.cell 0 (by omega)) hs
    · exact refCivil_no n W hs
    · exact fixdate_no n _ W (hW.er.cell 0 (by omega)) hs
    · exact refFixdate_no n W hs
theorem sc_all (a b c d f g h : Int) (e : Nat → Addr) : ∃ (S : Int) (eC : Value) (fC : Int), Says1 9 #[dI a b c d f g h] (.tuple #[.int .i64 S, eC]) e ∧ Says1 19 #[dI a b c d f g h] (.tuple #[.int .i64 S, .int .i64 fC]) e ∧ ((eC = .nilIface ∧ fC = 0) ∨ (eC = errw.E e 0 ∧ fC = 1)) := by
  cases hs : dateB a b c d f g h with
  | true => exact ⟨_, .nilIface, 0, fun W hW => seconds_ok a b c d f g h W hW.mt hs, fun W hW => refSeconds_ok a b c d f g h W hW.rt hs, Or.inl ⟨rfl, rfl⟩⟩
  | false => exact ⟨_, errw.E e 0, 1, fun W hW => seconds_no a b c d f g h _ W hW.mt (hW.er.cell 0 (by omega)) hs, fun W hW => refSeconds_no a b c d f g h W hW.rt hs, Or.inr ⟨rfl, rfl⟩⟩

abbrev mo (n a b c d e f g : Int) : Obj := .cells #[.int .i64 n, .int .i64 a, .int .i64 b, .int .i64 c, .int .i64 d, .int .i64 e, .int .i64 f, .int .i64 g] 45
set_option maxRecDepth 100000 in
set_option maxHeartbeats 6400000 in
theorem lawCivil (n a b c d f g h : Int) (w : World) (e : Nat → Addr) (hE : Ev w e) : Calls Tryd.prog 5 #[.agg #[.int .i64 n, .int .i64 a, .int .i64 b, .int .i64 c, .int .i64 d, .int .i64 f, .int .i64 g, .int .i64 h]] w fun q w' => q = .returned (.bool true) ∧ Below w.heap.size w w' := by
  obtain ⟨x, eC, fC, T, c1, c2, c3, c4, c5⟩ := cv_all n e
  obtain ⟨S, eS, fS, s1, s2, s3⟩ := sc_all a b c d f g h e
  have N1 := hide (num_all e eC fC c5)
  have N2 := hide (num_all e eS fS s3)
  have W0 : Below w.heap.size w (w.alloc (mo n a b c d f g h)) := (Below.refl _ _).alloc (Nat.le_refl _) _
  have m0 := heap_new w (mo n a b c d f g h)
  have HM : Hid (∀ W, Below (w.heap.size + 1) (w.alloc (mo n a b c d f g h)) W → W.cell? ⟨w.heap.size, 0, none⟩ = some (.int .i64 n) ∧ W.rangeAt w.heap.size 1 [.int .i64 a, .int .i64 b, .int .i64 c, .int .i64 d, .int .i64 f, .int .i64 g, .int .i64 h]) := fun W hW => by
    have hb := (hW.block w.heap.size (by omega)).trans m0
    refine ⟨by simp [World.cell?, hb], fun j v hv => ?_⟩
    have hj : j < 7 := (List.getElem?_eq_some_iff.1 hv).1
    simp only [World.cell?, hb]
    match j, hj with
    | 0, _ | 1, _ | 2, _ | 3, _ | 4, _ | 5, _ | 6, _ => simpa using hv
  have C1 := hide c1
  have C2 := hide c2
  have C3 := hide c3
  have C4 := hide c4
  have S1 := hide s1
  have S2 := hide s2
  have HE := hide hE
  have hs0 : (w.alloc (mo n a b c d f g h)).heap.size = w.heap.size + 1 := World.size_alloc _ _
  have HB0 : Hid (Below (w.heap.size + 1) (w.alloc (mo n a b c d f g h)) (w.alloc (mo n a b c d f g h))) := Below.refl _ _
  have HK : Hid (∀ W, Below (w.heap.size + 1) (w.alloc (mo n a b c d f g h)) W → Ev W e ∧ Below w.heap.size w W) := fun W hW => by
    have h1 := W0.trans (hW.mono (by omega))
    exact ⟨hE.fr h1, h1⟩
  have HST : Hid (∀ W W', Below (w.heap.size + 1) (w.alloc (mo n a b c d f g h)) W → Below W.heap.size W W' → Below (w.heap.size + 1) (w.alloc (mo n a b c d f g h)) W') := fun W W' h1 h2 => keepW h1 h2 (by have := h1.size; omega)
  have HAL : Hid (∀ W, Below (w.heap.size + 1) (w.alloc (mo n a b c d f g h)) W → Below (w.heap.size + 1) (w.alloc (mo n a b c d f g h)) (W.alloc (ob x))) := fun W h1 => h1.alloc (by have := h1.size; omega) _
  have HC1 := hide (C1.out _ (HK.out _ HB0.out).1)
  have m00 := (HM.out _ HB0.out).1
  clear c1 c2 c3 c4 c5 s1 s2 s3 W0 m0 hs0 hE
  go_enter Tryd.func5, Tryd.ntmps5
  go_wp2_with fail
  refine HC1.out.mono ?_
  rintro q w1 ⟨rfl, b1⟩
  have HB1 := hide (HAL.out _ (HST.out _ _ HB0.out b1))
  have m1 := (HM.out _ HB1.out).1
  have HO1 := hide (heap_new w1 (ob x))
  have HC2 := hide (C2.out _ (HK.out _ HB1.out).1)
  clear m00 b1 HB0 HC1 C1 C2
  unfold dv at *
  go_wp2_with fail
  refine HC2.out.mono ?_
  rintro q w2 ⟨rfl, b2⟩
  have HB2 := hide (HAL.out _ (HST.out _ _ HB1.out b2))
  have m2 := (HM.out _ HB2.out).1
  obtain ⟨p0, p1, p2, p3, p4, p5, p6⟩ := obc (ob_al (ob_fr HO1.out b2) (ob x))
  have HN1 := hide (N1.out _ (HK.out _ HB2.out).1)
  have HC3 := hide (C3.out _ (HK.out _ HB2.out).1)
  clear m1 b2 HB1 HC2 HO1 C3
  go_wp2_with fail
  refine HN1.out.mono ?_
  rintro q w2b ⟨rfl, h2b⟩
  subst h2b
  clear p0 p1 p2 p3 p4 p5 p6 HN1
  go_wp2_with fail
  refine HC3.out.mono ?_
  rintro q w3 ⟨rfl, b3⟩
  have HB3 := hide (HST.out _ _ HB2.out b3)
  have m3 := (HM.out _ HB3.out).1
  have HC4 := hide (C4.out _ (HK.out _ HB3.out).1)
  clear m2 b3 HB2 HC3 C4
  go_wp2_with fail
  refine HC4.out.mono ?_
  rintro q w4 ⟨rfl, b4⟩
  have HB4 := hide (HST.out _ _ HB3.out b4)
  have HR4 := hide (HM.out _ HB4.out).2
  have HN4 := hide (N1.out _ (HK.out _ HB4.out).1)
  have HS4 := hide (S1.out _ (HK.out _ HB4.out).1)
  clear m3 b4 HB3 HC4 N1 S1
  go_wp2_with fail
  refine HN4.out.mono ?_
  rintro q w4b ⟨rfl, h4b⟩
  subst h4b
  clear HN4
  unfold dI at *
  go_wp2_with (refine wpList_load_mid rfl 24 (.tmp 58) rfl w.heap.size 1 rfl _ _ HR4.out Tryd.underlying24 rfl sizeD ?_)
  refine HS4.out.mono ?_
  rintro q w5 ⟨rfl, b5⟩
  have HB5 := hide (HST.out _ _ HB4.out b5)
  have HR5 := hide (HM.out _ HB5.out).2
  have HS5 := hide (S2.out _ (HK.out _ HB5.out).1)
  clear b5 HB4 HS4 HR4 S2
  go_wp2_with (refine wpList_load_mid rfl 24 (.tmp 64) rfl w.heap.size 1 rfl _ _ HR5.out Tryd.underlying24 rfl sizeD ?_)
  refine HS5.out.mono ?_
  rintro q w6 ⟨rfl, b6⟩
  have HB6 := hide (HST.out _ _ HB5.out b6)
  have HN6 := hide (N2.out _ (HK.out _ HB6.out).1)
  have HL := hide (HK.out _ HB6.out).2
  clear b6 HB5 HS5 HR5 N2 HB6
  go_wp2_with fail
  refine HN6.out.mono ?_
  rintro q w6b ⟨rfl, h6b⟩
  subst h6b
  go_wp2_with fail
  go_ret
  exact ⟨rfl, HL.out⟩
end Go.Proofs.YtbibfneofcphkaaDoor.jc
