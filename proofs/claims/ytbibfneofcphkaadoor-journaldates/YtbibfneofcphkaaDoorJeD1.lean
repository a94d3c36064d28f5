import Derived.Test.YtbibfneofcphkaaDoorJeW8
import Derived.Test.YtbibfneofcphkaaDoorJeR6
namespace Go.Proofs.YtbibfneofcphkaaDoor.je
open Go.ChangeShapes Go.WideShapes Go.ChangeAt Go.RowKit Go.Proofs.YtbibfneofcphkaaDoor.common Go.Proofs.YtbibfneofcphkaaDoor.Jc Go.Proofs.YtbibfneofcphkaaDoor.jc
attribute [local go_sem ↓] Go.wp_at_zero Go.wp_at_succ

theorem pad_ex (c : Cs) : ∃ p c', RdP c p c' := by
  cases h : ([32] : List UInt8).isPrefixOf c.1 with
  | true => exact ⟨_, _, pad_t h (digs0 1 _)⟩
  | false => exact ⟨_, _, pad_f h (digs0 2 _)⟩
theorem tim_ex (c : Cs) : ∃ t c', RdT c t c' := ⟨_, _, tim_of (digs0 2 c) (must_rd _ _) (digs0 2 _) (must_rd _ _) (digs0 2 _)⟩
/-- what a text says is found -/
theorem rdo_ex (s : List UInt8) (L : Nat) (h1 : 100 ≤ L) (h2 : L ≤ 9999) : ∃ q, RdO s L q := by
  obtain ⟨x1, c1, k1⟩ : ∃ x c, Rd imfL Fm (s, false) x c := by
    obtain ⟨t, c9, ht⟩ := tim_ex (mustS [32] (digsS 4 0 (mustS [32] (nameS moN (mustS [32] (digsS 2 0 (mustS [44, 32] (nameS wdN (s, false)).2)).2)).2)).2)
    exact ⟨_, _, fix_of (name_rd wdN wdN_free _) (must_rd _ _) (digs0 2 _) (must_rd _ _) (name_rd moN moN_free _) (must_rd _ _) (digs0 4 _) (must_rd _ _) ht (must_rd _ _)⟩
  obtain ⟨x2, c2, k2⟩ : ∃ x c, Rd rfcL (fun x => Fm x ∧ x.y ≤ L ∧ L < x.y + 100) (s, false) x c := by
    obtain ⟨t, c9, ht⟩ := tim_ex (mustS [32] (digsS 2 0 (mustS [45] (nameS moN (mustS [45] (digsS 2 0 (mustS [44, 32] (nameS wdF (s, false)).2)).2)).2)).2)
    exact ⟨_, _, rfc_of h1 h2 (name_rd wdF wdF_free _) (must_rd _ _) (digs0 2 _) (must_rd _ _) (name_rd moN moN_free _) (must_rd _ _) (digs0 2 _) (must_rd _ _) ht (must_rd _ _)⟩
  obtain ⟨bl, x3, c3, k3⟩ : ∃ bl x c, Rd (fun p : Bool × Dt => ascL p.1 p.2) (fun p => Fm p.2 ∧ (p.1 = true → p.2.d < 10)) (s, false) (bl, x) c := by
    obtain ⟨pd, c5, hp⟩ := pad_ex (mustS [32] (nameS moN (mustS [32] (nameS wdN (s, false)).2)).2)
    obtain ⟨t, c9, ht⟩ := tim_ex (mustS [32] c5)
    exact ⟨_, _, _, asc_of (name_rd wdN wdN_free _) (must_rd _ _) (name_rd moN moN_free _) (must_rd _ _) hp (must_rd _ _) ht (must_rd _ _) (digs0 4 _)⟩
  by_cases e1 : c1 = ([], false)
  · exact ⟨_, done_fix k1 e1⟩
  · by_cases e2 : c2 = ([], false)
    · exact ⟨_, done_rfc k2 e2⟩
    · by_cases e3 : c3 = ([], false)
      · exact ⟨_, done_asc k3 e3⟩
      · exact ⟨none, none_of (not_fix k1 e1) (not_rfc k2 e2) (not_asc k3 e3)⟩

set_option maxRecDepth 100000 in
set_option maxHeartbeats 3200000 in
theorem readDateR_no (l : List UInt8) (n : Int) (w : World) (hn : secB n = false) : Calls Tryd.prog 20 #[.string (tx l), .int .i64 n] w fun e w' => e = .returned (.tuple #[.int .i64 0, .int .i64 1]) ∧ Below w.heap.size w w' := by
  have HS := hide (refCivil_no n w hn)
  clear hn
  generalize tx l = T at *
  go_enter Tryd.func20, Tryd.ntmps20
  go_wp2_with fail
  refine HS.out.mono ?_
  rintro e w1 ⟨rfl, b1⟩
  have HB : Hid (Below w.heap.size w (w1.alloc (ob z0))) := b1.alloc b1.size _
  clear b1
  unfold dv
  go_wp2_with fail
  go_ret2
  exact ⟨rfl, HB.out⟩
/-- all that lies in the variables -/
structure Ew (w : World) (e : Nat → Addr) : Prop where
  mt : MTab w
  rt : RTab w
  wt : WTab w
  ot : OTab w
  ft : FTab w
  lg : LgT w
  er : errw.Errs w e
theorem Ew.fr {w w' : World} {e : Nat → Addr} (h : Ew w e) (hb : Below w.heap.size w w') : Ew w' e := ⟨h.mt.fr hb, h.rt.fr hb, h.wt.fr hb, h.ot.fr hb, h.ft.fr hb, h.lg.fr hb, h.er.below hb⟩
abbrev Says2 (fn : Nat) (args : Array Value) (r : Value) (e : Nat → Addr) : Prop := ∀ W, Ew W e → Calls Tryd.prog fn args W fun q w' => q = .returned r ∧ Below W.heap.size W w'
theorem rd_all (l : List UInt8) (n : Int) (e : Nat → Addr) : ∃ (N : Int) (eC : Value) (fC : Int), Says2 16 #[.string (tx l), .int .i64 n] (.tuple #[.int .i64 N, eC]) e ∧ Says2 20 #[.string (tx l), .int .i64 n] (.tuple #[.int .i64 N, .int .i64 fC]) e ∧ ((eC = .nilIface ∧ fC = 0) ∨ (eC = errw.E e 0 ∧ fC = 1) ∨ (eC = errw.E e 1 ∧ fC = 2)) := by
  cases hs : secB n with
  | false => exact ⟨0, errw.E e 0, 1, fun W hW => readDate_no l n _ W (hW.er.cell 0 (by omega)) hs, fun W hW => readDateR_no l n W hs, Or.inr (Or.inl ⟨rfl, rfl⟩)⟩
  | true =>
    have hb : 0 ≤ n ∧ n ≤ 253402300799 := by unfold secB at hs; simpa using hs
    obtain ⟨m, rfl⟩ : ∃ m : Nat, n = (m : Int) := ⟨n.toNat, by omega⟩
    have hm : m ≤ 253402300799 := by omega
    obtain ⟨x, hx⟩ := has_date m
    have hy0 := hx.ok.y0
    obtain ⟨q, hq⟩ := rdo_ex l (min (x.y + 50) 9999) (by omega) (by omega)
    obtain ⟨r, hr⟩ : ∃ r, Ans l (min (x.y + 50) 9999) r := by
      by_cases h : ∃ z, VD z ∧ Says l (min (x.y + 50) 9999) z
      · obtain ⟨z, h1, h2⟩ := h; exact ⟨some z.sec, z, h1, h2, rfl⟩
      · exact ⟨none, fun z h1 h2 => h ⟨z, h1, h2⟩⟩
    have er := ans_one hq hr
    have p1 : ∀ W, Ew W e → Calls Tryd.prog 16 #[.string (tx l), .int .i64 (m : Int)] W fun q w' => q = .returned (prV (errw.E e 1) r) ∧ Below W.heap.size W w' := fun W hW => (readDateP_any l m x (errw.E e 1) hx hm W hW.mt hW.wt hW.ft hW.ot (hW.er.cell 1 (by omega))).mono fun t w' ⟨q', h1, h2, h3⟩ => ⟨by rw [h1, ans_one h2 hr], h3⟩
    have p2 : ∀ W, Ew W e → Calls Tryd.prog 20 #[.string (tx l), .int .i64 (m : Int)] W fun q w' => q = .returned (ansV r) ∧ Below W.heap.size W w' := fun W hW => (readDateR_any l m x hx hm W hW.rt hW.lg).mono fun t w' ⟨r', h1, h2, h3⟩ => ⟨by rw [h1, ← ans_one hq h2, er], h3⟩
    cases r with
    | none => exact ⟨0, errw.E e 1, 2, p1, p2, Or.inr (Or.inr ⟨rfl, rfl⟩)⟩
    | some k => exact ⟨k, .nilIface, 0, p1, p2, Or.inl ⟨rfl, rfl⟩⟩
theorem num_three (e : Nat → Addr) (eC : Value) (fC : Int) (h : (eC = .nilIface ∧ fC = 0) ∨ (eC = errw.E e 0 ∧ fC = 1) ∨ (eC = errw.E e 1 ∧ fC = 2)) : ∀ W, Ew W e → Calls Tryd.prog 11 #[eC] W fun q w' => q = .returned (.int .i64 fC) ∧ w' = W := fun W hW => by
  rcases h with ⟨rfl, rfl⟩ | ⟨rfl, rfl⟩ | ⟨rfl, rfl⟩
  · exact errw.num_nil W
  · exact errw.num_0 W e hW.er
  · exact errw.num_1 W e hW.er

abbrev dtd (s : ByteArray) (n : Int) : Obj := .cells #[.string s, .int .i64 n] 54
set_option maxRecDepth 100000 in
set_option maxHeartbeats 6400000 in
theorem lawDates (s : ByteArray) (n : Int) (w : World) (e : Nat → Addr) (hE : Ew w e) : Calls Tryd.prog 6 #[.agg #[.string s, .int .i64 n]] w fun q w' => q = .returned (.bool true) ∧ Below w.heap.size w w' := by
  obtain ⟨l, rfl⟩ : ∃ l, s = tx l := ⟨s.data.toList, (tx_ext rfl).symm⟩
  obtain ⟨N, eC, fC, c1, c2, c3⟩ := rd_all l n e
  have N1 := hide (num_three e eC fC c3)
  generalize tx l = S at *
  have W0 : Below w.heap.size w (w.alloc (dtd S n)) := (Below.refl _ _).alloc (Nat.le_refl _) _
  have HK : Hid (∀ W, Below (w.heap.size + 1) (w.alloc (dtd S n)) W → Ew W e ∧ Below w.heap.size w W ∧ W.cell? ⟨w.heap.size, 0, none⟩ = some (.string S) ∧ W.cell? ⟨w.heap.size, 1, none⟩ = some (.int .i64 n)) := fun W hW => by
    have h1 := W0.trans (hW.mono (by omega))
    have hb := (hW.block w.heap.size (by omega)).trans (heap_new w (dtd S n))
    exact ⟨hE.fr h1, h1, by simp [World.cell?, hb], by simp [World.cell?, hb]⟩
  have HST : Hid (∀ W W', Below (w.heap.size + 1) (w.alloc (dtd S n)) W → Below W.heap.size W W' → Below (w.heap.size + 1) (w.alloc (dtd S n)) W') := fun W W' h1 h2 => keepW h1 h2 (by have := h1.size; have hs0 : (w.alloc (dtd S n)).heap.size = w.heap.size + 1 := World.size_alloc _ _; omega)
  have HB0 : Hid (Below (w.heap.size + 1) (w.alloc (dtd S n)) (w.alloc (dtd S n))) := Below.refl _ _
  have C1 := hide (c1 _ (HK.out _ HB0.out).1)
  have C2 := hide c2
  clear c1 c2 c3 W0 hE
  go_enter Tryd.func6, Tryd.ntmps6
  go_wp2_with fail
  refine C1.out.mono ?_
  rintro q w1 ⟨rfl, b1⟩
  have HB1 := hide (HST.out _ _ HB0.out b1)
  obtain ⟨_, _, m0, m1⟩ := HK.out _ HB1.out
  have D2 := hide (C2.out _ (HK.out _ HB1.out).1)
  clear b1 HB0 C1 C2
  go_wp2_with fail
  refine D2.out.mono ?_
  rintro q w2 ⟨rfl, b2⟩
  have HB2 := hide (HST.out _ _ HB1.out b2)
  have HN := hide (N1.out _ (HK.out _ HB2.out).1)
  have HL := hide (HK.out _ HB2.out).2.1
  clear b2 HB1 D2 m0 m1 N1 HB2 HK HST
  go_wp2_with fail
  refine HN.out.mono ?_
  rintro q w3 ⟨rfl, h3⟩
  subst h3
  go_wp2_with fail
  go_ret
  exact ⟨rfl, HL.out⟩
end Go.Proofs.YtbibfneofcphkaaDoor.je
