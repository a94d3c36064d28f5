import Derived.Test.YthkbheojjcdglabDoorErrs2
import Derived.Test.YthkbheojjcdglabDoorFormBackLaw
import Derived.Test.YthkbheojjcdglabDoorFormMath
import Derived.Laws.AppendOwnNone
namespace Go.Proofs.YthkbheojjcdglabDoor.pctw
open Go.ChangeShapes Go.WideShapes Go.ChangeAt Go.RowKit Go.Proofs.YthkbheojjcdglabDoor.common
open Go.Proofs.YthkbheojjcdglabDoor.lst (PB Lies cl cl_app cl_len infoP copied_any same_any lies_of_own own_below row_of_own own_ge)
attribute [local go_sem ↓] Go.wp_at_zero Go.wp_at_succ

theorem cellsTwo : Tryd.prog.cellsOf 28 = 2 := by kernel_rfl

/-- 'both = append(both, a...)', of rows of pairs -/
theorem wpList_spread {P : Program} (w : World) {ops : Array Oper} {rest : List Oper} {o : Oper} {a : Act} {Q : Exit → Act → World → Prop} (hgd : o.guard = none) (s x : Operand) (t : TypeId)
    (ho : o.op = .call { callee := .builtin .append, args := #[s, x], argTypes := #[t, t] })
    (base : Nat) (e : TypeId) (i : TypeInfo) (z : Value) (ht : P.underlying t = some (.slice e)) (hi : P.info? e = some i) (hz : i.zero = some z) (hsize : i.size = 2) (hby : i.bytes = 32) (hzs : z.cells.size = 2)
    (v : Value) (n : Nat) (xs : List Value) (hs : a.eval s = v) (hown : w.ownsRow base e 2 v n xs)
    (vx : Value) (l : List PB) {base' : Nat} {e' : TypeId} (hx : a.eval x = vx) (hl : w.ownsRow base' e' 2 vx l.length (cl l))
    (h63 : n + l.length ≤ maxLen) (hbytes : (n + l.length) * 32 ≤ 140737488355328) (hbase : base ≤ w.heap.size)
    (h : ∀ v' w', w'.ownsRow base e 2 v' (n + l.length) (xs ++ cl l) → Below base w w' → wpList P ops Q rest (a.put o.dst v') w') : wpList P ops Q (o :: rest) a w := by
  rcases row_of_own hl with ⟨rfl, rfl⟩ | ⟨g, cap, rfl, _, hg, hr, _⟩
  · refine wpList_append_own_none hgd s x t ho base e i 2 ht hi v n xs hs hown hx (h v w (by simpa [cl] using hown) (Below.refl _ _))
  · refine wpList_append_own w hgd s x t ho base e i z 2 32 ht hi hz hsize hby hzs (by decide) v n xs hs hown ⟨g, 0, none⟩ l.length cap (cl l) hx (cl_len l) ?_ ?_ h63 hbytes hbase ?_
    · intro j u hu
      rw [Addr.add_mid]
      exact hr.2 j u hu
    · intro u hu
      have : ∀ (l : List PB), ∀ u ∈ cl l, u.oneCell' = true := by
        intro l
        induction l with
        | nil => intro u hu; cases hu
        | cons p r ih =>
          intro u hu
          simp only [cl, List.mem_cons] at hu
          rcases hu with rfl | rfl | hu
          · rfl
          · rfl
          · exact ih u hu
      exact this l u hu
    · intro v' w' ho' hgrow _
      exact h v' w' ho' ((Below.refl _ _).grown hgrow hbase (own_ge hown))

theorem nil_eqIn (d : Nat) (w : World) (a : Addr) : (Op.equalIn (d + 1) 30 .nilIface (X a)).run Tryd.prog w = .ok false w := by
  rw [Op.equalIn]
  simp [run_underlying Tryd.underlying30]
theorem nil_eql (w : World) (a : Addr) : (binOp .eql 30 .nilIface (X a)).run Tryd.prog w = .ok (.bool false) w := by
  simp only [binOp]
  simp [Op.equal, Op.maxDepth, nil_eqIn 9999 w a]

/-- how a text is read -/
def Out (ea em : Addr) (w0 w : World) (s : ByteArray) (v r : Value) : Prop :=
  (33 ≤ (Pct.pieces s.data.toList).length ∧ v = .slice none 0 0 ∧ r = X em) ∨
  ((Pct.pieces s.data.toList).length ≤ 32 ∧ Pct.pairAll (Pct.pieces s.data.toList) = none ∧ v = .slice none 0 0 ∧ r = X ea) ∨
  ∃ q : List Pct.Pr, (Pct.pieces s.data.toList).length ≤ 32 ∧ Pct.pairAll (Pct.pieces s.data.toList) = some q ∧ w.ownsRow w0.heap.size 34 2 v (q.map mk).length (cl (q.map mk)) ∧ r = .nilIface
theorem Out.many {ea em : Addr} {w0 w : World} {s : ByteArray} (h : 33 ≤ (Pct.pieces s.data.toList).length) : Out ea em w0 w s (.slice none 0 0) (X em) := Or.inl ⟨h, rfl, rfl⟩
theorem Out.text {ea em : Addr} {w0 w : World} {s : ByteArray} (h : (Pct.pieces s.data.toList).length ≤ 32) (h2 : Pct.pairAll (Pct.pieces s.data.toList) = none) : Out ea em w0 w s (.slice none 0 0) (X ea) := Or.inr (Or.inl ⟨h, h2, rfl, rfl⟩)
theorem Out.good {ea em : Addr} {w0 w : World} {s : ByteArray} (q : List Pct.Pr) (v : Value) (h : (Pct.pieces s.data.toList).length ≤ 32) (h2 : Pct.pairAll (Pct.pieces s.data.toList) = some q) (h3 : w.ownsRow w0.heap.size 34 2 v (q.map mk).length (cl (q.map mk))) : Out ea em w0 w s v .nilIface := Or.inr (Or.inr ⟨q, h, h2, h3, rfl⟩)

theorem Out.next {ea em : Addr} {w0 w w' : World} {s : ByteArray} {v r : Value} (h : Out ea em w0 w s v r) (hb : Below w.heap.size w w') : Out ea em w0 w' s v r := by
  rcases h with hO | hO | hO
  · obtain ⟨h, rfl, rfl⟩ := hO; exact .many h
  · obtain ⟨h, h2, rfl, rfl⟩ := hO; exact .text h h2
  · obtain ⟨q, h, h2, h3, rfl⟩ := hO; exact .good q v h h2 (own_below h3 hb)

theorem pairs_out (s : ByteArray) (w : World) (hs : s.size ≤ reachBytes) (ea em : Addr) (h : Errs2 w ea em) :
    Calls Tryd.prog 14 #[.string s] w fun x w' => Below w.heap.size w w' ∧ ∃ v r, x = .returned (.tuple #[v, r]) ∧ Out ea em w w' s v r := by
  refine (pairs_any s w hs ea em h.txt h.mny).mono ?_
  rintro x w' ⟨hb, ⟨h1, rfl⟩ | ⟨h1, h2, rfl⟩ | ⟨h1, q, v, h2, rfl, h3⟩⟩
  · exact ⟨hb, _, _, rfl, .many h1⟩
  · exact ⟨hb, _, _, rfl, .text h1 h2⟩
  · exact ⟨hb, _, _, rfl, .good q v h1 h2 h3⟩

/-- a struct of two cells, laid in memory -/
structure TwoAt (w0 w : World) (b : Nat) (x y : Value) : Prop where
  c0 : w.cell? ⟨b, 0, none⟩ = some x
  c1 : w.cell? ⟨b, 1, none⟩ = some y
  bl : Below w0.heap.size w0 w
  lt : b < w.heap.size
theorem twoAt_new (w : World) (x y : Value) (t : TypeId) : TwoAt w (w.alloc (.cells #[x, y] t)) w.heap.size x y := by
  refine ⟨?_, ?_, (Below.refl _ _).alloc (Nat.le_refl _) _, by simp⟩
  · exact range_new w #[x, y] t 0 x rfl
  · exact range_new w #[x, y] t 1 y rfl
theorem TwoAt.next {w0 w w' : World} {b : Nat} {x y : Value} (h : TwoAt w0 w b x y) (hb : Below w.heap.size w w') : TwoAt w0 w' b x y :=
  ⟨(hb.cell h.lt).trans h.c0, (hb.cell h.lt).trans h.c1, h.bl.trans (hb.mono h.bl.size), Nat.lt_of_lt_of_le h.lt hb.size⟩
theorem TwoAt.drew {w0 w : World} {b : Nat} {x y : Value} (h : TwoAt w0 w b x y) : TwoAt w0 w.drew b x y := ⟨h.c0, h.c1, h.bl.drew, h.lt⟩

set_option maxRecDepth 100000 in
set_option maxHeartbeats 3200000 in
theorem lawPctJoin (A C : ByteArray) (w : World) (hs : A.size + C.size ≤ 1048576) (ea em : Addr) (he : Errs2 w ea em) :
    Calls Tryd.prog 4 #[.agg #[.string A, .string C]] w fun e w' => e = .returned (.bool true) ∧ Below w.heap.size w w' := by
  obtain ⟨i0, hi, hz0, hz1, hz2⟩ := info_parts infoP
  have HS := hide hs
  have HE := hide he
  have H0 := hide (twoAt_new w (.string A) (.string C) 28)
  clear hs he
  go_enter Tryd.func4, Tryd.ntmps4
  go_wp2_with fail
  generalize w.alloc (.cells #[.string A, .string C] 28) = W at *
  have HE0 := hide (HE.out.below H0.out.bl)
  refine (pairs_out ⟨#[107, 61, 118]⟩ W (by decide) ea em HE0.out).mono ?_
  rintro x w1 ⟨hb1, v, r, rfl, ho⟩
  have hp1 : Pct.pieces (⟨#[107, 61, 118]⟩ : ByteArray).data.toList = [[107, 61, 118]] := by decide
  have hp2 : Pct.pairAll [[107, 61, 118]] = some [([107], [118])] := by
    have : Pct.pair [107, 61, 118] = some ([107], [118]) := Pct.pair_shown ([107], [118])
    rw [Pct.pairAll_cons, this]; rfl
  obtain ⟨rfl, g0, cap0, rfl, hk0, hk1, hg1⟩ : r = .nilIface ∧ ∃ g cap, v = .slice (some ⟨g, 0, none⟩) 1 cap ∧ w1.cell? ⟨g, 0, none⟩ = some (.string ⟨#[107]⟩) ∧ w1.cell? ⟨g, 1, none⟩ = some (.string ⟨#[118]⟩) ∧ g < w1.heap.size := by
    rcases ho with hO | hO | hO
    · obtain ⟨h, rfl, rfl⟩ := hO; rw [hp1] at h; exact absurd h (by decide)
    · obtain ⟨h, h2, rfl, rfl⟩ := hO; rw [hp1, hp2] at h2; cases h2
    · obtain ⟨q, h, h2, h3, rfl⟩ := hO
      rw [hp1, hp2] at h2
      obtain rfl := Option.some.inj h2
      refine ⟨rfl, ?_⟩
      rcases row_of_own h3 with ⟨_, e⟩ | ⟨g, cap, rfl, _, hg, hr, _⟩
      · cases e
      · exact ⟨g, cap, rfl, hr.2 0 _ rfl, hr.2 1 _ rfl, hg⟩
  have H1 := hide (H0.out.next hb1)
  have HE1 := hide (HE0.out.below hb1)
  clear ho hp1 hp2 hb1 H0 HE0
  have a1 := H1.out.c0
  go_wp2_with fail
  clear hk0 hk1 hg1
  refine (pairs_out A w1 (by have := HS.out; unfold reachBytes; omega) ea em HE1.out).mono ?_
  rintro x w2 ⟨hb2, va, ra, rfl, hoA⟩
  have H2 := hide (H1.out.next hb2)
  have HE2 := hide (HE1.out.below hb2)
  have HOA := hide hoA
  clear hoA hb2 a1 H1 HE1
  have b1 := H2.out.c1
  go_wp2_with fail
  refine (pairs_out C w2 (by have := HS.out; unfold reachBytes; omega) ea em HE2.out).mono ?_
  rintro x w3 ⟨hb3, vb, rb, rfl, hoC⟩
  have H3 := hide (H2.out.next hb3)
  have HE3 := hide (HE2.out.below hb3)
  have HOA3 := hide (HOA.out.next hb3)
  have HOC := hide hoC
  clear hoC hb3 b1 H2 HE2 HOA
  obtain ⟨Z1, hZ1⟩ : ∃ Z, A ++ (⟨#[38]⟩ : ByteArray) = Z := ⟨_, rfl⟩
  obtain ⟨Z, hZ⟩ : ∃ Z, Z1 ++ C = Z := ⟨_, rfl⟩
  have hs1 : ¬ (9223372036854775807 < A.size + 1) := by have := HS.out; omega
  have hs2 : ¬ (9223372036854775807 < Z1.size + C.size) := by
    rw [← hZ1, ByteArray.size_append]; have := HS.out; show ¬ (_ < A.size + 1 + C.size); omega
  have HZL : Hid (Z.data.toList = A.data.toList ++ 38 :: C.data.toList) := by show _ = _; rw [← hZ, ← hZ1]; simp
  have HZS : Hid (Z.size ≤ reachBytes) := by
    show _ ≤ _
    rw [← hZ, ← hZ1, ByteArray.size_append, ByteArray.size_append]; have := HS.out; unfold reachBytes; show A.size + 1 + C.size ≤ _; omega
  have a1 := H3.out.c0
  have b1 := H3.out.c1
  go_wp2_with fail
  refine (pairs_out Z w3 HZS.out ea em HE3.out).mono ?_
  rintro x w4 ⟨hb4, vc, rc, rfl, hoZ⟩
  have H4 := hide (H3.out.next hb4)
  have HE4 := hide (HE3.out.below hb4)
  have HOA4 := hide (HOA3.out.next hb4)
  have HOC4 := hide (HOC.out.next hb4)
  have HOZ := hide hoZ
  have HPJ : Hid (Pct.pieces Z.data.toList = Pct.pieces A.data.toList ++ Pct.pieces C.data.toList) := by show _ = _; rw [HZL.out, Pct.pieces_join]
  clear hoZ hb4 a1 b1 H3 HE3 HOA3 HOC hs1 hs2 hZ hZ1
  have ce : w4.cell? ⟨0, 0, none⟩ = some (X em) := HE4.out.mny
  have ct : w4.cell? ⟨1, 0, none⟩ = some (X ea) := HE4.out.txt
  have hqm := fun X => txt_eql X em
  have hqt := fun X => txt_eql X ea
  have hq1 := HE4.out.other
  have hqn := fun X => nil_eql X em
  have hq2 := HE4.out.other'
  rcases HOA4.out with hO | hO | hO
  · obtain ⟨hA, rfl, rfl⟩ := hO
    obtain ⟨rfl, rfl⟩ : vc = .slice none 0 0 ∧ rc = X em := by
      rcases HOZ.out with hO | hO | hO
      · obtain ⟨_, rfl, rfl⟩ := hO; exact ⟨rfl, rfl⟩
      · obtain ⟨h, _, rfl, rfl⟩ := hO; rw [HPJ.out, List.length_append] at h; omega
      · obtain ⟨_, h, _, _, rfl⟩ := hO; rw [HPJ.out, List.length_append] at h; omega
    go_wp2_with fail
    go_ret
    exact ⟨by simp, H4.out.bl⟩
  · obtain ⟨hA, hA2, rfl, rfl⟩ := hO
    rcases HOC4.out with hO | hO | hO
    · obtain ⟨hC, rfl, rfl⟩ := hO
      obtain ⟨rfl, rfl⟩ : vc = .slice none 0 0 ∧ rc = X em := by
        rcases HOZ.out with hO | hO | hO
        · obtain ⟨_, rfl, rfl⟩ := hO; exact ⟨rfl, rfl⟩
        · obtain ⟨h, _, rfl, rfl⟩ := hO; rw [HPJ.out, List.length_append] at h; omega
        · obtain ⟨_, h, _, _, rfl⟩ := hO; rw [HPJ.out, List.length_append] at h; omega
      go_wp2_with fail
      go_ret
      exact ⟨by simp, H4.out.bl⟩
    · obtain ⟨hC, hC2, rfl, rfl⟩ := hO
      obtain ⟨rfl, hrc⟩ : vc = .slice none 0 0 ∧ (rc = X em ∨ rc = X ea) := by
        rcases HOZ.out with hO | hO | hO
        · obtain ⟨_, rfl, rfl⟩ := hO; exact ⟨rfl, Or.inl rfl⟩
        · obtain ⟨_, _, rfl, rfl⟩ := hO; exact ⟨rfl, Or.inr rfl⟩
        · obtain ⟨q, _, h, _, rfl⟩ := hO; rw [HPJ.out, Pct.pairAll_app, hA2] at h; exfalso; revert h; simp
      rcases hrc with rfl | rfl
      · go_wp2_with fail
        go_ret
        exact ⟨by simp, H4.out.bl⟩
      · go_wp2_with fail
        go_ret
        exact ⟨by simp, H4.out.bl⟩
    · obtain ⟨qc, hC, hC2, hC3, rfl⟩ := hO
      obtain ⟨rfl, hrc⟩ : vc = .slice none 0 0 ∧ (rc = X em ∨ rc = X ea) := by
        rcases HOZ.out with hO | hO | hO
        · obtain ⟨_, rfl, rfl⟩ := hO; exact ⟨rfl, Or.inl rfl⟩
        · obtain ⟨_, _, rfl, rfl⟩ := hO; exact ⟨rfl, Or.inr rfl⟩
        · obtain ⟨q, _, h, _, rfl⟩ := hO; rw [HPJ.out, Pct.pairAll_app, hA2] at h; exfalso; revert h; simp
      rcases hrc with rfl | rfl
      · go_wp2_with fail
        go_ret
        exact ⟨by simp, H4.out.bl⟩
      · go_wp2_with fail
        go_ret
        exact ⟨by simp, H4.out.bl⟩
  · obtain ⟨qa, hA, hA2, hA3, rfl⟩ := hO
    rcases HOC4.out with hO | hO | hO
    · obtain ⟨hC, rfl, rfl⟩ := hO
      obtain ⟨rfl, rfl⟩ : vc = .slice none 0 0 ∧ rc = X em := by
        rcases HOZ.out with hO | hO | hO
        · obtain ⟨_, rfl, rfl⟩ := hO; exact ⟨rfl, rfl⟩
        · obtain ⟨h, _, rfl, rfl⟩ := hO; rw [HPJ.out, List.length_append] at h; omega
        · obtain ⟨_, h, _, _, rfl⟩ := hO; rw [HPJ.out, List.length_append] at h; omega
      go_wp2_with fail
      go_ret
      exact ⟨by simp, H4.out.bl⟩
    · obtain ⟨hC, hC2, rfl, rfl⟩ := hO
      obtain ⟨rfl, hrc⟩ : vc = .slice none 0 0 ∧ (rc = X em ∨ rc = X ea) := by
        rcases HOZ.out with hO | hO | hO
        · obtain ⟨_, rfl, rfl⟩ := hO; exact ⟨rfl, Or.inl rfl⟩
        · obtain ⟨_, _, rfl, rfl⟩ := hO; exact ⟨rfl, Or.inr rfl⟩
        · obtain ⟨q, _, h, _, rfl⟩ := hO; rw [HPJ.out, Pct.pairAll_app, hA2, hC2] at h; exfalso; revert h; simp
      rcases hrc with rfl | rfl
      · go_wp2_with fail
        go_ret
        exact ⟨by simp, H4.out.bl⟩
      · go_wp2_with fail
        go_ret
        exact ⟨by simp, H4.out.bl⟩
    · obtain ⟨qc, hC, hC2, hC3, rfl⟩ := hO
      have HLA : Hid ((Pct.pieces A.data.toList).length = qa.length) := (Pct.pairAll_len hA2).symm
      have HLC : Hid ((Pct.pieces C.data.toList).length = qc.length) := (Pct.pairAll_len hC2).symm
      have HPA : Hid (Pct.pairAll (Pct.pieces Z.data.toList) = some (qa ++ qc)) := by show _ = _; rw [HPJ.out, Pct.pairAll_app, hA2, hC2]; rfl
      obtain ⟨oa, ca, rfl, _⟩ := lies_of_own hA3
      obtain ⟨oc, cc, rfl, _⟩ := lies_of_own hC3
      rw [List.length_map] at hA3 hC3
      have HA3 := hide hA3
      have HC3 := hide hC3
      rw [List.length_map, List.length_map]
      have hla := HLA.out
      have hlc := HLC.out
      have hml : ∀ q : List Pct.Pr, (q.map mk).length = q.length := fun q => List.length_map ..
      clear hA2 hC2 hA3 hC3
      by_cases h33 : 33 ≤ qa.length + qc.length
      · have h33i : (32 : Int) < (qa.length : Int) + (qc.length : Int) := by omega
        obtain ⟨rfl, rfl⟩ : vc = .slice none 0 0 ∧ rc = X em := by
          rcases HOZ.out with hO | hO | hO
          · obtain ⟨_, rfl, rfl⟩ := hO; exact ⟨rfl, rfl⟩
          · obtain ⟨h, _, rfl, rfl⟩ := hO; rw [HPJ.out, List.length_append] at h; omega
          · obtain ⟨_, h, _, _, rfl⟩ := hO; rw [HPJ.out, List.length_append] at h; omega
        go_wp2_with fail
        go_ret
        exact ⟨by simp, H4.out.bl⟩
      · have h33i : ¬ (32 : Int) < (qa.length : Int) + (qc.length : Int) := by omega
        obtain ⟨rfl, HOO⟩ : rc = .nilIface ∧ Hid (w4.ownsRow w3.heap.size 34 2 vc ((qa ++ qc).map mk).length (cl ((qa ++ qc).map mk))) := by
          rcases HOZ.out with hO | hO | hO
          · obtain ⟨h, rfl, rfl⟩ := hO; rw [HPJ.out, List.length_append] at h; omega
          · obtain ⟨_, h, rfl, rfl⟩ := hO; rw [HPA.out] at h; cases h
          · obtain ⟨q, _, h, h3, rfl⟩ := hO; rw [HPA.out] at h; cases h; exact ⟨rfl, h3⟩
        have hsz := H4.out.bl.size
        go_wp2_with (at_builtin; refine wpList_spread _ rfl _ _ 22 rfl w4.heap.size 34 i0 (.agg #[.string ⟨#[]⟩, .string ⟨#[]⟩]) Tryd.underlying22 hi hz0 hz1 hz2 rfl _ _ _ rfl (World.ownsRow_nil _ _ _ _) _ (qa.map mk) rfl (by rw [hml]; exact HA3.out) ?c3 ?c4 ?c5 ?_)
        case c3 => rw [hml]; unfold maxLen; omega
        case c4 => rw [hml]; omega
        case c5 => exact Nat.le_refl _
        intro v5 w5 ho5 hb5
        have HB5 := hide hb5
        have HO5 := hide ho5
        have HC5 := hide (own_below HC3.out hb5)
        have HOZ5 := hide (own_below HOO.out hb5)
        have H5 := hide (H4.out.next hb5)
        clear ho5 hb5
        go_wp2_with (at_builtin; refine wpList_spread _ rfl _ _ 22 rfl w4.heap.size 34 i0 (.agg #[.string ⟨#[]⟩, .string ⟨#[]⟩]) Tryd.underlying22 hi hz0 hz1 hz2 rfl _ _ _ rfl HO5.out _ (qc.map mk) rfl (by rw [hml]; exact HC5.out) ?c3 ?c4 ?c5 ?_)
        case c3 => simp only [hml]; unfold maxLen; omega
        case c4 => simp only [hml]; omega
        case c5 => exact HB5.out.size
        intro v6 w6 ho6 hb6
        have HB6 := hide (HB5.out.trans hb6)
        have HLB : Hid (Lies w6 v6 ((qa ++ qc).map mk)) := by
          apply lies_of_own (base := w4.heap.size) (e := 34)
          rw [List.map_append, List.length_append, cl_app]
          first
            | exact ho6
            | (rw [hml, hml]; exact ho6)
            | (simp only [List.length_map] at ho6 ⊢; exact ho6)
        have HLZ : Hid (Lies w6 vc ((qa ++ qc).map mk)) := (lies_of_own HOO.out).below HB6.out
        have H6 := hide (H4.out.next HB6.out)
        clear ho6 hb6
        go_wp2_with fail
        refine (same_any _ _ _ w6 HLZ.out HLB.out (by rw [hml, List.length_append]; omega)).mono ?_
        rintro x w7 ⟨rfl, hb7⟩
        have H7 := hide (H6.out.next hb7)
        clear hb7
        go_wp2_with fail
        go_ret
        exact ⟨by simp, H7.out.bl⟩

end Go.Proofs.YthkbheojjcdglabDoor.pctw
