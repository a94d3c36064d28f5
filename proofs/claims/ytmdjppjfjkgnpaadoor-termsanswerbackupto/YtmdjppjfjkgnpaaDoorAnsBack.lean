import Derived.Test.YtmdjppjfjkgnpaaDoorAnsBackM
import Derived.Test.YtmdjppjfjkgnpaaDoorAnsLaid
import Derived.Test.YtmdjppjfjkgnpaaDoorSameWalks
import Derived.Laws.AppendOwnNone
namespace Go.Proofs.YtmdjppjfjkgnpaaDoor.pctw
open Go.ChangeShapes Go.WideShapes Go.ChangeAt Go.RowKit Go.Proofs.YtmdjppjfjkgnpaaDoor.common
open Go.Proofs.YtmdjppjfjkgnpaaDoor.lst (PB Lies cl cl_app cl_len infoP copied_any same_any lies_of_own own_below row_of_own own_ge)
attribute [local go_sem ↓] Go.wp_at_zero Go.wp_at_succ

theorem txt_eql (w : World) (a : Addr) : (binOp .eql 29 (X a) (X a)).run Tryd.prog w = .ok (.bool true) w := by
  obtain ⟨info, hinfo, hcomp⟩ := Option.map_eq_some_iff.1 errw.compErr
  obtain ⟨jinfo, hj1, hj2⟩ := Option.map_eq_some_iff.1 errw.sizeErr
  exact run_eql_iface_ptr_same w a Tryd.underlying29 Tryd.underlying108 hinfo hcomp hj1

theorem mk_pr (p : PB) : mk (pr p) = p := rfl
theorem map_mk (l : List PB) : (l.map pr).map mk = l := by
  rw [List.map_map]; exact List.map_id' l |>.symm ▸ (List.map_congr_left fun p _ => rfl)

/-- 'both = append(both, a...)', of rows of pairs -/
theorem wpList_spread {P : Program} (w : World) {ops : Array Oper} {rest : List Oper} {o : Oper} {a : Act} {Q : Exit → Act → World → Prop} (hgd : o.guard = none) (s x : Operand) (t : TypeId)
    (ho : o.op = .call { callee := .builtin .append, args := #[s, x], argTypes := #[t, t] })
    (base : Nat) (e : TypeId) (i : TypeInfo) (z : Value) (ht : P.underlying t = some (.slice e)) (hi : P.info? e = some i) (hz : i.zero = some z) (hsize : i.size = 2) (hby : i.bytes = 32) (hzs : z.cells.size = 2)
    (v : Value) (n : Nat) (xs : List Value) (hs : a.eval s = v) (hown : w.ownsRow base e 2 v n xs)
    (vx : Value) (l : List PB) {base' : Nat} {e' : TypeId} (hx : a.eval x = vx) (hl : w.ownsRow base' e' 2 vx l.length (cl l))
    (h63 : n + l.length ≤ maxLen) (hbytes : (n + l.length) * 32 ≤ 140737488355328) (hbase : base ≤ w.heap.size)
    (h : ∀ v' w', w'.ownsRow base e 2 v' (n + l.length) (xs ++ cl l) → Below base w w' → wpList P ops Q rest (a.put o.dst v') w') : wpList P ops Q (o :: rest) a w := by
  rcases row_of_own hl with ⟨rfl, rfl⟩ | ⟨g, cap, rfl, _, hg, hr, _⟩
  · refine wpList_append_own_none hgd s x t ho base e i 2 ht hi v n xs hs hown hx (h v w (by simpa [cl] using hown) (Below.refl _ _))
  · refine wpList_append_own w hgd s x t ho base e i z 2 32 ht hi hz hsize hby hzs (by decide) v n xs hs hown ⟨g, 0, none⟩ l.length cap (cl l) hx (cl_len l) ?_ ?_ h63 hbytes hbase ?_
    · intro j u hu
      rw [Addr.add_mid]
      exact hr.2 j u hu
    · intro u hu
      have : ∀ (l : List PB), ∀ u ∈ cl l, u.oneCell' = true := by
        intro l
        induction l with
        | nil => intro u hu; cases hu
        | cons p r ih =>
          intro u hu
          simp only [cl, List.mem_cons] at hu
          rcases hu with rfl | rfl | hu
          · rfl
          · rfl
          · exact ih u hu
      exact this l u hu
    · intro v' w' ho' hgrow _
      exact h v' w' ho' ((Below.refl _ _).grown hgrow hbase (own_ge hown))

theorem nil_eqIn (d : Nat) (w : World) (a : Addr) : (Op.equalIn (d + 1) 29 .nilIface (X a)).run Tryd.prog w = .ok false w := by
  rw [Op.equalIn]
  simp [run_underlying Tryd.underlying29]
theorem nil_eql (w : World) (a : Addr) : (binOp .eql 29 .nilIface (X a)).run Tryd.prog w = .ok (.bool false) w := by
  simp only [binOp]
  simp [Op.equal, Op.maxDepth, nil_eqIn 9999 w a]

/-- how a text is read -/
def Out (ea em : Addr) (w0 w : World) (s : ByteArray) (v r : Value) : Prop :=
  (33 ≤ (Pct.pieces s.data.toList).length ∧ v = .slice none 0 0 ∧ r = X em) ∨
  ((Pct.pieces s.data.toList).length ≤ 32 ∧ Pct.pairAll (Pct.pieces s.data.toList) = none ∧ v = .slice none 0 0 ∧ r = X ea) ∨
  ∃ q : List Pct.Pr, (Pct.pieces s.data.toList).length ≤ 32 ∧ Pct.pairAll (Pct.pieces s.data.toList) = some q ∧ w.ownsRow w0.heap.size 33 2 v (q.map mk).length (cl (q.map mk)) ∧ r = .nilIface
theorem Out.many {ea em : Addr} {w0 w : World} {s : ByteArray} (h : 33 ≤ (Pct.pieces s.data.toList).length) : Out ea em w0 w s (.slice none 0 0) (X em) := Or.inl ⟨h, rfl, rfl⟩
theorem Out.text {ea em : Addr} {w0 w : World} {s : ByteArray} (h : (Pct.pieces s.data.toList).length ≤ 32) (h2 : Pct.pairAll (Pct.pieces s.data.toList) = none) : Out ea em w0 w s (.slice none 0 0) (X ea) := Or.inr (Or.inl ⟨h, h2, rfl, rfl⟩)
theorem Out.good {ea em : Addr} {w0 w : World} {s : ByteArray} (q : List Pct.Pr) (v : Value) (h : (Pct.pieces s.data.toList).length ≤ 32) (h2 : Pct.pairAll (Pct.pieces s.data.toList) = some q) (h3 : w.ownsRow w0.heap.size 33 2 v (q.map mk).length (cl (q.map mk))) : Out ea em w0 w s v .nilIface := Or.inr (Or.inr ⟨q, h, h2, h3, rfl⟩)

theorem Out.next {ea em : Addr} {w0 w w' : World} {s : ByteArray} {v r : Value} (h : Out ea em w0 w s v r) (hb : Below w.heap.size w w') : Out ea em w0 w' s v r := by
  rcases h with hO | hO | hO
  · obtain ⟨h, rfl, rfl⟩ := hO; exact .many h
  · obtain ⟨h, h2, rfl, rfl⟩ := hO; exact .text h h2
  · obtain ⟨q, h, h2, h3, rfl⟩ := hO; exact .good q v h h2 (own_below h3 hb)

theorem pairs_out (s : ByteArray) (w : World) (hs : s.size ≤ reachBytes) (ea em : Addr) (h : Errs2 w ea em) :
    Calls Tryd.prog 13 #[.string s] w fun x w' => Below w.heap.size w w' ∧ ∃ v r, x = .returned (.tuple #[v, r]) ∧ Out ea em w w' s v r := by
  refine (pairs_any s w hs ea em h.txt h.mny).mono ?_
  rintro x w' ⟨hb, ⟨h1, rfl⟩ | ⟨h1, h2, rfl⟩ | ⟨h1, q, v, h2, rfl, h3⟩⟩
  · exact ⟨hb, _, _, rfl, .many h1⟩
  · exact ⟨hb, _, _, rfl, .text h1 h2⟩
  · exact ⟨hb, _, _, rfl, .good q v h1 h2 h3⟩

/-- a struct of two cells, laid in memory -/
structure TwoAt (w0 w : World) (b : Nat) (x y : Value) : Prop where
  c0 : w.cell? ⟨b, 0, none⟩ = some x
  c1 : w.cell? ⟨b, 1, none⟩ = some y
  bl : Below w0.heap.size w0 w
  lt : b < w.heap.size
theorem twoAt_new (w : World) (x y : Value) (t : TypeId) : TwoAt w (w.alloc (.cells #[x, y] t)) w.heap.size x y := by
  refine ⟨?_, ?_, (Below.refl _ _).alloc (Nat.le_refl _) _, by simp⟩
  · exact range_new w #[x, y] t 0 x rfl
  · exact range_new w #[x, y] t 1 y rfl
theorem TwoAt.next {w0 w w' : World} {b : Nat} {x y : Value} (h : TwoAt w0 w b x y) (hb : Below w.heap.size w w') : TwoAt w0 w' b x y :=
  ⟨(hb.cell h.lt).trans h.c0, (hb.cell h.lt).trans h.c1, h.bl.trans (hb.mono h.bl.size), Nat.lt_of_lt_of_le h.lt hb.size⟩
theorem TwoAt.drew {w0 w : World} {b : Nat} {x y : Value} (h : TwoAt w0 w b x y) : TwoAt w0 w.drew b x y := ⟨h.c0, h.c1, h.bl.drew, h.lt⟩

end Go.Proofs.YtmdjppjfjkgnpaaDoor.pctw

namespace Go.Proofs.YtmdjppjfjkgnpaaDoor.tm
open Go.ChangeShapes Go.WideShapes Go.ChangeAt Go.RowKit Go.Proofs.YtmdjppjfjkgnpaaDoor.common Go.Proofs.YtmdjppjfjkgnpaaDoor.bk
open Go.Proofs.YtmdjppjfjkgnpaaDoor.fd (before behind)
open Go.Proofs.YtmdjppjfjkgnpaaDoor.lst (PB Lies cl cl_app infoP copied_any same_any lies_of_own)
open Go.Proofs.YtmdjppjfjkgnpaaDoor.pctw (X Txt Mny Tab pr tot mk Errs2 Out pairs_out TwoAt twoAt_new wpList_spread nil_eql txt_eql map_mk)
attribute [local go_sem ↓] Go.wp_at_zero Go.wp_at_succ

theorem ans_three (ea em : Addr) (A : ByteArray) (q : List PB) : ∃ (T : ByteArray) (r : Value), S (ansR ea em A.data.toList q).1 = .string T ∧ (ansR ea em A.data.toList q).2 = r ∧
    ((redL A.data.toList = false ∧ T = ⟨#[]⟩ ∧ r = X ea) ∨ (redL A.data.toList = true ∧ 32 < q.length ∧ T = ⟨#[]⟩ ∧ r = X em) ∨ (redL A.data.toList = true ∧ q.length ≤ 32 ∧ T.data.toList = outL A.data.toList q ∧ r = .nilIface)) := by
  refine ⟨⟨(ansR ea em A.data.toList q).1.toArray⟩, _, rfl, rfl, ?_⟩
  unfold ansR outL
  cases hr : redL A.data.toList with
  | false => rw [if_pos rfl]; exact Or.inl ⟨rfl, rfl, rfl⟩
  | true =>
    rw [if_neg (by decide)]
    by_cases h : 32 < q.length
    · rw [if_pos h]; exact Or.inr (Or.inl ⟨rfl, h, rfl, rfl⟩)
    · rw [if_neg h]
      refine Or.inr (Or.inr ⟨rfl, by omega, ?_, ?_⟩)
      · by_cases hq : q = []
        · rw [if_pos hq, if_pos hq]
        · rw [if_neg hq, if_neg hq]
      · by_cases hq : q = []
        · rw [if_pos hq]
        · rw [if_neg hq]
theorem out_size (A : ByteArray) (q : List PB) (T : ByteArray) (h : T.data.toList = outL A.data.toList q) : T.size ≤ A.size + 1 + 3 * tot q := by
  rw [← len_list, h]
  unfold outL
  by_cases hq : q = []
  · rw [if_pos hq, len_list]; omega
  · rw [if_neg hq]
    unfold ansL
    rw [List.length_append, List.length_append, len_list]
    have h1 := pctw.form_len q
    have h2 : (jntL A.data.toList).length ≤ 1 := by
      rcases jnt_cases A.data.toList with ⟨_, h⟩ | ⟨_, _, h⟩ | ⟨_, _, h⟩ <;> rw [h] <;> decide
    omega

set_option maxRecDepth 100000 in
set_option maxHeartbeats 6400000 in
theorem lawAnswerBack (A : ByteArray) (v : Value) (q : List PB) (w : World) (ea em : Addr) (hl : Lies w v q) (he : AEnv w ea em) (hx : Errs2 w ea em) (hs : tot q + q.length + A.size ≤ 1048576) :
    Calls Tryd.prog 5 #[.agg #[.string A, v]] w fun e w' => e = .returned (.bool true) ∧ Below w.heap.size w w' := by
  obtain ⟨i0, hi, hz0, hz1, hz2⟩ := info_parts infoP
  obtain ⟨ov, cv, rfl, _⟩ := id hl
  have HL := hide hl
  have HE := hide he
  have HX := hide hx
  have HS := hide hs
  have H0 := hide (twoAt_new w (.string A) (.slice ov q.length cv) 27)
  obtain ⟨T, r, eT, er, hK⟩ := ans_three ea em A q
  have HAns : Hid (∀ W, Below w.heap.size w W → Calls Tryd.prog 10 #[.string A, .slice ov q.length cv] W fun e w' => e = .returned (.tuple #[.string T, r]) ∧ Below W.heap.size W w') := fun W hb => by
    have := answer_any A _ q W ea em (HL.out.below hb) (HE.out.below hb) (by omega) (by omega)
    rw [eT, er] at this
    exact this
  have HK := hide hK
  have a0 := H0.out.c0
  have a1 := H0.out.c1
  clear hl he hx hs hK eT er
  go_enter Tryd.func5, Tryd.ntmps5
  go_wp2_with fail
  refine (copied_any _ q _ (HL.out.below H0.out.bl) (by have := HS.out; omega)).mono ?_
  rintro x w1 ⟨v1, rfl, ho1, hb1⟩
  have H1 := hide (H0.out.next hb1)
  have HO1 := hide ho1
  obtain ⟨o1, c1, rfl, _⟩ := lies_of_own ho1
  clear ho1 hb1 a0 a1 H0
  have a0 := H1.out.c0
  have a1 := H1.out.c1
  go_wp2_with fail
  refine (HAns.out _ H1.out.bl).mono ?_
  rintro x w2 ⟨rfl, hb2⟩
  have H2 := hide (H1.out.next hb2)
  have HO2 := hide (lst.own_below HO1.out hb2)
  clear hb2 a0 a1 H1 HO1
  have a0 := H2.out.c0
  go_wp2_with fail
  refine (red_any A w2 (HE.out.below H2.out.bl).nums (HE.out.below H2.out.bl).loc).mono ?_
  rintro x w3 ⟨rfl, hb3⟩
  have H3 := hide (H2.out.next hb3)
  have HO3 := hide (lst.own_below HO2.out hb3)
  have HE3 := hide (HE.out.below H3.out.bl)
  have HX3 := hide (HX.out.below H3.out.bl)
  clear hb3 a0 H2 HO2
  have ce : w3.cell? ⟨1, 0, none⟩ = some (X em) := HX3.out.mny
  have ct : w3.cell? ⟨0, 0, none⟩ = some (X ea) := HX3.out.txt
  have hqm := fun W => txt_eql W em
  have hqt := fun W => txt_eql W ea
  rcases HK.out with ⟨hr, rfl, rfl⟩ | ⟨hr, hm, rfl, rfl⟩ | ⟨hr, hm, hT, rfl⟩
  · rw [hr]
    clear hr HK
    go_wp2_with fail
    go_ret
    exact ⟨by simp, H3.out.bl⟩
  · rw [hr]
    have hmi : (32 : Int) < (q.length : Int) := by omega
    clear hr HK
    go_wp2_with fail
    go_ret
    exact ⟨by simp, H3.out.bl⟩
  · rw [hr]
    have hmi : ¬ (32 : Int) < (q.length : Int) := by omega
    have hTs := out_size A q T hT
    obtain ⟨xs, hxs⟩ := red_pairs hr
    have HXS := hide hxs
    have HXQ := hide (out_pairs hxs q)
    have HPJ := hide (out_pieces A.data.toList q)
    have HB1 : Hid (∀ W, Calls Tryd.prog 12 #[.string T] W fun e w' => e = .returned (.tuple #[S (before 63 A.data.toList), S (behind 63 T.data.toList), .bool (T.data.toList.contains 63)]) ∧ Below W.heap.size W w') := fun W => by
      have := split_any T W (by have := HS.out; omega)
      rw [show before 63 T.data.toList = before 63 A.data.toList by rw [hT, out_before]] at this
      exact this
    have HB2 := hide (fun W => split_any A W (by have := HS.out; omega))
    have l1 := behind_le 63 A.data.toList
    have l2 := behind_le 63 T.data.toList
    rw [len_list] at l1 l2
    obtain ⟨B, hB⟩ : ∃ B : ByteArray, (⟨(before 63 A.data.toList).toArray⟩ : ByteArray) = B := ⟨_, rfl⟩
    obtain ⟨O, hO⟩ : ∃ O : ByteArray, (⟨(behind 63 A.data.toList).toArray⟩ : ByteArray) = O := ⟨_, rfl⟩
    obtain ⟨Q, hQ⟩ : ∃ Q : ByteArray, (⟨(behind 63 T.data.toList).toArray⟩ : ByteArray) = Q := ⟨_, rfl⟩
    have hOl : behind 63 A.data.toList = O.data.toList := by rw [← hO]
    have hQl : behind 63 T.data.toList = Q.data.toList := by rw [← hQ]
    rw [← hT, hQl, hOl] at HPJ
    rw [← hT, hQl] at HXQ
    rw [hOl] at HXS
    have hOs : O.size ≤ 1048576 := by rw [← hO, str_size]; have := HS.out; omega
    have hQs : Q.size ≤ 4194304 := by rw [← hQ, str_size]; have := HS.out; omega
    rw [show S (before 63 A.data.toList) = .string B from congrArg Value.string hB, show S (behind 63 T.data.toList) = .string Q from congrArg Value.string hQ] at HB1
    rw [show S (before 63 A.data.toList) = .string B from congrArg Value.string hB, show S (behind 63 A.data.toList) = .string O from congrArg Value.string hO] at HB2
    generalize T.data.toList.contains 63 = f1 at *
    generalize A.data.toList.contains 63 = f2 at *
    have hm2 : q.length ≤ 32 := hm
    clear hr HK hxs hT hB hO hQ hOl hQl l1 l2 hTs
    have a0 := H3.out.c0
    go_wp2_with fail
    refine (HB1.out _).mono ?_
    rintro x w4 ⟨rfl, hb4⟩
    have H4 := hide (H3.out.next hb4)
    have HO4 := hide (lst.own_below HO3.out hb4)
    clear hb4 a0 H3 HO3 ce ct
    have a0 := H4.out.c0
    go_wp2_with fail
    refine (HB2.out _).mono ?_
    rintro x w5 ⟨rfl, hb5⟩
    have H5 := hide (H4.out.next hb5)
    have HO5 := hide (lst.own_below HO4.out hb5)
    have HX5 := hide (HX.out.below H5.out.bl)
    clear hb5 a0 H4 HO4
    go_wp2_with fail
    refine (pairs_out O w5 (by unfold reachBytes; omega) ea em HX5.out).mono ?_
    rintro x w6 ⟨hb6, va, ra, rfl, hoA⟩
    have H6 := hide (H5.out.next hb6)
    have HO6 := hide (lst.own_below HO5.out hb6)
    have HX6 := hide (HX5.out.below hb6)
    have HOA := hide hoA
    clear hoA hb6 H5 HO5 HX5
    go_wp2_with fail
    refine (pairs_out Q w6 (by unfold reachBytes; omega) ea em HX6.out).mono ?_
    rintro x w7 ⟨hb7, vb, rb, rfl, hoB⟩
    have H7 := hide (H6.out.next hb7)
    have HO7 := hide (lst.own_below HO6.out hb7)
    have HX7 := hide (HX6.out.below hb7)
    have HOA7 := hide (HOA.out.next hb7)
    have HOB := hide hoB
    clear hoB hb7 H6 HO6 HX6 HOA HX3 HE3
    have ce : w7.cell? ⟨1, 0, none⟩ = some (X em) := HX7.out.mny
    have hqn := fun W => nil_eql W em
    have hml : ∀ q : List Pct.Pr, (q.map mk).length = q.length := fun q => List.length_map ..
    have hpl : (Pct.pieces Q.data.toList).length = (Pct.pieces O.data.toList).length + q.length := by rw [HPJ.out, List.length_append, List.length_map, List.length_map]
    have HPL := hide hpl
    clear hpl
    rcases HOA7.out with hO | hO | hO
    · obtain ⟨hA, rfl, rfl⟩ := hO
      obtain ⟨rfl, rfl⟩ : vb = .slice none 0 0 ∧ rb = X em := by
        have hpl := HPL.out
        rcases HOB.out with hO | hO | hO
        · obtain ⟨_, rfl, rfl⟩ := hO; exact ⟨rfl, rfl⟩
        · obtain ⟨h, _, rfl, rfl⟩ := hO; omega
        · obtain ⟨_, h, _, _, rfl⟩ := hO; omega
      clear hA
      go_wp2_with fail
      go_ret
      exact ⟨by simp, H7.out.bl⟩
    · obtain ⟨_, hA2, _, _⟩ := hO
      rw [HXS.out] at hA2; cases hA2
    · obtain ⟨qa, hA, hA2, hA3, rfl⟩ := hO
      rw [HXS.out] at hA2
      obtain rfl := Option.some.inj hA2
      have hla : (Pct.pieces O.data.toList).length = xs.length := (Pct.pairAll_len HXS.out).symm
      obtain ⟨oa, ca, rfl, _⟩ := lies_of_own hA3
      rw [List.length_map] at hA3
      have HA3 := hide hA3
      rw [List.length_map]
      have hA' : xs.length ≤ 32 := by omega
      have HLA := hide hla
      clear hA2 hA3 hA hla
      by_cases h33 : 33 ≤ xs.length + q.length
      · have h33i : (32 : Int) < (xs.length : Int) + (q.length : Int) := by omega
        obtain ⟨rfl, rfl⟩ : vb = .slice none 0 0 ∧ rb = X em := by
          have hpl := HPL.out
          have hla := HLA.out
          rcases HOB.out with hO | hO | hO
          · obtain ⟨_, rfl, rfl⟩ := hO; exact ⟨rfl, rfl⟩
          · obtain ⟨h, _, rfl, rfl⟩ := hO; omega
          · obtain ⟨_, h, _, _, rfl⟩ := hO; omega
        go_wp2_with fail
        go_ret
        exact ⟨by simp, H7.out.bl⟩
      · have h33i : ¬ (32 : Int) < (xs.length : Int) + (q.length : Int) := by omega
        obtain ⟨rfl, HOO⟩ : rb = .nilIface ∧ Hid (w7.ownsRow w6.heap.size 33 2 vb ((xs ++ q.map pr).map mk).length (cl ((xs ++ q.map pr).map mk))) := by
          have hpl := HPL.out
          have hla := HLA.out
          rcases HOB.out with hO | hO | hO
          · obtain ⟨h, rfl, rfl⟩ := hO; omega
          · obtain ⟨_, h, rfl, rfl⟩ := hO; rw [HXQ.out] at h; cases h
          · obtain ⟨_, _, h, h3, rfl⟩ := hO; rw [HXQ.out] at h; cases h; exact ⟨rfl, h3⟩
        rw [List.map_append, map_mk] at HOO
        have hsz := H7.out.bl.size
        go_wp2_with (at_builtin; refine wpList_spread _ rfl _ _ 25 rfl w7.heap.size 33 i0 (.agg #[.string ⟨#[]⟩, .string ⟨#[]⟩]) Tryd.underlying25 hi hz0 hz1 hz2 rfl _ _ _ rfl (World.ownsRow_nil _ _ _ _) _ (xs.map mk) rfl (by rw [hml]; exact HA3.out) ?c3 ?c4 ?c5 ?_)
        case c3 => rw [hml]; unfold maxLen; omega
        case c4 => rw [hml]; omega
        case c5 => exact Nat.le_refl _
        intro v8 w8 ho8 hb8
        have HB8 := hide hb8
        have HOr8 := hide ho8
        have HC8 := hide (lst.own_below HO7.out hb8)
        have H8 := hide (H7.out.next hb8)
        clear ho8 hb8
        go_wp2_with (at_builtin; refine wpList_spread _ rfl _ _ 25 rfl w7.heap.size 33 i0 (.agg #[.string ⟨#[]⟩, .string ⟨#[]⟩]) Tryd.underlying25 hi hz0 hz1 hz2 rfl _ _ _ rfl HOr8.out _ q rfl HC8.out ?c6 ?c7 ?c8 ?_)
        case c6 => first | (unfold maxLen; omega) | (rw [hml]; unfold maxLen; omega)
        case c7 => first | omega | (rw [hml]; omega)
        case c8 => exact HB8.out.size
        intro v9 w9 ho9 hb9
        have HB9 := hide (HB8.out.trans hb9)
        have HLB : Hid (Lies w9 v9 (xs.map mk ++ q)) := by
          apply lies_of_own (base := w7.heap.size) (e := 33)
          rw [List.length_append, cl_app]
          first
            | exact ho9
            | (rw [hml]; exact ho9)
            | (simp only [List.length_map] at ho9 ⊢; exact ho9)
        have HLZ : Hid (Lies w9 vb (xs.map mk ++ q)) := (lies_of_own HOO.out).below HB9.out
        have H9 := hide (H7.out.next HB9.out)
        clear ho9 hb9
        go_wp2_with fail
        refine (same_any _ _ _ w9 HLZ.out HLB.out (by rw [List.length_append, hml]; omega)).mono ?_
        rintro x w10 ⟨rfl, hb10⟩
        have H10 := hide (H9.out.next hb10)
        clear hb10
        go_wp2_with fail
        go_ret
        exact ⟨by simp, H10.out.bl⟩
end Go.Proofs.YtmdjppjfjkgnpaaDoor.tm
