import Derived.Test.YtobflealcldgnaaGreatDoorRefMeant
import Derived.Test.YtobflealcldgnaaGreatDoorRcRefC
import Derived.Test.YtobflealcldgnaaGreatDoorErrWalks
import Derived.Test.YtobflealcldgnaaGreatDoorTmRed
import Derived.LaidLaws
import Derived.Stop.LaidErr
import Derived.Lib.LaidU8
import Derived.Test.YtobflealcldgnaaGreatDoorScopeOrdM
import Derived.Test.YtobflealcldgnaaGreatDoorSplitWalks
import Derived.LaidMore
import Derived.Lib.LaidTab
namespace Go.Proofs.YtobflealcldgnaaGreatDoor.rc
open Go.ChangeShapes Go.WideShapes Go.ChangeAt Go.RowKit Go.Proofs.YtobflealcldgnaaGreatDoor.common Go.Proofs.YtobflealcldgnaaGreatDoor.ss
attribute [local go_sem ↓] Go.wp_at_zero Go.wp_at_succ

abbrev rcl (r : Rec) (v : Value) : List Value := [.int .i64 r.k, .string r.id, .string r.us, .string r.cl, .string r.rd, .string r.ch, .string r.cd, v, .int .i64 r.at_]
theorem range_alloc (w : World) (r : Rec) (v : Value) (t : TypeId) : (w.alloc (.cells (rcs r v) t)).rangeAt w.heap.size 0 (rcl r v) := dk.range_of (t := t) (heap_alloc_new w _)
/-- what a law has at hand when a record was lent: the record's own box, the twin's box with the lent list -/
structure Lent (w : World) (r : Rec) (v vt va : Value) (T base : Nat) (X : World) : Prop where
  low : Below w.heap.size w X
  box : X.rangeAt w.heap.size 0 (rcl r v)
  twin : X.rangeAt T 0 (rcl r vt)
  lt : w.heap.size < X.heap.size ∧ T < X.heap.size
  own : Lies X v r.ss
  head : Lies X vt r.ss
  all : X.ownsRow base 9 1 va (r.ss ++ marks).length (sc (r.ss ++ marks))
theorem Lent.below {w : World} {r : Rec} {v vt va : Value} {T base : Nat} {X Y : World} (h : Lent w r v vt va T base X) (hb : Below X.heap.size X Y) : Lent w r v vt va T base Y :=
  ⟨keepW h.low hb, dk.range_block h.box (hb.block _ h.lt.1), dk.range_block h.twin (hb.block _ h.lt.2), ⟨Nat.lt_of_lt_of_le h.lt.1 hb.size, Nat.lt_of_lt_of_le h.lt.2 hb.size⟩, h.own.below hb, h.head.below hb, dk.own_below h.all hb⟩

end Go.Proofs.YtobflealcldgnaaGreatDoor.rc

namespace Go.Proofs.YtobflealcldgnaaGreatDoor.tm
open Go.ChangeShapes Go.WideShapes Go.ChangeAt Go.RowKit Go.Proofs.YtobflealcldgnaaGreatDoor.common Go.Proofs.YtobflealcldgnaaGreatDoor.bk
open Go.Shelf Go.Lib

theorem rngG : Tryz.prog.globalNamed "strconv.ErrRange" = some 27 := by kernel_rfl
theorem rngT : (Tryz.prog.globals[27]?).map (·.type) = some 29 := by kernel_rfl
theorem synG : Tryz.prog.globalNamed "strconv.ErrSyntax" = some 26 := by kernel_rfl
theorem synT : (Tryz.prog.globals[26]?).map (·.type) = some 29 := by kernel_rfl
theorem nums_of_laid {W : World} {rest : List (String × DataW Unit)} (h : laidMet Tryz.prog (("strconv.ErrRange", Rows.laid_strconv_ErrRange) :: ("strconv.ErrSyntax", Rows.laid_strconv_ErrSyntax) :: rest) W) : Nums W := by
  obtain ⟨ps, h0, _, hrows⟩ := h
  obtain ⟨a0, q0, c0, h1, rfl⟩ := errw.peel h0 (fun b off hm => hrows b off (by simp [hm])) rngG rngT Tryz.underlying29 errw.rowErr Tryz.underlying182 Tryz.underlying184 rfl rfl Tryz.underlying9 errw.cellsErr errw.cellsStr
  obtain ⟨a1, q1, c1, h2, rfl⟩ := errw.peel h1 (fun b off hm => hrows b off (by simp [hm])) synG synT Tryz.underlying29 errw.rowErr Tryz.underlying182 Tryz.underlying184 rfl rfl Tryz.underlying9 errw.cellsErr errw.cellsStr
  exact ⟨⟨_, _, c1⟩, ⟨_, _, c0⟩⟩
theorem locG : Tryz.prog.globalNamed "usher/terms.localHosts" = some 23 := by kernel_rfl
theorem locTy : (Tryz.prog.globals[23]?).map (·.type) = some 118 := by kernel_rfl
theorem loc_is : (Rows.laid_usher_terms_localHosts : DataW Unit) = .agg ((List.range 3).map fun i => .lit (.string (tH i))) := by kernel_rfl
theorem loc_of_laid {w : World} {l : List (String × DataW Unit)} (h : laidMet Tryz.prog l w) (h1 : ("usher/terms.localHosts", Rows.laid_usher_terms_localHosts) ∈ l) : Loc w := by
  have a := laidMet.reads h h1
  rw [loc_is] at a
  have key : ∀ i, i < 3 → w.cell? ⟨23, i, none⟩ = some (S (tH i)) := by
    intro i hi
    obtain ⟨g, t, cs, fuel, p, hg, hty, hvar, hd⟩ := a
    obtain rfl := Option.some.inj (locG.symm.trans hg)
    obtain rfl := Option.some.inj (locTy.symm.trans hty)
    obtain ⟨fuel', d, q, hdi, he⟩ := array_elem Tryz.underlying118 hd i hi
    simp only [List.getElem?_map, List.getElem?_range hi, Option.map_some, Option.some.injEq] at hdi
    subst hdi
    rw [errw.cellsStr] at he
    obtain ⟨z, e0, f0⟩ := DataW.trod_string Tryz.underlying9 he
    have f1 : (DataW.lit (.string (tH i)) : DataW Unit) = _ := congrArg Prod.fst f0.1
    simp only [DataW.lit.injEq, Lit.string.injEq] at f1
    have e0 := congrArg (·[0]?) e0
    simp only [List.getElem?_take, List.getElem?_drop] at e0
    rw [World.var?_cell hg hvar i, ← Array.getElem?_toList]
    have : S (tH i) = .string z := congrArg Value.string (ba_ext f1)
    rw [this]
    simpa using e0
  intro j v hv
  have hj : j < 3 := by
    have := (List.getElem?_eq_some_iff.1 hv).1
    exact this
  match j, hj with
  | 0, _ => rw [← hv]; exact key 0 (by decide)
  | 1, _ => rw [← hv]; exact key 1 (by decide)
  | 2, _ => rw [← hv]; exact key 2 (by decide)

end Go.Proofs.YtobflealcldgnaaGreatDoor.tm

namespace Go.Proofs.YtobflealcldgnaaGreatDoor.rc
open Go.ChangeShapes Go.WideShapes Go.ChangeAt Go.RowKit Go.Joins Go.Deep Go.WideElems Go.Maps Go.Proofs.YtobflealcldgnaaGreatDoor.common Go.Proofs.YtobflealcldgnaaGreatDoor.ss

theorem kfG : Tryz.prog.globalNamed "usher/record.kindFields" = some 21 := by kernel_rfl
theorem kfT : (Tryz.prog.globals[21]?).map (·.type) = some 72 := by kernel_rfl
theorem kfC : Tryz.prog.cellsOf 72 = 12 := by kernel_rfl
theorem intC : Tryz.prog.cellsOf 3 = 1 := by kernel_rfl
theorem boolC : Tryz.prog.cellsOf 4 = 1 := by kernel_rfl
theorem boolsC : Tryz.prog.cellsOf 66 = 12 := by kernel_rfl
theorem ktab_of {W : World} {rest : List (String × DataW Unit)} (h : laidMet Tryz.prog (("usher/record.kindFields", Rows.laid_usher_record_kindFields) :: rest) W) : KTab W := by
  have t : Lib.TabIs Tryz.prog W "usher/record.kindFields" .i64 kf := Lib.tabIs_of_head (rest := rest) kfG kfT Tryz.underlying72 Tryz.underlying3 intC kfC h
  intro i hi
  rw [t.cell kfG i (by simpa [kf] using hi)]
theorem flags_laid {W : World} {rest : List (String × DataW Unit)} {name : String} {D : DataW Unit} {g : Nat} {zs : List Bool} (hG : Tryz.prog.globalNamed name = some g) (hT : (Tryz.prog.globals[g]?).map (·.type) = some 66) (hD : D = .agg (zs.map fun b => .lit (.bool b)))
    (h : laidMet Tryz.prog ((name, D) :: rest) W) : ∀ i, i < 12 → W.cell? ⟨g, i, none⟩ = some (.bool (zs.getD i false)) := by
  obtain ⟨ps, ⟨g', t', cs, fuel, p, q, hg', ht', hvar, hd, _, _⟩, _⟩ := h
  obtain rfl := Option.some.inj (hG.symm.trans hg')
  obtain rfl := Option.some.inj (hT.symm.trans ht')
  rw [hD] at hd
  intro n hn
  have h1 := pk.flags_of hd Tryz.underlying66 Tryz.underlying4 boolC boolsC n hn
  rw [World.var?_cell hG hvar n]
  simpa using h1
theorem g_hasID : Tryz.prog.globalNamed "usher/usherref14.hasID" = some 13 := by kernel_rfl
theorem y_hasID : (Tryz.prog.globals[13]?).map (·.type) = some 66 := by kernel_rfl
theorem d_hasID : (Rows.laid_usher_usherref14_hasID : DataW Unit) = .agg (T_hasID.map fun b => .lit (.bool b)) := by rfl
theorem g_hasUser : Tryz.prog.globalNamed "usher/usherref14.hasUser" = some 14 := by kernel_rfl
theorem y_hasUser : (Tryz.prog.globals[14]?).map (·.type) = some 66 := by kernel_rfl
theorem d_hasUser : (Rows.laid_usher_usherref14_hasUser : DataW Unit) = .agg (T_hasUser.map fun b => .lit (.bool b)) := by rfl
theorem g_hasClient : Tryz.prog.globalNamed "usher/usherref14.hasClient" = some 15 := by kernel_rfl
theorem y_hasClient : (Tryz.prog.globals[15]?).map (·.type) = some 66 := by kernel_rfl
theorem d_hasClient : (Rows.laid_usher_usherref14_hasClient : DataW Unit) = .agg (T_hasClient.map fun b => .lit (.bool b)) := by rfl
theorem g_hasRedirect : Tryz.prog.globalNamed "usher/usherref14.hasRedirect" = some 16 := by kernel_rfl
theorem y_hasRedirect : (Tryz.prog.globals[16]?).map (·.type) = some 66 := by kernel_rfl
theorem d_hasRedirect : (Rows.laid_usher_usherref14_hasRedirect : DataW Unit) = .agg (T_hasRedirect.map fun b => .lit (.bool b)) := by rfl
theorem g_hasChallenge : Tryz.prog.globalNamed "usher/usherref14.hasChallenge" = some 17 := by kernel_rfl
theorem y_hasChallenge : (Tryz.prog.globals[17]?).map (·.type) = some 66 := by kernel_rfl
theorem d_hasChallenge : (Rows.laid_usher_usherref14_hasChallenge : DataW Unit) = .agg (T_hasChallenge.map fun b => .lit (.bool b)) := by rfl
theorem g_hasCode : Tryz.prog.globalNamed "usher/usherref14.hasCode" = some 18 := by kernel_rfl
theorem y_hasCode : (Tryz.prog.globals[18]?).map (·.type) = some 66 := by kernel_rfl
theorem d_hasCode : (Rows.laid_usher_usherref14_hasCode : DataW Unit) = .agg (T_hasCode.map fun b => .lit (.bool b)) := by rfl
theorem g_hasScopes : Tryz.prog.globalNamed "usher/usherref14.hasScopes" = some 19 := by kernel_rfl
theorem y_hasScopes : (Tryz.prog.globals[19]?).map (·.type) = some 66 := by kernel_rfl
theorem d_hasScopes : (Rows.laid_usher_usherref14_hasScopes : DataW Unit) = .agg (T_hasScopes.map fun b => .lit (.bool b)) := by rfl
theorem g_hasAt : Tryz.prog.globalNamed "usher/usherref14.hasAt" = some 20 := by kernel_rfl
theorem y_hasAt : (Tryz.prog.globals[20]?).map (·.type) = some 66 := by kernel_rfl
theorem d_hasAt : (Rows.laid_usher_usherref14_hasAt : DataW Unit) = .agg (T_hasAt.map fun b => .lit (.bool b)) := by rfl
theorem htab_of {W : World} {rest : List (String × DataW Unit)} (h : laidMet Tryz.prog (("usher/usherref14.hasID", Rows.laid_usher_usherref14_hasID) :: ("usher/usherref14.hasUser", Rows.laid_usher_usherref14_hasUser) :: ("usher/usherref14.hasClient", Rows.laid_usher_usherref14_hasClient) :: ("usher/usherref14.hasRedirect", Rows.laid_usher_usherref14_hasRedirect) :: ("usher/usherref14.hasChallenge", Rows.laid_usher_usherref14_hasChallenge) :: ("usher/usherref14.hasCode", Rows.laid_usher_usherref14_hasCode) :: ("usher/usherref14.hasScopes", Rows.laid_usher_usherref14_hasScopes) :: ("usher/usherref14.hasAt", Rows.laid_usher_usherref14_hasAt) :: rest) W) : HTab W :=
  ⟨flags_laid g_hasID y_hasID d_hasID h,
   flags_laid g_hasUser y_hasUser d_hasUser (laidMet.tail h),
   flags_laid g_hasClient y_hasClient d_hasClient (laidMet.tail (laidMet.tail h)),
   flags_laid g_hasRedirect y_hasRedirect d_hasRedirect (laidMet.tail (laidMet.tail (laidMet.tail h))),
   flags_laid g_hasChallenge y_hasChallenge d_hasChallenge (laidMet.tail (laidMet.tail (laidMet.tail (laidMet.tail h)))),
   flags_laid g_hasCode y_hasCode d_hasCode (laidMet.tail (laidMet.tail (laidMet.tail (laidMet.tail (laidMet.tail h))))),
   flags_laid g_hasScopes y_hasScopes d_hasScopes (laidMet.tail (laidMet.tail (laidMet.tail (laidMet.tail (laidMet.tail (laidMet.tail h)))))),
   flags_laid g_hasAt y_hasAt d_hasAt (laidMet.tail (laidMet.tail (laidMet.tail (laidMet.tail (laidMet.tail (laidMet.tail (laidMet.tail h)))))))⟩

set_option maxRecDepth 100000 in
/-- a record as an argument -/
theorem rec_of {H : Type} {enc : TypeId × Value → H} {W : World} {fuel : Nat} {q0 q1 q2 q3 q4 q5 q6 q7 q8 : Value} {d : DataW H} {pl : List MemPlace}
    (h : DataW.trod enc Tryz.prog W 0 (fun _ => true) true fuel 26 [q0, q1, q2, q3, q4, q5, q6, q7, q8] = some (d, pl)) (hw : (d.weights Tryz.prog 26).all (· ≤ reachBytes) = true) :
    ∃ r : Rec, q0 = .int .i64 r.k ∧ q1 = .string r.id ∧ q2 = .string r.us ∧ q3 = .string r.cl ∧ q4 = .string r.rd ∧ q5 = .string r.ch ∧ q6 = .string r.cd ∧ q8 = .int .i64 r.at_ ∧ Lies W q7 r.ss ∧
      r.id.size ≤ Rows.uptoBulk d ∧ r.us.size ≤ Rows.uptoBulk d ∧ r.cl.size ≤ Rows.uptoBulk d ∧ r.rd.size ≤ Rows.uptoBulk d ∧ r.ch.size ≤ Rows.uptoBulk d ∧ r.cd.size ≤ Rows.uptoBulk d ∧ tot r.ss ≤ Rows.uptoBulk d := by
  obtain ⟨xs, n, _, hx, hl, hlen, hf⟩ := DataW.trod_struct Tryz.underlying26 h
  match xs, hlen with
  | [y0, y1, y2, y3, y4, y5, y6, y7, y8], _ =>
    have g0 : DataW.trod enc Tryz.prog W 0 (fun _ => true) true n 3 [q0] = some y0 := by have := hf 0 _ rfl; simp only [List.getElem?_cons_zero] at this; rw [← this]; rfl
    have g1 : DataW.trod enc Tryz.prog W 0 (fun _ => true) true n 9 [q1] = some y1 := by have := hf 1 _ rfl; simp only [List.getElem?_cons_zero, List.getElem?_cons_succ] at this; rw [← this]; rfl
    have g2 : DataW.trod enc Tryz.prog W 0 (fun _ => true) true n 9 [q2] = some y2 := by have := hf 2 _ rfl; simp only [List.getElem?_cons_zero, List.getElem?_cons_succ] at this; rw [← this]; rfl
    have g3 : DataW.trod enc Tryz.prog W 0 (fun _ => true) true n 9 [q3] = some y3 := by have := hf 3 _ rfl; simp only [List.getElem?_cons_zero, List.getElem?_cons_succ] at this; rw [← this]; rfl
    have g4 : DataW.trod enc Tryz.prog W 0 (fun _ => true) true n 9 [q4] = some y4 := by have := hf 4 _ rfl; simp only [List.getElem?_cons_zero, List.getElem?_cons_succ] at this; rw [← this]; rfl
    have g5 : DataW.trod enc Tryz.prog W 0 (fun _ => true) true n 9 [q5] = some y5 := by have := hf 5 _ rfl; simp only [List.getElem?_cons_zero, List.getElem?_cons_succ] at this; rw [← this]; rfl
    have g6 : DataW.trod enc Tryz.prog W 0 (fun _ => true) true n 9 [q6] = some y6 := by have := hf 6 _ rfl; simp only [List.getElem?_cons_zero, List.getElem?_cons_succ] at this; rw [← this]; rfl
    have g7 : DataW.trod enc Tryz.prog W 0 (fun _ => true) true n 24 [q7] = some y7 := by have := hf 7 _ rfl; simp only [List.getElem?_cons_zero, List.getElem?_cons_succ] at this; rw [← this]; rfl
    have g8 : DataW.trod enc Tryz.prog W 0 (fun _ => true) true n 3 [q8] = some y8 := by have := hf 8 _ rfl; simp only [List.getElem?_cons_zero, List.getElem?_cons_succ] at this; rw [← this]; rfl
    obtain ⟨s1, e1, rfl, _⟩ := DataW.trod_string Tryz.underlying9 g1
    simp at e1
    subst e1
    obtain ⟨s2, e2, rfl, _⟩ := DataW.trod_string Tryz.underlying9 g2
    simp at e2
    subst e2
    obtain ⟨s3, e3, rfl, _⟩ := DataW.trod_string Tryz.underlying9 g3
    simp at e3
    subst e3
    obtain ⟨s4, e4, rfl, _⟩ := DataW.trod_string Tryz.underlying9 g4
    simp at e4
    subst e4
    obtain ⟨s5, e5, rfl, _⟩ := DataW.trod_string Tryz.underlying9 g5
    simp at e5
    subst e5
    obtain ⟨s6, e6, rfl, _⟩ := DataW.trod_string Tryz.underlying9 g6
    simp at e6
    subst e6
    obtain ⟨x0, e0, rfl, _⟩ := DataW.trod_int Tryz.underlying3 g0
    simp at e0
    subst e0
    obtain ⟨x8, e8, rfl, _⟩ := DataW.trod_int Tryz.underlying3 g8
    simp at e8
    subst e8
    obtain ⟨d7, p7⟩ := y7
    have hd : d = .agg [.lit (.int .i64 x0), .lit (.string s1.data.toList), .lit (.string s2.data.toList), .lit (.string s3.data.toList), .lit (.string s4.data.toList), .lit (.string s5.data.toList), .lit (.string s6.data.toList), d7, .lit (.int .i64 x8)] := by
      have := (Prod.mk.inj hx).1
      simpa using this
    subst hd
    have hw7 : (d7.weights Tryz.prog 24).all (· ≤ reachBytes) = true := by
      simp only [DataW.weights, Tryz.underlying26] at hw
      rw [List.all_eq_true] at hw ⊢
      intro x hx
      refine hw x ?_
      simp [DataW.weightsEach, hx]
    obtain ⟨l, hL, _, _, ht⟩ := strs_of g7 hw7
    have z1 : s1.data.toList.length = s1.size := by simp
    have z2 : s2.data.toList.length = s2.size := by simp
    have z3 : s3.data.toList.length = s3.size := by simp
    have z4 : s4.data.toList.length = s4.size := by simp
    have z5 : s5.data.toList.length = s5.size := by simp
    have z6 : s6.data.toList.length = s6.size := by simp
    refine ⟨⟨x0, s1, s2, s3, s4, s5, s6, l, x8⟩, rfl, rfl, rfl, rfl, rfl, rfl, rfl, rfl, hL, ?_, ?_, ?_, ?_, ?_, ?_, ?_⟩ <;> (simp only [Rows.uptoBulk, Rows.uptoBulkAll]; omega)
theorem tot_mem (l : List ByteArray) : ∀ s ∈ l, s.size ≤ tot l := by
  unfold tot
  induction l with
  | nil => intro s hs; cases hs
  | cons x r ih =>
    intro s hs
    simp only [List.map_cons, List.sum_cons]
    rcases List.mem_cons.1 hs with rfl | h
    · omega
    · have := ih s h; omega
theorem small_of {r : Rec} {B : Nat} (hB : B ≤ 1048576) (h1 : r.id.size ≤ B) (h2 : r.us.size ≤ B) (h3 : r.cl.size ≤ B) (h4 : r.rd.size ≤ B) (h5 : r.ch.size ≤ B) (h6 : r.cd.size ≤ B) (h7 : tot r.ss ≤ B) : r.Small ∧ r.ss.length ≤ 1048576 := by
  have hl := len_tot r.ss
  have hr : 1048576 ≤ reachBytes := by unfold reachBytes; decide
  refine ⟨⟨by omega, by omega, by omega, by omega, by omega, by omega, by omega, fun s hs => ?_⟩, by omega⟩
  have := tot_mem r.ss s hs
  omega
end Go.Proofs.YtobflealcldgnaaGreatDoor.rc
