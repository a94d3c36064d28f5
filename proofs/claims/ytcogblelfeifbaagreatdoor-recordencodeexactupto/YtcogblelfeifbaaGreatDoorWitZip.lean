import Derived.Test.YtcogblelfeifbaaGreatDoorRefMeant
import Derived.Test.YtcogblelfeifbaaGreatDoorRcRefC
import Derived.Test.YtcogblelfeifbaaGreatDoorErrWalks
import Derived.Test.YtcogblelfeifbaaGreatDoorTmRed
import Derived.LaidLaws
import Derived.Stop.LaidErr
import Derived.Lib.LaidU8
import Derived.Test.YtcogblelfeifbaaGreatDoorScopeOrdM
import Derived.Test.YtcogblelfeifbaaGreatDoorSplitWalks
import Derived.LaidMore
import Derived.Lib.LaidTab
import Derived.Test.YtcogblelfeifbaaGreatDoorStrBase
import Derived.Lay
import Derived.Deep.DeepWitnessRowRef
namespace Go.Proofs.YtcogblelfeifbaaGreatDoor.rc
open Go.ChangeShapes Go.WideShapes Go.ChangeAt Go.RowKit Go.Proofs.YtcogblelfeifbaaGreatDoor.common Go.Proofs.YtcogblelfeifbaaGreatDoor.ss
attribute [local go_sem ↓] Go.wp_at_zero Go.wp_at_succ

abbrev rcl (r : Rec) (v : Value) : List Value := [.int .i64 r.k, .string r.id, .string r.us, .string r.cl, .string r.rd, .string r.ch, .string r.cd, v, .int .i64 r.at_]
theorem range_alloc (w : World) (r : Rec) (v : Value) (t : TypeId) : (w.alloc (.cells (rcs r v) t)).rangeAt w.heap.size 0 (rcl r v) := dk.range_of (t := t) (heap_alloc_new w _)
/-- what a law has at hand when a record was lent: the record's own box, the twin's box with the lent list -/
structure Lent (w : World) (r : Rec) (v vt va : Value) (T base : Nat) (X : World) : Prop where
  low : Below w.heap.size w X
  box : X.rangeAt w.heap.size 0 (rcl r v)
  twin : X.rangeAt T 0 (rcl r vt)
  lt : w.heap.size < X.heap.size ∧ T < X.heap.size
  own : Lies X v r.ss
  head : Lies X vt r.ss
  all : X.ownsRow base 9 1 va (r.ss ++ marks).length (sc (r.ss ++ marks))
theorem Lent.below {w : World} {r : Rec} {v vt va : Value} {T base : Nat} {X Y : World} (h : Lent w r v vt va T base X) (hb : Below X.heap.size X Y) : Lent w r v vt va T base Y :=
  ⟨keepW h.low hb, dk.range_block h.box (hb.block _ h.lt.1), dk.range_block h.twin (hb.block _ h.lt.2), ⟨Nat.lt_of_lt_of_le h.lt.1 hb.size, Nat.lt_of_lt_of_le h.lt.2 hb.size⟩, h.own.below hb, h.head.below hb, dk.own_below h.all hb⟩

set_option maxRecDepth 100000 in
set_option maxHeartbeats 12800000 in
theorem lawCheck (r : Rec) (v : Value) (w : World) (e : Nat → Addr) (hv : Lies w v r.ss) (hz : r.Small) (hb : r.id.size ≤ 1048576 ∧ r.cd.size ≤ 1048576) (hn : (r.ss.length + 4) * 16 ≤ 140737488355328) (he : Env (e 1) (e 2) (errw.E e 0) w) (hE : errw.Errs w e) (ht : HTab w) :
    Calls Tryz.prog 3 #[.agg (rcs r v)] w fun x w' => x = .returned (.bool true) ∧ Below w.heap.size w w' := by
  have HENV : Hid (∀ X, Below w.heap.size w X → Env (e 1) (e 2) (errw.E e 0) X ∧ errw.Errs X e ∧ HTab X) := fun X hX => ⟨he.below hX, hE.below hX, ht.below hX⟩
  have HV := hide hv
  have HZ := hide hz
  have HBB := hide hb
  obtain ⟨ov, cv, rfl⟩ := Lies.len hv
  have hb0 : Below w.heap.size w (w.alloc (.cells (rcs r (.slice ov r.ss.length cv)) 24)) := (Below.refl _ _).alloc (Nat.le_refl _) _
  have HTW := hide (twinR_any r (.slice ov r.ss.length cv) (w.alloc (.cells (rcs r (.slice ov r.ss.length cv)) 24)) (HV.out.below hb0) (by omega))
  have HB0 := hide hb0
  have HR0 := hide (range_alloc w r (.slice ov r.ss.length cv) 24)
  have hn1 : r.ss.length ≤ 4611686018427387000 := by omega
  clear hv hz hb he hE ht hb0
  go_enter Tryz.func3, Tryz.ntmps3
  go_wp2_with fail
  refine HTW.out.mono ?_
  rintro x w1 ⟨v1, rfl, own1, b1⟩
  obtain ⟨o1, c1, rfl⟩ := own_slice own1
  have B1 : Below w.heap.size w w1 := keepW HB0.out b1
  obtain ⟨X1, hX1⟩ : ∃ X1, X1 = w1.alloc (.cells (rcs r (.slice o1 r.ss.length c1)) 24) := ⟨_, rfl⟩
  have bx : Below w1.heap.size w1 X1 := by rw [hX1]; exact (Below.refl _ _).alloc (Nat.le_refl _) _
  have hwz : w.heap.size < w1.heap.size := by have := b1.size; simp at this; omega
  have HBX1 : Hid (Below w.heap.size w X1) := keepW B1 bx
  have hR1 : X1.rangeAt w.heap.size 0 (rcl r (.slice ov r.ss.length cv)) := dk.range_block (dk.range_block HR0.out (b1.block _ (by simp))) (bx.block _ hwz)
  have c7 : X1.cell? ⟨w.heap.size, 7, none⟩ = some (.slice ov r.ss.length cv) := by
    have := hR1 7 _ rfl
    rwa [Nat.zero_add] at this
  have hT1 : X1.heap[w1.heap.size]? = some (.cells (rcs r (.slice o1 r.ss.length c1)) 24 (0, 0)) := by rw [hX1]; exact heap_alloc_new w1 _
  have HLN := hide (lent_any (.slice ov r.ss.length cv) r.ss X1 (HV.out.below HBX1.out) hn)
  have HT1 := hide hT1
  have HR1 := hide hR1
  have HWZ : Hid (w.heap.size < X1.heap.size ∧ w1.heap.size < X1.heap.size) := ⟨by have := bx.size; omega, (Array.getElem?_eq_some_iff.1 hT1).1⟩
  have HNE : Hid (w.heap.size ≠ w1.heap.size) := by show _ ≠ _; omega
  have HWL : Hid (w.heap.size ≤ w1.heap.size) := Nat.le_of_lt hwz
  rw [hX1] at c7
  have HX1 := hide hX1
  clear own1 b1 B1 bx hR1 hT1 hX1 hwz HTW
  go_wp2_with fail
  rw [← HX1.out]
  refine HLN.out.mono ?_
  rintro x w2 ⟨va, rfl, own2, b2⟩
  have hlen : (r.ss ++ marks).length = r.ss.length + 4 := by simp
  rcases row_of_own own2 with ⟨_, h0⟩ | ⟨g, cap, rfl, hg, hgl, hrow, hcap⟩
  · exact absurd h0 (by simp)
  rw [hlen] at hcap own2
  rw [hlen]
  have hT2 := (b2.block _ HWZ.out.2).trans HT1.out
  have c8 : w2.cell? ⟨w.heap.size, 7, none⟩ = some (.slice ov r.ss.length cv) := by
    have := (dk.range_block HR1.out (b2.block _ HWZ.out.1)) 7 _ rfl
    rwa [Nat.zero_add] at this
  have c9 : w2.cell? ⟨w1.heap.size, 7, none⟩ = some (.slice o1 r.ss.length c1) := dk.cell_of hT2 7
  have c9f : w2.frozen? ⟨w1.heap.size, 7, none⟩ = false := dk.free_of hT2 7
  have n0 : (0 : Int) ≤ (r.ss.length : Int) := Int.natCast_nonneg _
  have n1 : (r.ss.length : Int) ≤ (cap : Int) := by omega
  obtain ⟨X2, hX2⟩ : ∃ X2, X2 = w2.setCell ⟨w1.heap.size, 7, none⟩ (.slice (some ⟨g, 0, none⟩) r.ss.length cap) := ⟨_, rfl⟩
  have hgT : g ≠ w1.heap.size := by have := HWZ.out.2; omega
  have hLE : Lent w r (.slice ov r.ss.length cv) (.slice (some ⟨g, 0, none⟩) r.ss.length cap) (.slice (some ⟨g, 0, none⟩) (r.ss.length + 4) cap) w1.heap.size X1.heap.size X2 := by
    have hlow : Below w.heap.size w X2 := by rw [hX2]; exact (keepW HBX1.out b2).setCell (p := ⟨w1.heap.size, 7, none⟩) HWL.out _
    have hgX : X2.heap[g]? = w2.heap[g]? := by rw [hX2]; exact dk.set_other _ _ _ _ (show g ≠ w1.heap.size from hgT)
    have hown : X2.ownsRow X1.heap.size 9 1 (.slice (some ⟨g, 0, none⟩) (r.ss.length + 4) cap) (r.ss ++ marks).length (sc (r.ss ++ marks)) := by
      rw [hlen]
      refine own_at own2 (fun k hk => ?_)
      rw [hX2]
      exact dk.set_other _ _ _ _ (show k ≠ w1.heap.size by have := HWZ.out.2; omega)
    refine ⟨hlow, ?_, ?_, ⟨?_, ?_⟩, HV.out.below hlow, ?_, hown⟩
    · refine dk.range_block (dk.range_block HR1.out (b2.block _ HWZ.out.1)) ?_
      rw [hX2]; exact dk.set_other _ _ _ _ (show w.heap.size ≠ w1.heap.size from HNE.out)
    · refine dk.range_of (t := 24) ?_
      rw [hX2]
      simp [World.setCell, Array.getElem?_modify, hT2]
    · rw [hX2, dk.size_set]; exact Nat.lt_of_lt_of_le HWZ.out.1 b2.size
    · rw [hX2, dk.size_set]; exact Nat.lt_of_lt_of_le HWZ.out.2 b2.size
    · rcases row_of_own hown with ⟨h, _⟩ | ⟨g', cap', h, _, hg', hr', _⟩
      · cases h
      · rw [hlen] at h
        cases h
        exact hr'.head hg' cap
  have HLE := hide hLE
  have HCK := hide (check_any r (.slice (some ⟨g, 0, none⟩) r.ss.length cap) (e 1) (e 2) (errw.E e 0) X2 hLE.head HZ.out (HENV.out X2 hLE.low).1)
  obtain ⟨R, hR⟩ : ∃ R, R = (if mayB r then Value.nilIface else errw.E e 0) := ⟨_, rfl⟩
  rw [← hR] at HCK
  have HRR := hide hR
  have HTW2 := hide hLE.twin
  rw [hX2] at HTW2
  have HX2 := hide hX2
  clear own2 b2 hrow hg hgl hT2 hLE hR hX2 hcap c7
  go_wp2_with (refine wpList_load_mid rfl 24 (.tmp 3) rfl w1.heap.size 0 rfl _ _ HTW2.out Tryz.underlying24 rfl sizeRec ?_)
  rw [← HX2.out]
  refine HCK.out.mono ?_
  rintro x y1 ⟨rfl, b1⟩
  have HL1 := hide (HLE.out.below b1)
  have HRC := hide (refCheck_any r (.slice ov r.ss.length cv) y1 HL1.out.own HZ.out HBB.out (HENV.out y1 HL1.out.low).2.2)
  have HBX := hide HL1.out.box
  obtain ⟨N, hN⟩ : ∃ N, N = chN r := ⟨_, rfl⟩
  rw [← hN] at HRC
  have HNN := hide hN
  clear HCK b1 hN HLE HTW2 c8 c9 c9f
  go_wp2_with (refine wpList_load_mid rfl 24 (.tmp 1) rfl w.heap.size 0 rfl _ _ HBX.out Tryz.underlying24 rfl sizeRec ?_)
  refine HRC.out.mono ?_
  rintro x y2 ⟨rfl, b2⟩
  have HL2 := hide (HL1.out.below b2)
  have HSR := hide (sameRec_any r (.slice ov r.ss.length cv) (.slice (some ⟨g, 0, none⟩) r.ss.length cap) y2 HL2.out.own HL2.out.head (by omega))
  have HB2 := hide HL2.out.box
  have HT2 := hide HL2.out.twin
  clear HRC b2 HL1 HBX
  go_wp2_with (first
    | (refine wpList_load_mid rfl 24 (.tmp 1) rfl w.heap.size 0 rfl _ _ HB2.out Tryz.underlying24 rfl sizeRec ?_)
    | (refine wpList_load_mid rfl 24 (.tmp 3) rfl w1.heap.size 0 rfl _ _ HT2.out Tryz.underlying24 rfl sizeRec ?_))
  refine HSR.out.mono ?_
  rintro x y3 ⟨rfl, b3⟩
  have HL3 := hide (HL2.out.below b3)
  have HNU : Hid (Calls Tryz.prog 13 #[R] y3 fun x w' => x = .returned (.int .i64 N) ∧ w' = y3) := by
    show Calls _ _ _ _ _
    rw [HRR.out, HNN.out]
    unfold chN
    cases mayB r with
    | true => exact errw.num_nil y3
    | false => exact errw.num_0 y3 e (HENV.out y3 HL3.out.low).2.1
  have HRT := hide (returned_any (.slice (some ⟨g, 0, none⟩) (r.ss.length + 4) cap) (.slice ov r.ss.length cv) r.ss y3 X1.heap.size HL3.out.all HL3.out.own hn1)
  have d7 : y3.cell? ⟨w.heap.size, 7, none⟩ = some (.slice ov r.ss.length cv) := by
    have := HL3.out.box 7 _ rfl
    rwa [Nat.zero_add] at this
  clear HSR b3 HL2 HB2 HT2
  go_wp2_with fail
  refine HNU.out.mono ?_
  rintro x y4 ⟨rfl, rfl⟩
  go_wp2_with (go_at_call 14; refine HRT.out.mono ?_; rintro x y5 ⟨rfl, b5⟩)
  go_ret
  exact ⟨rfl, keepW HL3.out.low b5⟩
end Go.Proofs.YtcogblelfeifbaaGreatDoor.rc

namespace Go.Proofs.YtcogblelfeifbaaGreatDoor.tm
open Go.ChangeShapes Go.WideShapes Go.ChangeAt Go.RowKit Go.Proofs.YtcogblelfeifbaaGreatDoor.common Go.Proofs.YtcogblelfeifbaaGreatDoor.bk
open Go.Shelf Go.Lib

theorem rngG : Tryz.prog.globalNamed "strconv.ErrRange" = some 27 := by kernel_rfl
theorem rngT : (Tryz.prog.globals[27]?).map (·.type) = some 28 := by kernel_rfl
theorem synG : Tryz.prog.globalNamed "strconv.ErrSyntax" = some 26 := by kernel_rfl
theorem synT : (Tryz.prog.globals[26]?).map (·.type) = some 28 := by kernel_rfl
theorem nums_of_laid {W : World} {rest : List (String × DataW Unit)} (h : laidMet Tryz.prog (("strconv.ErrRange", Rows.laid_strconv_ErrRange) :: ("strconv.ErrSyntax", Rows.laid_strconv_ErrSyntax) :: rest) W) : Nums W := by
  obtain ⟨ps, h0, _, hrows⟩ := h
  obtain ⟨a0, q0, c0, h1, rfl⟩ := errw.peel h0 (fun b off hm => hrows b off (by simp [hm])) rngG rngT Tryz.underlying28 errw.rowErr Tryz.underlying204 Tryz.underlying206 rfl rfl Tryz.underlying9 errw.cellsErr errw.cellsStr
  obtain ⟨a1, q1, c1, h2, rfl⟩ := errw.peel h1 (fun b off hm => hrows b off (by simp [hm])) synG synT Tryz.underlying28 errw.rowErr Tryz.underlying204 Tryz.underlying206 rfl rfl Tryz.underlying9 errw.cellsErr errw.cellsStr
  exact ⟨⟨_, _, c1⟩, ⟨_, _, c0⟩⟩
theorem locG : Tryz.prog.globalNamed "usher/terms.localHosts" = some 23 := by kernel_rfl
theorem locTy : (Tryz.prog.globals[23]?).map (·.type) = some 142 := by kernel_rfl
theorem loc_is : (Rows.laid_usher_terms_localHosts : DataW Unit) = .agg ((List.range 3).map fun i => .lit (.string (tH i))) := by kernel_rfl
theorem loc_of_laid {w : World} {l : List (String × DataW Unit)} (h : laidMet Tryz.prog l w) (h1 : ("usher/terms.localHosts", Rows.laid_usher_terms_localHosts) ∈ l) : Loc w := by
  have a := laidMet.reads h h1
  rw [loc_is] at a
  have key : ∀ i, i < 3 → w.cell? ⟨23, i, none⟩ = some (S (tH i)) := by
    intro i hi
    obtain ⟨g, t, cs, fuel, p, hg, hty, hvar, hd⟩ := a
    obtain rfl := Option.some.inj (locG.symm.trans hg)
    obtain rfl := Option.some.inj (locTy.symm.trans hty)
    obtain ⟨fuel', d, q, hdi, he⟩ := array_elem Tryz.underlying142 hd i hi
    simp only [List.getElem?_map, List.getElem?_range hi, Option.map_some, Option.some.injEq] at hdi
    subst hdi
    rw [errw.cellsStr] at he
    obtain ⟨z, e0, f0⟩ := DataW.trod_string Tryz.underlying9 he
    have f1 : (DataW.lit (.string (tH i)) : DataW Unit) = _ := congrArg Prod.fst f0.1
    simp only [DataW.lit.injEq, Lit.string.injEq] at f1
    have e0 := congrArg (·[0]?) e0
    simp only [List.getElem?_take, List.getElem?_drop] at e0
    rw [World.var?_cell hg hvar i, ← Array.getElem?_toList]
    have : S (tH i) = .string z := congrArg Value.string (ba_ext f1)
    rw [this]
    simpa using e0
  intro j v hv
  have hj : j < 3 := by
    have := (List.getElem?_eq_some_iff.1 hv).1
    exact this
  match j, hj with
  | 0, _ => rw [← hv]; exact key 0 (by decide)
  | 1, _ => rw [← hv]; exact key 1 (by decide)
  | 2, _ => rw [← hv]; exact key 2 (by decide)

end Go.Proofs.YtcogblelfeifbaaGreatDoor.tm

namespace Go.Proofs.YtcogblelfeifbaaGreatDoor.rc
open Go.ChangeShapes Go.WideShapes Go.ChangeAt Go.RowKit Go.Joins Go.Deep Go.WideElems Go.Maps Go.Proofs.YtcogblelfeifbaaGreatDoor.common Go.Proofs.YtcogblelfeifbaaGreatDoor.ss

theorem kfG : Tryz.prog.globalNamed "usher/record.kindFields" = some 21 := by kernel_rfl
theorem kfT : (Tryz.prog.globals[21]?).map (·.type) = some 107 := by kernel_rfl
theorem kfC : Tryz.prog.cellsOf 107 = 12 := by kernel_rfl
theorem intC : Tryz.prog.cellsOf 3 = 1 := by kernel_rfl
theorem boolC : Tryz.prog.cellsOf 4 = 1 := by kernel_rfl
theorem boolsC : Tryz.prog.cellsOf 60 = 12 := by kernel_rfl
theorem ktab_of {W : World} {rest : List (String × DataW Unit)} (h : laidMet Tryz.prog (("usher/record.kindFields", Rows.laid_usher_record_kindFields) :: rest) W) : KTab W := by
  have t : Lib.TabIs Tryz.prog W "usher/record.kindFields" .i64 kf := Lib.tabIs_of_head (rest := rest) kfG kfT Tryz.underlying107 Tryz.underlying3 intC kfC h
  intro i hi
  rw [t.cell kfG i (by simpa [kf] using hi)]
theorem flags_laid {W : World} {rest : List (String × DataW Unit)} {name : String} {D : DataW Unit} {g : Nat} {zs : List Bool} (hG : Tryz.prog.globalNamed name = some g) (hT : (Tryz.prog.globals[g]?).map (·.type) = some 60) (hD : D = .agg (zs.map fun b => .lit (.bool b)))
    (h : laidMet Tryz.prog ((name, D) :: rest) W) : ∀ i, i < 12 → W.cell? ⟨g, i, none⟩ = some (.bool (zs.getD i false)) := by
  obtain ⟨ps, ⟨g', t', cs, fuel, p, q, hg', ht', hvar, hd, _, _⟩, _⟩ := h
  obtain rfl := Option.some.inj (hG.symm.trans hg')
  obtain rfl := Option.some.inj (hT.symm.trans ht')
  rw [hD] at hd
  intro n hn
  have h1 := pk.flags_of hd Tryz.underlying60 Tryz.underlying4 boolC boolsC n hn
  rw [World.var?_cell hG hvar n]
  simpa using h1
theorem g_hasID : Tryz.prog.globalNamed "usher/usherref14.hasID" = some 1 := by kernel_rfl
theorem y_hasID : (Tryz.prog.globals[1]?).map (·.type) = some 60 := by kernel_rfl
theorem d_hasID : (Rows.laid_usher_usherref14_hasID : DataW Unit) = .agg (T_hasID.map fun b => .lit (.bool b)) := by rfl
theorem g_hasUser : Tryz.prog.globalNamed "usher/usherref14.hasUser" = some 2 := by kernel_rfl
theorem y_hasUser : (Tryz.prog.globals[2]?).map (·.type) = some 60 := by kernel_rfl
theorem d_hasUser : (Rows.laid_usher_usherref14_hasUser : DataW Unit) = .agg (T_hasUser.map fun b => .lit (.bool b)) := by rfl
theorem g_hasClient : Tryz.prog.globalNamed "usher/usherref14.hasClient" = some 3 := by kernel_rfl
theorem y_hasClient : (Tryz.prog.globals[3]?).map (·.type) = some 60 := by kernel_rfl
theorem d_hasClient : (Rows.laid_usher_usherref14_hasClient : DataW Unit) = .agg (T_hasClient.map fun b => .lit (.bool b)) := by rfl
theorem g_hasRedirect : Tryz.prog.globalNamed "usher/usherref14.hasRedirect" = some 4 := by kernel_rfl
theorem y_hasRedirect : (Tryz.prog.globals[4]?).map (·.type) = some 60 := by kernel_rfl
theorem d_hasRedirect : (Rows.laid_usher_usherref14_hasRedirect : DataW Unit) = .agg (T_hasRedirect.map fun b => .lit (.bool b)) := by rfl
theorem g_hasChallenge : Tryz.prog.globalNamed "usher/usherref14.hasChallenge" = some 5 := by kernel_rfl
theorem y_hasChallenge : (Tryz.prog.globals[5]?).map (·.type) = some 60 := by kernel_rfl
theorem d_hasChallenge : (Rows.laid_usher_usherref14_hasChallenge : DataW Unit) = .agg (T_hasChallenge.map fun b => .lit (.bool b)) := by rfl
theorem g_hasCode : Tryz.prog.globalNamed "usher/usherref14.hasCode" = some 6 := by kernel_rfl
theorem y_hasCode : (Tryz.prog.globals[6]?).map (·.type) = some 60 := by kernel_rfl
theorem d_hasCode : (Rows.laid_usher_usherref14_hasCode : DataW Unit) = .agg (T_hasCode.map fun b => .lit (.bool b)) := by rfl
theorem g_hasScopes : Tryz.prog.globalNamed "usher/usherref14.hasScopes" = some 7 := by kernel_rfl
theorem y_hasScopes : (Tryz.prog.globals[7]?).map (·.type) = some 60 := by kernel_rfl
theorem d_hasScopes : (Rows.laid_usher_usherref14_hasScopes : DataW Unit) = .agg (T_hasScopes.map fun b => .lit (.bool b)) := by rfl
theorem g_hasAt : Tryz.prog.globalNamed "usher/usherref14.hasAt" = some 8 := by kernel_rfl
theorem y_hasAt : (Tryz.prog.globals[8]?).map (·.type) = some 60 := by kernel_rfl
theorem d_hasAt : (Rows.laid_usher_usherref14_hasAt : DataW Unit) = .agg (T_hasAt.map fun b => .lit (.bool b)) := by rfl
theorem htab_of {W : World} {rest : List (String × DataW Unit)} (h : laidMet Tryz.prog (("usher/usherref14.hasID", Rows.laid_usher_usherref14_hasID) :: ("usher/usherref14.hasUser", Rows.laid_usher_usherref14_hasUser) :: ("usher/usherref14.hasClient", Rows.laid_usher_usherref14_hasClient) :: ("usher/usherref14.hasRedirect", Rows.laid_usher_usherref14_hasRedirect) :: ("usher/usherref14.hasChallenge", Rows.laid_usher_usherref14_hasChallenge) :: ("usher/usherref14.hasCode", Rows.laid_usher_usherref14_hasCode) :: ("usher/usherref14.hasScopes", Rows.laid_usher_usherref14_hasScopes) :: ("usher/usherref14.hasAt", Rows.laid_usher_usherref14_hasAt) :: rest) W) : HTab W :=
  ⟨flags_laid g_hasID y_hasID d_hasID h,
   flags_laid g_hasUser y_hasUser d_hasUser (laidMet.tail h),
   flags_laid g_hasClient y_hasClient d_hasClient (laidMet.tail (laidMet.tail h)),
   flags_laid g_hasRedirect y_hasRedirect d_hasRedirect (laidMet.tail (laidMet.tail (laidMet.tail h))),
   flags_laid g_hasChallenge y_hasChallenge d_hasChallenge (laidMet.tail (laidMet.tail (laidMet.tail (laidMet.tail h)))),
   flags_laid g_hasCode y_hasCode d_hasCode (laidMet.tail (laidMet.tail (laidMet.tail (laidMet.tail (laidMet.tail h))))),
   flags_laid g_hasScopes y_hasScopes d_hasScopes (laidMet.tail (laidMet.tail (laidMet.tail (laidMet.tail (laidMet.tail (laidMet.tail h)))))),
   flags_laid g_hasAt y_hasAt d_hasAt (laidMet.tail (laidMet.tail (laidMet.tail (laidMet.tail (laidMet.tail (laidMet.tail (laidMet.tail h)))))))⟩

set_option maxRecDepth 100000 in
/-- a record as an argument -/
theorem rec_of {H : Type} {enc : TypeId × Value → H} {W : World} {fuel : Nat} {q0 q1 q2 q3 q4 q5 q6 q7 q8 : Value} {d : DataW H} {pl : List MemPlace}
    (h : DataW.trod enc Tryz.prog W 0 (fun _ => true) true fuel 24 [q0, q1, q2, q3, q4, q5, q6, q7, q8] = some (d, pl)) (hw : (d.weights Tryz.prog 24).all (· ≤ reachBytes) = true) :
    ∃ r : Rec, q0 = .int .i64 r.k ∧ q1 = .string r.id ∧ q2 = .string r.us ∧ q3 = .string r.cl ∧ q4 = .string r.rd ∧ q5 = .string r.ch ∧ q6 = .string r.cd ∧ q8 = .int .i64 r.at_ ∧ Lies W q7 r.ss ∧
      r.id.size ≤ Rows.uptoBulk d ∧ r.us.size ≤ Rows.uptoBulk d ∧ r.cl.size ≤ Rows.uptoBulk d ∧ r.rd.size ≤ Rows.uptoBulk d ∧ r.ch.size ≤ Rows.uptoBulk d ∧ r.cd.size ≤ Rows.uptoBulk d ∧ tot r.ss ≤ Rows.uptoBulk d := by
  obtain ⟨xs, n, _, hx, hl, hlen, hf⟩ := DataW.trod_struct Tryz.underlying24 h
  match xs, hlen with
  | [y0, y1, y2, y3, y4, y5, y6, y7, y8], _ =>
    have g0 : DataW.trod enc Tryz.prog W 0 (fun _ => true) true n 3 [q0] = some y0 := by have := hf 0 _ rfl; simp only [List.getElem?_cons_zero] at this; rw [← this]; rfl
    have g1 : DataW.trod enc Tryz.prog W 0 (fun _ => true) true n 9 [q1] = some y1 := by have := hf 1 _ rfl; simp only [List.getElem?_cons_zero, List.getElem?_cons_succ] at this; rw [← this]; rfl
    have g2 : DataW.trod enc Tryz.prog W 0 (fun _ => true) true n 9 [q2] = some y2 := by have := hf 2 _ rfl; simp only [List.getElem?_cons_zero, List.getElem?_cons_succ] at this; rw [← this]; rfl
    have g3 : DataW.trod enc Tryz.prog W 0 (fun _ => true) true n 9 [q3] = some y3 := by have := hf 3 _ rfl; simp only [List.getElem?_cons_zero, List.getElem?_cons_succ] at this; rw [← this]; rfl
    have g4 : DataW.trod enc Tryz.prog W 0 (fun _ => true) true n 9 [q4] = some y4 := by have := hf 4 _ rfl; simp only [List.getElem?_cons_zero, List.getElem?_cons_succ] at this; rw [← this]; rfl
    have g5 : DataW.trod enc Tryz.prog W 0 (fun _ => true) true n 9 [q5] = some y5 := by have := hf 5 _ rfl; simp only [List.getElem?_cons_zero, List.getElem?_cons_succ] at this; rw [← this]; rfl
    have g6 : DataW.trod enc Tryz.prog W 0 (fun _ => true) true n 9 [q6] = some y6 := by have := hf 6 _ rfl; simp only [List.getElem?_cons_zero, List.getElem?_cons_succ] at this; rw [← this]; rfl
    have g7 : DataW.trod enc Tryz.prog W 0 (fun _ => true) true n 22 [q7] = some y7 := by have := hf 7 _ rfl; simp only [List.getElem?_cons_zero, List.getElem?_cons_succ] at this; rw [← this]; rfl
    have g8 : DataW.trod enc Tryz.prog W 0 (fun _ => true) true n 3 [q8] = some y8 := by have := hf 8 _ rfl; simp only [List.getElem?_cons_zero, List.getElem?_cons_succ] at this; rw [← this]; rfl
    obtain ⟨s1, e1, rfl, _⟩ := DataW.trod_string Tryz.underlying9 g1
    simp at e1
    subst e1
    obtain ⟨s2, e2, rfl, _⟩ := DataW.trod_string Tryz.underlying9 g2
    simp at e2
    subst e2
    obtain ⟨s3, e3, rfl, _⟩ := DataW.trod_string Tryz.underlying9 g3
    simp at e3
    subst e3
    obtain ⟨s4, e4, rfl, _⟩ := DataW.trod_string Tryz.underlying9 g4
    simp at e4
    subst e4
    obtain ⟨s5, e5, rfl, _⟩ := DataW.trod_string Tryz.underlying9 g5
    simp at e5
    subst e5
    obtain ⟨s6, e6, rfl, _⟩ := DataW.trod_string Tryz.underlying9 g6
    simp at e6
    subst e6
    obtain ⟨x0, e0, rfl, _⟩ := DataW.trod_int Tryz.underlying3 g0
    simp at e0
    subst e0
    obtain ⟨x8, e8, rfl, _⟩ := DataW.trod_int Tryz.underlying3 g8
    simp at e8
    subst e8
    obtain ⟨d7, p7⟩ := y7
    have hd : d = .agg [.lit (.int .i64 x0), .lit (.string s1.data.toList), .lit (.string s2.data.toList), .lit (.string s3.data.toList), .lit (.string s4.data.toList), .lit (.string s5.data.toList), .lit (.string s6.data.toList), d7, .lit (.int .i64 x8)] := by
      have := (Prod.mk.inj hx).1
      simpa using this
    subst hd
    have hw7 : (d7.weights Tryz.prog 22).all (· ≤ reachBytes) = true := by
      simp only [DataW.weights, Tryz.underlying24] at hw
      rw [List.all_eq_true] at hw ⊢
      intro x hx
      refine hw x ?_
      simp [DataW.weightsEach, hx]
    obtain ⟨l, hL, _, _, ht⟩ := strs_of g7 hw7
    have z1 : s1.data.toList.length = s1.size := by simp
    have z2 : s2.data.toList.length = s2.size := by simp
    have z3 : s3.data.toList.length = s3.size := by simp
    have z4 : s4.data.toList.length = s4.size := by simp
    have z5 : s5.data.toList.length = s5.size := by simp
    have z6 : s6.data.toList.length = s6.size := by simp
    refine ⟨⟨x0, s1, s2, s3, s4, s5, s6, l, x8⟩, rfl, rfl, rfl, rfl, rfl, rfl, rfl, rfl, hL, ?_, ?_, ?_, ?_, ?_, ?_, ?_⟩ <;> (simp only [Rows.uptoBulk, Rows.uptoBulkAll]; omega)
theorem tot_mem (l : List ByteArray) : ∀ s ∈ l, s.size ≤ tot l := by
  unfold tot
  induction l with
  | nil => intro s hs; cases hs
  | cons x r ih =>
    intro s hs
    simp only [List.map_cons, List.sum_cons]
    rcases List.mem_cons.1 hs with rfl | h
    · omega
    · have := ih s h; omega
theorem small_of {r : Rec} {B : Nat} (hB : B ≤ 1048576) (h1 : r.id.size ≤ B) (h2 : r.us.size ≤ B) (h3 : r.cl.size ≤ B) (h4 : r.rd.size ≤ B) (h5 : r.ch.size ≤ B) (h6 : r.cd.size ≤ B) (h7 : tot r.ss ≤ B) : r.Small ∧ r.ss.length ≤ 1048576 := by
  have hl := len_tot r.ss
  have hr : 1048576 ≤ reachBytes := by unfold reachBytes; decide
  refine ⟨⟨by omega, by omega, by omega, by omega, by omega, by omega, by omega, fun s hs => ?_⟩, by omega⟩
  have := tot_mem r.ss s hs
  omega
end Go.Proofs.YtcogblelfeifbaaGreatDoor.rc

namespace Go.Proofs.YtcogblelfeifbaaGreatDoor.fd
open Go
section
variable {H : Type} {enc : TypeId × Value → H}
/-- there is an input that fits, at a world whose shape is told in one pass -/
theorem witness_row_zip {C : Checked} {os : Os} {f : FuncId} {fn : Func} {s : OpenSpec} {conds : List PathCond} {apart : Bool} {laid : List (String × DataW Unit)} (modest : Bool) (w0 : World) (args : Array Value) (hos : w0.os = os)
    (hv : (w0.forCall (fun _ _ => 0) ⟨#[], args, []⟩).variablesZipB C.prog = true)
    (hr : ((w0.forCall (fun _ _ => 0) ⟨#[], args, []⟩).heap.toList.drop C.prog.globals.size).take ((begin C.prog (fun _ _ => 0) default).world.heap.size - C.prog.globals.size) =
      (begin C.prog (fun _ _ => 0) default).world.heap.toList.drop C.prog.globals.size)
    (hok : Input.okWideB C.prog (w0.forCall (fun _ _ => 0) ⟨#[], args, []⟩) f ⟨#[], args, []⟩ = true)
    (hrow : s.preRow enc C.prog fn conds apart laid (w0.forCall (fun _ _ => 0) ⟨#[], args, []⟩).memory args) :
    ∃ (w : World) (tape : Tape) (i : Input), w.os = os ∧ (w.forCall tape i).Shaped C.prog ∧ i.vars = [] ∧ Input.okWide C.prog (w.forCall tape i) .any w.heap.size f i ∧
      s.preRow enc C.prog fn conds apart laid (w.forCall tape i).memory i.args ∧ ({ modest := modest } : Assume).holds C.prog (lone (Frame.enter C.prog f i.args .normal) [] (w.forCall tape i)) :=
  ⟨w0, fun _ _ => 0, ⟨#[], args, []⟩, hos, World.shaped_of_ZipB hv hr, (Input.okWide_of_okWideB (base := 0) hok).1, (Input.okWide_of_okWideB hok).2, hrow, by
    simp only [Assume.holds]
    exact ⟨by simp, by simp, fun _ => Modest.zero, by simp, by simp⟩⟩
end
end Go.Proofs.YtcogblelfeifbaaGreatDoor.fd
