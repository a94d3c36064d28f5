import Derived.Test.YtilhfmhjgfmejaaGreatDoorMRgLn3
import Derived.Test.YtilhfmhjgfmejaaGreatDoorMRgD4
import Derived.Test.YtilhfmhjgfmejaaGreatDoorMErrWalks
import Derived.Test.YtilhfmhjgfmejaaGreatDoorMTmRed
import Derived.LaidLaws
import Derived.Stop.LaidErr
import Derived.Lib.LaidU8
import Derived.Lib.LaidTab
namespace Go.Proofs.YtilhfmhjgfmejaaGreatDoor.rg
open Go.ChangeShapes Go.WideShapes Go.ChangeAt Go.RowKit Go.Proofs.YtilhfmhjgfmejaaGreatDoor.common Go.Maps
attribute [local go_sem ↓] Go.wp_at_zero Go.wp_at_succ

theorem num_ch (Y : World) (e : Nat → Addr) (h : errw.Errs Y e) (t : Ten) (cs : List Cli) (us : List Usr) : Calls Tryz.prog 9 #[chV e t cs us] Y fun x w' => x = .returned (.int .i64 (chI t cs us)) ∧ w' = Y := by
  unfold chV chI
  cases manyB cs us with
  | true => exact errw.num_2 Y e h
  | false =>
    cases fitB t cs us with
    | false => exact errw.num_0 Y e h
    | true =>
      cases twB cs us with
      | true => exact errw.num_3 Y e h
      | false => exact errw.num_nil Y

set_option maxRecDepth 100000 in
set_option maxHeartbeats 6400000 in
theorem lawCheck (w : World) (t : Ten) (vC vU : Value) (cs : List Cli) (us : List Usr) (e : Nat → Addr) (hC : LiesC w vC cs) (hU : LiesU w vU us) (hz : SmallF cs us) (he : CEnv e w) (hr : RTab w) (hE : errw.Errs w e) :
    Calls Tryz.prog 3 #[.agg #[.int .i64 t.a0, .int .i64 t.a1, .int .i64 t.a2, .int .i64 t.a3, .int .i64 t.a4, .int .i64 t.a5, .int .i64 t.a6, .int .i64 t.a7, .int .i64 t.a8, .int .i64 t.a9, vC, vU]] w fun x w' => x = .returned (.bool true) ∧ Below w.heap.size w w' := by
  have HCw := hide hC
  have HUw := hide hU
  have HZ := hide hz
  have HE := hide he
  have HRT := hide hr
  have HEE := hide hE
  obtain ⟨oc, ck, rfl, _⟩ := hC
  obtain ⟨ou, uk, rfl, _⟩ := hU
  have hb := heap_new w (.cells #[.int .i64 t.a0, .int .i64 t.a1, .int .i64 t.a2, .int .i64 t.a3, .int .i64 t.a4, .int .i64 t.a5, .int .i64 t.a6, .int .i64 t.a7, .int .i64 t.a8, .int .i64 t.a9, .slice oc cs.length ck, .slice ou us.length uk] 25)
  have HB : Hid (Below w.heap.size w (w.alloc (.cells #[.int .i64 t.a0, .int .i64 t.a1, .int .i64 t.a2, .int .i64 t.a3, .int .i64 t.a4, .int .i64 t.a5, .int .i64 t.a6, .int .i64 t.a7, .int .i64 t.a8, .int .i64 t.a9, .slice oc cs.length ck, .slice ou us.length uk] 25))) := (Below.refl _ _).alloc (Nat.le_refl _) _
  have HP : Hid (∀ Y, Below (w.alloc (.cells #[.int .i64 t.a0, .int .i64 t.a1, .int .i64 t.a2, .int .i64 t.a3, .int .i64 t.a4, .int .i64 t.a5, .int .i64 t.a6, .int .i64 t.a7, .int .i64 t.a8, .int .i64 t.a9, .slice oc cs.length ck, .slice ou us.length uk] 25)).heap.size (w.alloc (.cells #[.int .i64 t.a0, .int .i64 t.a1, .int .i64 t.a2, .int .i64 t.a3, .int .i64 t.a4, .int .i64 t.a5, .int .i64 t.a6, .int .i64 t.a7, .int .i64 t.a8, .int .i64 t.a9, .slice oc cs.length ck, .slice ou us.length uk] 25)) Y → Y.rangeAt w.heap.size 0 [.int .i64 t.a0, .int .i64 t.a1, .int .i64 t.a2, .int .i64 t.a3, .int .i64 t.a4, .int .i64 t.a5, .int .i64 t.a6, .int .i64 t.a7, .int .i64 t.a8, .int .i64 t.a9, .slice oc cs.length ck, .slice ou us.length uk]) := fun Y hY => range_of ((hY.block w.heap.size (Array.getElem?_eq_some_iff.1 hb).1).trans hb)
  have HLD := hide (lend_any (w.alloc (.cells #[.int .i64 t.a0, .int .i64 t.a1, .int .i64 t.a2, .int .i64 t.a3, .int .i64 t.a4, .int .i64 t.a5, .int .i64 t.a6, .int .i64 t.a7, .int .i64 t.a8, .int .i64 t.a9, .slice oc cs.length ck, .slice ou us.length uk] 25)) t _ _ cs us (HCw.out.below HB.out) (HUw.out.below HB.out) hz)
  have HR0 := hide (HP.out _ (Below.refl _ _))
  have HNU := hide (fun Y h => num_ch Y e h t cs us)
  have HCK := hide (fun (Y : World) v u h1 h2 h3 h4 => check_any Y t v u cs us e h1 h2 h3 h4 hz)
  have HRK := hide (fun (Y : World) v u h1 h2 h4 => refCheck_any Y t v u cs us h1 h2 hz h4)
  generalize chV e t cs us = cv at *
  generalize chI t cs us = ci at *
  clear hb hz he hr hE
  go_enter Tryz.func3, Tryz.ntmps3
  go_wp2_with (refine wpList_load_mid rfl 25 _ rfl w.heap.size 0 rfl _ _ HR0.out Tryz.underlying25 rfl sizeCf ?_)
  generalize w.alloc (.cells #[.int .i64 t.a0, .int .i64 t.a1, .int .i64 t.a2, .int .i64 t.a3, .int .i64 t.a4, .int .i64 t.a5, .int .i64 t.a6, .int .i64 t.a7, .int .i64 t.a8, .int .i64 t.a9, .slice oc cs.length ck, .slice ou us.length uk] 25) = V at *
  refine HLD.out.mono ?_
  rintro x w1 ⟨v, rfl, ls, oN, cN, oU, cU, vL, rfl, hO, b1⟩
  have HO := hide hO
  obtain ⟨oL, cL, hvL⟩ := form_w hO.rowL
  subst hvL
  have hx := heap_new w1 (.cells #[.int .i64 t.a0, .int .i64 t.a1, .int .i64 t.a2, .int .i64 t.a3, .int .i64 t.a4, .int .i64 t.a5, .int .i64 t.a6, .int .i64 t.a7, .int .i64 t.a8, .int .i64 t.a9, .slice oN cs.length cN, .slice oU us.length cU, .slice oN (cs.length + 2) cN, .slice oU (us.length + 2) cU, .slice oL (2 * cs.length) cL] 28)
  have BX : Below w1.heap.size w1 (w1.alloc (.cells #[.int .i64 t.a0, .int .i64 t.a1, .int .i64 t.a2, .int .i64 t.a3, .int .i64 t.a4, .int .i64 t.a5, .int .i64 t.a6, .int .i64 t.a7, .int .i64 t.a8, .int .i64 t.a9, .slice oN cs.length cN, .slice oU us.length cU, .slice oN (cs.length + 2) cN, .slice oU (us.length + 2) cU, .slice oL (2 * cs.length) cL] 28)) := (Below.refl _ _).alloc (Nat.le_refl _) _
  have HO1 := hide (hO.below BX)
  have HV1 := hide (keepW b1 BX)
  have HB1 := hide (keepW HB.out HV1.out)
  have HXB : Hid (∀ Y, Below (w1.alloc (.cells #[.int .i64 t.a0, .int .i64 t.a1, .int .i64 t.a2, .int .i64 t.a3, .int .i64 t.a4, .int .i64 t.a5, .int .i64 t.a6, .int .i64 t.a7, .int .i64 t.a8, .int .i64 t.a9, .slice oN cs.length cN, .slice oU us.length cU, .slice oN (cs.length + 2) cN, .slice oU (us.length + 2) cU, .slice oL (2 * cs.length) cL] 28)).heap.size (w1.alloc (.cells #[.int .i64 t.a0, .int .i64 t.a1, .int .i64 t.a2, .int .i64 t.a3, .int .i64 t.a4, .int .i64 t.a5, .int .i64 t.a6, .int .i64 t.a7, .int .i64 t.a8, .int .i64 t.a9, .slice oN cs.length cN, .slice oU us.length cU, .slice oN (cs.length + 2) cN, .slice oU (us.length + 2) cU, .slice oL (2 * cs.length) cL] 28)) Y → Y.heap[w1.heap.size]? = some (.cells #[.int .i64 t.a0, .int .i64 t.a1, .int .i64 t.a2, .int .i64 t.a3, .int .i64 t.a4, .int .i64 t.a5, .int .i64 t.a6, .int .i64 t.a7, .int .i64 t.a8, .int .i64 t.a9, .slice oN cs.length cN, .slice oU us.length cU, .slice oN (cs.length + 2) cN, .slice oU (us.length + 2) cU, .slice oL (2 * cs.length) cL] 28)) := fun Y hY => (hY.block _ (Array.getElem?_eq_some_iff.1 hx).1).trans hx
  have HRX : Hid ((w1.alloc (.cells #[.int .i64 t.a0, .int .i64 t.a1, .int .i64 t.a2, .int .i64 t.a3, .int .i64 t.a4, .int .i64 t.a5, .int .i64 t.a6, .int .i64 t.a7, .int .i64 t.a8, .int .i64 t.a9, .slice oN cs.length cN, .slice oU us.length cU, .slice oN (cs.length + 2) cN, .slice oU (us.length + 2) cU, .slice oL (2 * cs.length) cL] 28)).rangeAt w1.heap.size 0 [.int .i64 t.a0, .int .i64 t.a1, .int .i64 t.a2, .int .i64 t.a3, .int .i64 t.a4, .int .i64 t.a5, .int .i64 t.a6, .int .i64 t.a7, .int .i64 t.a8, .int .i64 t.a9, .slice oN cs.length cN, .slice oU us.length cU]) := range_pre hx _ (pre_of (m := [.slice oN (cs.length + 2) cN, .slice oU (us.length + 2) cU, .slice oL (2 * cs.length) cL]))
  clear hO hx BX b1 HLD HR0
  go_wp2_with (refine wpList_load_mid rfl 25 _ rfl w1.heap.size 0 rfl _ _ HRX.out Tryz.underlying25 rfl sizeCf ?_)
  generalize w1.alloc (.cells #[.int .i64 t.a0, .int .i64 t.a1, .int .i64 t.a2, .int .i64 t.a3, .int .i64 t.a4, .int .i64 t.a5, .int .i64 t.a6, .int .i64 t.a7, .int .i64 t.a8, .int .i64 t.a9, .slice oN cs.length cN, .slice oU us.length cU, .slice oN (cs.length + 2) cN, .slice oU (us.length + 2) cU, .slice oL (2 * cs.length) cL] 28) = W1 at *
  refine (HCK.out W1 _ _ HO1.out.own.lies HO1.out.liesU HO1.out.own.caps (HE.out.below HB1.out)).mono ?_
  rintro x w2 ⟨rfl, b2⟩
  have HX2 := hide b2
  have HV2 := hide (keepW HV1.out b2)
  have HB2 := hide (keepW HB1.out b2)
  have HR2 := hide (HP.out w2 HV2.out)
  clear b2 HRX
  go_wp2_with (refine wpList_load_mid rfl 25 _ rfl w.heap.size 0 rfl _ _ HR2.out Tryz.underlying25 rfl sizeCf ?_)
  refine (HRK.out w2 _ _ (HCw.out.below HB2.out) (HUw.out.below HB2.out) (HRT.out.below HB2.out)).mono ?_
  rintro x w3 ⟨rfl, b3⟩
  have HX3 := hide (keepW HX2.out b3)
  have HV3 := hide (keepW HV2.out b3)
  have HB3 := hide (keepW HB2.out b3)
  have HR3 := hide (HP.out w3 HV3.out)
  have HRL := hide (range_of (l := [.int .i64 t.a0, .int .i64 t.a1, .int .i64 t.a2, .int .i64 t.a3, .int .i64 t.a4, .int .i64 t.a5, .int .i64 t.a6, .int .i64 t.a7, .int .i64 t.a8, .int .i64 t.a9, .slice oN cs.length cN, .slice oU us.length cU, .slice oN (cs.length + 2) cN, .slice oU (us.length + 2) cU, .slice oL (2 * cs.length) cL]) (HXB.out w3 HX3.out))
  clear b3 HR2
  go_wp2_with (first
    | (refine wpList_load_mid rfl 28 _ rfl w1.heap.size 0 rfl _ _ HRL.out Tryz.underlying28 rfl sizeLn ?_)
    | (refine wpList_load_mid rfl 25 _ rfl w.heap.size 0 rfl _ _ HR3.out Tryz.underlying25 rfl sizeCf ?_))
  refine (returned_any w3 t _ _ cs us ls oN oU cN cU _ (V.heap.size + 2) (HO1.out.below HX3.out) (HCw.out.below HB3.out) (HUw.out.below HB3.out) HZ.out).mono ?_
  rintro x w4 ⟨rfl, b4⟩
  have HB4 := hide (keepW HB3.out b4)
  have HN4 := hide (HNU.out w4 (HEE.out.below HB4.out))
  clear b4 HR3 HRL
  go_wp2_with fail
  refine HN4.out.mono ?_
  rintro x w5 ⟨rfl, h5⟩
  obtain rfl := h5.symm
  clear h5
  have hbq : (ci == ci) = true := beq_self_eq_true _
  go_wp2_with fail
  go_ret
  exact ⟨by first | rfl | simp, HB4.out⟩
end Go.Proofs.YtilhfmhjgfmejaaGreatDoor.rg

namespace Go.Proofs.YtilhfmhjgfmejaaGreatDoor.tm
open Go.ChangeShapes Go.WideShapes Go.ChangeAt Go.RowKit Go.Proofs.YtilhfmhjgfmejaaGreatDoor.common Go.Proofs.YtilhfmhjgfmejaaGreatDoor.bk
open Go.Shelf Go.Lib

theorem rngG : Tryz.prog.globalNamed "strconv.ErrRange" = some 26 := by kernel_rfl
theorem rngT : (Tryz.prog.globals[26]?).map (·.type) = some 31 := by kernel_rfl
theorem synG : Tryz.prog.globalNamed "strconv.ErrSyntax" = some 25 := by kernel_rfl
theorem synT : (Tryz.prog.globals[25]?).map (·.type) = some 31 := by kernel_rfl
theorem nums_of_laid {W : World} {rest : List (String × DataW Unit)} (h : laidMet Tryz.prog (("strconv.ErrRange", Rows.laid_strconv_ErrRange) :: ("strconv.ErrSyntax", Rows.laid_strconv_ErrSyntax) :: rest) W) : Nums W := by
  obtain ⟨ps, h0, _, hrows⟩ := h
  obtain ⟨a0, q0, c0, h1, rfl⟩ := errw.peel h0 (fun b off hm => hrows b off (by simp [hm])) rngG rngT Tryz.underlying31 errw.rowErr Tryz.underlying200 Tryz.underlying202 rfl rfl Tryz.underlying9 errw.cellsErr errw.cellsStr
  obtain ⟨a1, q1, c1, h2, rfl⟩ := errw.peel h1 (fun b off hm => hrows b off (by simp [hm])) synG synT Tryz.underlying31 errw.rowErr Tryz.underlying200 Tryz.underlying202 rfl rfl Tryz.underlying9 errw.cellsErr errw.cellsStr
  exact ⟨⟨_, _, c1⟩, ⟨_, _, c0⟩⟩
theorem locG : Tryz.prog.globalNamed "usher/terms.localHosts" = some 19 := by kernel_rfl
theorem locTy : (Tryz.prog.globals[19]?).map (·.type) = some 142 := by kernel_rfl
theorem loc_is : (Rows.laid_usher_terms_localHosts : DataW Unit) = .agg ((List.range 3).map fun i => .lit (.string (tH i))) := by kernel_rfl
theorem loc_of_laid {w : World} {l : List (String × DataW Unit)} (h : laidMet Tryz.prog l w) (h1 : ("usher/terms.localHosts", Rows.laid_usher_terms_localHosts) ∈ l) : Loc w := by
  have a := laidMet.reads h h1
  rw [loc_is] at a
  have key : ∀ i, i < 3 → w.cell? ⟨19, i, none⟩ = some (S (tH i)) := by
    intro i hi
    obtain ⟨g, t, cs, fuel, p, hg, hty, hvar, hd⟩ := a
    obtain rfl := Option.some.inj (locG.symm.trans hg)
    obtain rfl := Option.some.inj (locTy.symm.trans hty)
    obtain ⟨fuel', d, q, hdi, he⟩ := array_elem Tryz.underlying142 hd i hi
    simp only [List.getElem?_map, List.getElem?_range hi, Option.map_some, Option.some.injEq] at hdi
    subst hdi
    rw [errw.cellsStr] at he
    obtain ⟨z, e0, f0⟩ := DataW.trod_string Tryz.underlying9 he
    have f1 : (DataW.lit (.string (tH i)) : DataW Unit) = _ := congrArg Prod.fst f0.1
    simp only [DataW.lit.injEq, Lit.string.injEq] at f1
    have e0 := congrArg (·[0]?) e0
    simp only [List.getElem?_take, List.getElem?_drop] at e0
    rw [World.var?_cell hg hvar i, ← Array.getElem?_toList]
    have : S (tH i) = .string z := congrArg Value.string (ba_ext f1)
    rw [this]
    simpa using e0
  intro j v hv
  have hj : j < 3 := by
    have := (List.getElem?_eq_some_iff.1 hv).1
    exact this
  match j, hj with
  | 0, _ => rw [← hv]; exact key 0 (by decide)
  | 1, _ => rw [← hv]; exact key 1 (by decide)
  | 2, _ => rw [← hv]; exact key 2 (by decide)

end Go.Proofs.YtilhfmhjgfmejaaGreatDoor.tm

namespace Go.Proofs.YtilhfmhjgfmejaaGreatDoor.rg
open Go.ChangeShapes Go.WideShapes Go.ChangeAt Go.RowKit Go.Proofs.YtilhfmhjgfmejaaGreatDoor.common
open Go.Shelf Go.Lib

theorem intC : Tryz.prog.cellsOf 3 = 1 := by kernel_rfl
theorem strC : Tryz.prog.cellsOf 9 = 1 := by kernel_rfl
theorem tenC : Tryz.prog.cellsOf 72 = 10 := by kernel_rfl
theorem lesG : Tryz.prog.globalNamed "usher/usherref11.least" = some 9 := by kernel_rfl
theorem lesT : (Tryz.prog.globals[9]?).map (·.type) = some 72 := by kernel_rfl
theorem greG : Tryz.prog.globalNamed "usher/usherref11.greatest" = some 10 := by kernel_rfl
theorem greT : (Tryz.prog.globals[10]?).map (·.type) = some 72 := by kernel_rfl
theorem rtab_of {W : World} {rest : List (String × DataW Unit)} (h : laidMet Tryz.prog (("usher/usherref11.least", Rows.laid_usher_usherref11_least) :: ("usher/usherref11.greatest", Rows.laid_usher_usherref11_greatest) :: rest) W) : RTab W := by
  have t1 : Lib.TabIs Tryz.prog W "usher/usherref11.least" .i64 loL := Lib.tabIs_of_head (rest := _) lesG lesT Tryz.underlying72 Tryz.underlying3 intC tenC h
  have t2 : Lib.TabIs Tryz.prog W "usher/usherref11.greatest" .i64 hiL := Lib.tabIs_of_head (rest := rest) greG greT Tryz.underlying72 Tryz.underlying3 intC tenC (laidMet.tail h)
  intro i hi
  have g : ∀ l : List Int, ∀ h : i < l.length, l.getD i 0 = l[i] := fun l h => by simp [List.getD, h]
  rw [t1.cell lesG i (by simpa [loL] using hi), t2.cell greG i (by simpa [hiL] using hi), g loL (by simpa [loL] using hi), g hiL (by simpa [hiL] using hi)]
  exact ⟨rfl, rfl⟩
/-- the ten words -/
def wdL : List (List UInt8) := [[99, 111, 100, 101, 45, 108, 105, 102, 101], [116, 111, 107, 101, 110, 45, 108, 105, 102, 101], [115, 101, 115, 115, 105, 111, 110, 45, 108, 105, 102, 101], [114, 101, 102, 114, 101, 115, 104, 45, 108, 105, 102, 101], [100, 105, 115, 107], [104, 101, 97, 100], [98, 111, 100, 121], [114, 111, 117, 110, 100, 115], [102, 97, 105, 108, 115], [108, 111, 99, 107]]
def wd (i : Nat) : ByteArray := ⟨(wdL.getD i []).toArray⟩
theorem numG : Tryz.prog.globalNamed "usher/registry.numbers" = some 8 := by kernel_rfl
theorem numT : (Tryz.prog.globals[8]?).map (·.type) = some 65 := by kernel_rfl
theorem numC : Tryz.prog.cellsOf 64 = 3 := by kernel_rfl
theorem num_is : (Rows.laid_usher_registry_numbers : DataW Unit) = .agg ((List.range 10).map fun i => .agg [.lit (.string (wdL.getD i [])), .lit (.int .i64 (loL.getD i 0)), .lit (.int .i64 (hiL.getD i 0))]) := by kernel_rfl
theorem str_eq (l : List UInt8) (z : ByteArray) (h : l = z.data.toList) : (⟨l.toArray⟩ : ByteArray) = z := by
  subst h
  rfl
/-- the table of the numbers, with its words -/
theorem nums_at {w : World} {l : List (String × DataW Unit)} (h : laidMet Tryz.prog l w) (h1 : ("usher/registry.numbers", Rows.laid_usher_registry_numbers) ∈ l) (i : Nat) (hi : i < 10) :
    w.cell? ⟨8, i * 3, none⟩ = some (.string (wd i)) ∧ w.cell? ⟨8, i * 3 + 1, none⟩ = some (.int .i64 (loL.getD i 0)) ∧ w.cell? ⟨8, i * 3 + 2, none⟩ = some (.int .i64 (hiL.getD i 0)) := by
  have a := laidMet.reads h h1
  rw [num_is] at a
  obtain ⟨g, t, cs, fuel, p, hg, hty, hvar, hd⟩ := a
  obtain rfl := Option.some.inj (numG.symm.trans hg)
  obtain rfl := Option.some.inj (numT.symm.trans hty)
  obtain ⟨fuel', d, q, hdi, he⟩ := array_elem Tryz.underlying65 hd i hi
  simp only [List.getElem?_map, List.getElem?_range hi, Option.map_some, Option.some.injEq] at hdi
  subst hdi
  rw [numC] at he
  obtain ⟨xs, n, rfl, hx, hl, hxl, hall⟩ := DataW.trod_struct Tryz.underlying64 he
  have hxs : xs.map (·.1) = [(DataW.lit (.string (wdL.getD i [])) : DataW Unit), .lit (.int .i64 (loL.getD i 0)), .lit (.int .i64 (hiL.getD i 0))] := by
    have := congrArg Prod.fst hx
    simpa using this.symm
  match xs, hxs with
  | [(x0, p0), (x1, p1), (x2, p2)], hxs =>
    simp only [List.map_cons, List.map_nil, List.cons.injEq, and_true] at hxs
    generalize hfs : (#[_, _, _] : Array Field) = fs at hall
    obtain ⟨f0, k0, t0, o0⟩ : ∃ f, fs[0]? = some f ∧ f.type = 9 ∧ f.offset = 0 := by rw [← hfs]; exact ⟨_, rfl, rfl, rfl⟩
    obtain ⟨f1, k1, t1, o1⟩ : ∃ f, fs[1]? = some f ∧ f.type = 3 ∧ f.offset = 1 := by rw [← hfs]; exact ⟨_, rfl, rfl, rfl⟩
    obtain ⟨f2, k2, t2, o2⟩ : ∃ f, fs[2]? = some f ∧ f.type = 3 ∧ f.offset = 2 := by rw [← hfs]; exact ⟨_, rfl, rfl, rfl⟩
    have a0 := hall 0 f0 k0
    have a1 := hall 1 f1 k1
    have a2 := hall 2 f2 k2
    rw [t0, o0] at a0
    rw [t1, o1] at a1
    rw [t2, o2] at a2
    simp only [List.getElem?_cons_zero, List.getElem?_cons_succ] at a0 a1 a2
    rw [strC] at a0
    rw [intC] at a1 a2
    obtain ⟨z0, e0, f0⟩ := DataW.trod_string Tryz.underlying9 a0
    obtain ⟨z1, e1, f1⟩ := DataW.trod_int Tryz.underlying3 a1
    obtain ⟨z2, e2, f2⟩ := DataW.trod_int Tryz.underlying3 a2
    have f0 : x0 = _ := congrArg Prod.fst f0.1
    have f1 : x1 = _ := congrArg Prod.fst f1.1
    have f2 : x2 = _ := congrArg Prod.fst f2.1
    rw [hxs.1] at f0
    rw [hxs.2.1] at f1
    rw [hxs.2.2] at f2
    simp only [DataW.lit.injEq, Lit.int.injEq, Lit.string.injEq, true_and] at f0 f1 f2
    subst f1 f2
    have e0 := congrArg (·[0]?) e0
    have e1 := congrArg (·[0]?) e1
    have e2 := congrArg (·[0]?) e2
    simp only [List.getElem?_take, List.getElem?_drop] at e0 e1 e2
    refine ⟨?_, ?_, ?_⟩
    · rw [World.var?_cell hg hvar (i * 3), ← Array.getElem?_toList]
      have : (Value.string (wd i)) = .string z0 := congrArg Value.string (str_eq _ _ f0)
      rw [this]
      simpa using e0
    · rw [World.var?_cell hg hvar (i * 3 + 1), ← Array.getElem?_toList]
      simpa using e1
    · rw [World.var?_cell hg hvar (i * 3 + 2), ← Array.getElem?_toList]
      simpa using e2
theorem ntab_of {w : World} {l : List (String × DataW Unit)} (h : laidMet Tryz.prog l w) (h1 : ("usher/registry.numbers", Rows.laid_usher_registry_numbers) ∈ l) : NTab w := fun i hi => ⟨wd i, nums_at h h1 i hi⟩
theorem tot_mem (l : List ByteArray) : (∀ s ∈ l, s.size ≤ ss.tot l) ∧ l.length ≤ ss.tot l := by
  induction l with
  | nil => exact ⟨fun s hs => (by cases hs), Nat.zero_le _⟩
  | cons a r ih =>
    have h : ss.tot (a :: r) = a.size + 1 + ss.tot r := by simp [ss.tot]
    refine ⟨fun s hs => ?_, ?_⟩
    · rcases List.mem_cons.1 hs with rfl | hs
      · omega
      · have := ih.1 s hs; omega
    · have := ih.2; simp only [List.length_cons]; omega
end Go.Proofs.YtilhfmhjgfmejaaGreatDoor.rg
