import Derived.Test.YtdkbjefphihplabDoorCards
import Derived.Test.YtdkbjefphihplabDoorTie
import Derived.Test.YtdkbjefphihplabDoorCommon
import Derived.Test.YtdkbjefphihplabDoorSafeLaw
import Derived.Test.YtdkbjefphihplabDoorWaresOpen
import Derived.Test.YtdkbjefphihplabDoorSchemeEv
import Derived.Test.YtdkbjefphihplabDoorSetPow
import Derived.Test.YtdkbjefphihplabDoorPctTab
import Derived.LaidMore
import Derived.Deep.DeepWitnessRowRef
namespace Go.Proofs.YtdkbjefphihplabDoor.fieldSafe
open Go.ChangeShapes Go.WideShapes Go.ChangeAt Go.RowKit Go.Joins Go.Proofs.YtdkbjefphihplabDoor.common
open Go.WideMaps Go.WideElems
open Go.ChangeMaps (open_string shut_string)

theorem own : ownKnob Tryd.prog.godebug = none := by kernel_rfl
theorem laidOut : laidOutB Tryd.prog = true := by kernel_rfl


set_option maxRecDepth 100000 in
theorem contract (H : Type) (enc : TypeId × Value → H) (W : World) (base : Nat) (args : Array Value) (ds gs : List (DataW H)) (before : List MemPlace)
    (hval : ∀ (j : Nat) t v, Tryd.f5.params[j]? = some t → args[j]? = some v → Value.okWide Tryd.prog W .any base t v)
    (hW : DataW.Whole enc Tryd.prog Tryd.f5.params.toList Rows.fieldSafeSpec.vars false W args.toList ds gs before)
    (hcond : ∀ k, (Rows.OpenSpec.upto Rows.fieldSafeSpec).cond = some k → k H (ds ++ gs) = true)
    (hsz : (DataW.weightsEach Tryd.prog (Tryd.f5.params.toList ++ (Rows.OpenSpec.upto Rows.fieldSafeSpec).bare.plain.varTypes Tryd.prog) (ds ++ gs)).all (· ≤ reachBytes) = true) (hL : laidMetH Tryd.prog Rows.fieldSafeUptoRow.laid W) :
    Calls Tryd.prog 5 args W fun e W' => ∃ v, e = .returned v ∧ Rows.fieldSafeSpec.post enc Tryd.prog Tryd.f5 false true false false W args v W' := by
  refine law_one (t0 := 37) (tb := 4) Tryd.params5 (by kernel_rfl) Tryd.underlying4 laidOut (by kernel_rfl) (of_decide_eq_true (by kernel_rfl)) rfl (fun _ => rfl) hval hW ?_
  intro v0 d0 p0 hv h0 hds hgs hlt
  subst hds hgs
  rw [Tryd.params5] at hsz
  obtain ⟨c0, cn, cv, u, q, mk, y, n, rfl, rfl, hy, w3⟩ := fd.wares_of hv h0
  obtain ⟨d, pl⟩ := y
  have hw : (d.weights Tryd.prog 35).all (· ≤ reachBytes) = true := by
    have h1 : ((DataW.agg [d, .agg [.lit (.string cn.data.toList), .lit (.string cv.data.toList), .lit (.int .i64 mk)], .lit (.string u.data.toList), .lit (.string q.data.toList)]).weights Tryd.prog 37 ++ []).all (· ≤ reachBytes) = true := hsz
    simp only [DataW.weights, Tryd.underlying37] at h1
    rw [List.append_nil] at h1
    have h2 := (List.all_append ..).symm.trans (show (d.weights Tryd.prog 35 ++ _).all (· ≤ reachBytes) = true from h1)
    rw [Bool.and_eq_true] at h2
    exact h2.1
  obtain ⟨l, hl, hlen, _, hd⟩ := lst.pairs_of hy hw
  have hk := of_decide_eq_true (hcond _ rfl)
  have q1 : cn.data.toList.length = cn.size := by simp
  have q2 : cv.data.toList.length = cv.size := by simp
  have q3 : u.data.toList.length = u.size := by simp
  have q4 : q.data.toList.length = q.size := by simp
  have hz : fd.tot l ≤ 3145728 ∧ l.length ≤ 1048576 ∧ cn.size + cv.size ≤ 1048576 ∧ u.size + q.size ≤ 1048576 := by
    rcases hd with ⟨rfl, rfl⟩ | ⟨sp, rfl⟩
    · simp only [List.append_nil, Rows.uptoBulkAll, Rows.uptoBulk] at hk
      exact ⟨by decide, by decide, by omega, by omega⟩
    · have hb := fd.bulk_tot (H := H) l
      simp only [List.append_nil, Rows.uptoBulkAll, Rows.uptoBulk] at hk
      exact ⟨by omega, by omega, by omega, by omega⟩
  have hL' : laidMet Tryd.prog Rows.fieldSafeUptoRow.laid W := hL
  have hp := fd.pow_head (laidMet.tail (laidMet.tail hL'))
  obtain ⟨ea, he⟩ := fd.txt_of_laid (laidMet.tail (laidMet.tail (laidMet.tail (laidMet.tail hL'))))
  obtain ⟨em, hem⟩ := fd.many_of_laid (laidMet.tail (laidMet.tail (laidMet.tail (laidMet.tail (laidMet.tail hL')))))
  have htp := pctw.tab_of_laid (laidMet.tail (laidMet.tail (laidMet.tail (laidMet.tail (laidMet.tail (laidMet.tail hL'))))))
  have hr := radw.stdTab (laidMet.tail (laidMet.tail (laidMet.tail (laidMet.tail (laidMet.tail (laidMet.tail (laidMet.tail hL')))))))
  have hm : fd.inR mk := bounds_i64 w3
  clear hcond hsz hval hW hL hL' h0 hv hy hlt hk hw hd w3
  exact fd.lawSafe c0 l cn cv mk u q W hl hz.2.1 hz.1 hz.2.2.1 hm hz.2.2.2 hp ea em he hem htp hr


set_option maxRecDepth 100000 in
/-- a world in which the call may begin -/
theorem wit (os : Os) : ∃ w0 : World, w0.os = os ∧ (w0.forCall (fun _ _ => 0) ⟨#[], #[.agg #[.slice none 0 0, .string ByteArray.empty, .string ByteArray.empty, .int .i64 0, .string ByteArray.empty, .string ByteArray.empty]], []⟩).variablesRefB Tryd.checked.prog = true ∧
    (((w0.forCall (fun _ _ => 0) ⟨#[], #[.agg #[.slice none 0 0, .string ByteArray.empty, .string ByteArray.empty, .int .i64 0, .string ByteArray.empty, .string ByteArray.empty]], []⟩).heap.toList.drop Tryd.checked.prog.globals.size).take ((begin Tryd.checked.prog (fun _ _ => 0) default).world.heap.size - Tryd.checked.prog.globals.size) = (begin Tryd.checked.prog (fun _ _ => 0) default).world.heap.toList.drop Tryd.checked.prog.globals.size) ∧
    Input.okWideB Tryd.checked.prog (w0.forCall (fun _ _ => 0) ⟨#[], #[.agg #[.slice none 0 0, .string ByteArray.empty, .string ByteArray.empty, .int .i64 0, .string ByteArray.empty, .string ByteArray.empty]], []⟩) 5 ⟨#[], #[.agg #[.slice none 0 0, .string ByteArray.empty, .string ByteArray.empty, .int .i64 0, .string ByteArray.empty, .string ByteArray.empty]], []⟩ = true ∧ laidMet Tryd.prog Rows.fieldSafeUptoRow.laid (w0.forCall (fun _ _ => 0) ⟨#[], #[.agg #[.slice none 0 0, .string ByteArray.empty, .string ByteArray.empty, .int .i64 0, .string ByteArray.empty, .string ByteArray.empty]], []⟩).memory ∧
    ∀ (H : Type) (enc : TypeId × Value → H), ∃ places, DataW.whole enc Tryd.prog (w0.forCall (fun _ _ => 0) ⟨#[], #[.agg #[.slice none 0 0, .string ByteArray.empty, .string ByteArray.empty, .int .i64 0, .string ByteArray.empty, .string ByteArray.empty]], []⟩).memory Tryd.f5.params.toList Rows.fieldSafeSpec.vars false #[.agg #[.slice none 0 0, .string ByteArray.empty, .string ByteArray.empty, .int .i64 0, .string ByteArray.empty, .string ByteArray.empty]].toList 8 = some ([.agg [.nil, .agg [.lit (.string []), .lit (.string []), .lit (.int .i64 0)], .lit (.string []), .lit (.string [])]], [], places) :=
  ⟨({ (World.doorLaid Tryd.prog 291 os) with heap := ((World.doorLaid Tryd.prog 291 os).heap.modify 17 fun | .cells _ t frozen => .cells (((List.replicate 128 (240 : Int) ++ List.replicate 66 241 ++ List.replicate 30 2 ++ [19] ++ List.replicate 12 3 ++ [35, 3, 3, 52, 4, 4, 4, 68] ++ List.replicate 11 241).map fun n => Value.int .u8 n).toArray) t frozen | o => o) } : World), rfl, by kernel_rfl, by kernel_rfl, by kernel_rfl, laidMet_of_run' 8 (by kernel_rfl) (by kernel_rfl), fun _ _ => ⟨[], by kernel_rfl⟩⟩

set_option maxRecDepth 100000 in
theorem lifted (os : Os) (started : os.Started) (H : Type) (enc : TypeId × Value → H) (F : Stop.Interp) :
    ReturnsInHanded {} Tryd.checked os 5 .any ((Rows.OpenSpec.upto Rows.fieldSafeSpec).preRow enc Tryd.prog Tryd.f5 Rows.fieldSafeUptoRow.domain false Rows.fieldSafeUptoRow.laid) (((Rows.OpenSpec.upto Rows.fieldSafeSpec).at F).post enc Tryd.prog Tryd.f5 false true false false) := by
  obtain ⟨w0, hos, hv, hr, hok, hlm, hrd⟩ := wit os
  obtain ⟨places, hx⟩ := hrd H enc
  refine returnsInHanded_of_row (C := Tryd.checked) (s := Rows.OpenSpec.upto Rows.fieldSafeSpec) own started (by kernel_rfl) Tryd.func5
    (witness_row_atRef (enc := enc) (C := Tryd.checked) false w0 #[.agg #[.slice none 0 0, .string ByteArray.empty, .string ByteArray.empty, .int .i64 0, .string ByteArray.empty, .string ByteArray.empty]] hos hv hr hok
      (OpenSpec.preRow_of_cond 8 hx (by kernel_rfl) (fun k hk => by cases hk; kernel_rfl) (by kernel_rfl) hlm)) ?_
  intro W base args ds gs before hval hW _ hc hs hL _ _
  exact contract H enc W base args ds gs before hval hW hc hs hL

theorem said : Rows.FieldSafeUptoSaid :=
  OpenClaim.holds_of_cond 5 Tryd.f5 rfl rfl rfl rfl rfl rfl rfl ⟨rfl, rfl, rfl, rfl, rfl⟩ rfl rfl rfl rfl rfl (by kernel_rfl) Tryd.func5 (by kernel_rfl)
    (of_decide_eq_true (by kernel_rfl)) (by unfold Func.isWrapper; first | (rw [if_pos (by decide +kernel)]; kernel_rfl) | (rw [if_neg (by decide +kernel)]; exact ⟨rfl, rfl⟩))
    (fun os started H enc _ F => by rw [OpenClaim.pre_eq_preRow]; exact lifted os started H enc F)

theorem plain (f : FuncId) (fn : Func) (hf : Tryd.pinned.checked.prog.funcNamed "usher/usherlaw6.FieldSafe" = some f) (hfn : Tryd.pinned.checked.prog.funcs[f]? = some fn) :
    true = Tryd.pinned.checked.prog.looks [] ∧ ∀ (j : Nat) t, fn.params[j]? = some t → Tryd.pinned.checked.prog.wantsStandIn t = false := by
  obtain rfl : f = 5 := Option.some.inj ((show Tryd.prog.funcNamed "usher/usherlaw6.FieldSafe" = some 5 by kernel_rfl).symm.trans hf) |>.symm
  obtain rfl : fn = Tryd.f5 := (Option.some.inj (Tryd.func5.symm.trans hfn)).symm
  refine ⟨by kernel_rfl, fun j t ht => ?_⟩
  rw [Tryd.params5] at ht
  obtain rfl : t = 37 := by simpa using Array.mem_of_getElem? ht
  exact (show Tryd.prog.wantsStandIn 37 = false by kernel_rfl)

/-- THE CARD -/
theorem card : Rows.FieldSafeUptoCardSaid :=
  Claim7.holds_tied_plain_at .later [] _ _ _ _ said (fun _ h => by cases h) (by kernel_rfl) (fun _ h => by cases h) fieldSafeUpto_row_tie rfl ⟨rfl, rfl⟩ (by kernel_rfl) rfl plain (by kernel_rfl)
end Go.Proofs.YtdkbjefphihplabDoor.fieldSafe
