import Derived.Test.YthkbheojjcdglabDoorCards
import Derived.Test.YthkbheojjcdglabDoorTie
import Derived.Test.YthkbheojjcdglabDoorCommon
import Derived.Test.YthkbheojjcdglabDoorOnceLaw
import Derived.Test.YthkbheojjcdglabDoorSentOpen
import Derived.Test.YthkbheojjcdglabDoorBulkPairs
import Derived.Test.YthkbheojjcdglabDoorPctTab
import Derived.Test.YthkbheojjcdglabDoorPctMny
import Derived.LaidMore
import Derived.Deep.DeepWitnessRowRef
namespace Go.Proofs.YthkbheojjcdglabDoor.pctOnce
open Go.ChangeShapes Go.WideShapes Go.ChangeAt Go.RowKit Go.Joins Go.Proofs.YthkbheojjcdglabDoor.common
open Go.WideMaps Go.WideElems
open Go.ChangeMaps (open_string shut_string)
open Go.Maps

theorem own : ownKnob Tryd.prog.godebug = none := by kernel_rfl
theorem laidOut : laidOutB Tryd.prog = true := by kernel_rfl


set_option maxRecDepth 100000 in
theorem contract (H : Type) (enc : TypeId × Value → H) (W : World) (base : Nat) (args : Array Value) (ds gs : List (DataW H)) (before : List MemPlace)
    (hval : ∀ (j : Nat) t v, Tryd.f6.params[j]? = some t → args[j]? = some v → Value.okWide Tryd.prog W .any base t v)
    (hW : DataW.Whole enc Tryd.prog Tryd.f6.params.toList Rows.pctOnceSpec.vars false W args.toList ds gs before)
    (hcond : ∀ k, (Rows.OpenSpec.upto Rows.pctOnceSpec).cond = some k → k H (ds ++ gs) = true)
    (hsz : (DataW.weightsEach Tryd.prog (Tryd.f6.params.toList ++ (Rows.OpenSpec.upto Rows.pctOnceSpec).bare.plain.varTypes Tryd.prog) (ds ++ gs)).all (· ≤ reachBytes) = true) (hL : laidMetH Tryd.prog Rows.pctOnceUptoRow.laid W) :
    Calls Tryd.prog 6 args W fun e W' => ∃ v, e = .returned v ∧ Rows.pctOnceSpec.post enc Tryd.prog Tryd.f6 false true false false W args v W' := by
  refine law_one (t0 := 37) (tb := 4) Tryd.params6 (by kernel_rfl) Tryd.underlying4 laidOut (by kernel_rfl) (of_decide_eq_true (by kernel_rfl)) rfl (fun _ => rfl) hval hW ?_
  intro v0 d0 p0 hv h0 hds hgs hlt
  subst hds hgs
  rw [Tryd.params6] at hsz
  obtain ⟨c0, c1, c2, c3, c4, y0, y1, y2, y3, y4, m, rfl, rfl, hy0, hy1, hy2, hy3, hy4⟩ := lst.open_five Tryd.underlying37 (by kernel_rfl) lst.cellsSent hv h0
  obtain ⟨nm, e1, rfl, _⟩ := DataW.trod_string Tryd.underlying9 hy1
  obtain ⟨vl, e2, rfl, _⟩ := DataW.trod_string Tryd.underlying9 hy2
  obtain ⟨tt, e3, rfl, w3⟩ := DataW.trod_int Tryd.underlying3 hy3
  obtain ⟨aa, e4, rfl, w4⟩ := DataW.trod_int Tryd.underlying3 hy4
  simp at e1 e2 e3 e4
  subst e1 e2 e3 e4
  obtain ⟨d, pl⟩ := y0
  have hw : (d.weights Tryd.prog 22).all (· ≤ reachBytes) = true := by
    have h1 : ((DataW.agg [d, .lit (.string nm.data.toList), .lit (.string vl.data.toList), .lit (.int .i64 tt), .lit (.int .i64 aa)]).weights Tryd.prog 37 ++ []).all (· ≤ reachBytes) = true := hsz
    simp only [DataW.weights, Tryd.underlying37] at h1
    have h2 : ((d.weights Tryd.prog 22 ++ ([nm.data.toList.length] ++ ([vl.data.toList.length] ++ ([] ++ ([] ++ []))))) ++ []).all (· ≤ reachBytes) = true := h1
    rw [List.append_nil, List.all_append, Bool.and_eq_true] at h2
    exact h2.1
  obtain ⟨l, hl, hlen, _, hd⟩ := lst.pairs_of hy0 hw
  have hz : pctw.tot l + l.length + nm.size + vl.size ≤ 1048576 := by
    have hk := of_decide_eq_true (hcond _ rfl)
    have q1 : nm.data.toList.length = nm.size := by simp
    have q2 : vl.data.toList.length = vl.size := by simp
    rcases hd with ⟨rfl, rfl⟩ | ⟨sp, rfl⟩
    · simp only [List.append_nil, Rows.uptoBulkAll, Rows.uptoBulk] at hk
      show 0 + 0 + nm.size + vl.size ≤ _
      omega
    · have hb := pctw.bulk_pairs (H := H) l
      simp only [List.append_nil, Rows.uptoBulkAll, Rows.uptoBulk] at hk
      omega
  have hL' : laidMet Tryd.prog Rows.pctOnceUptoRow.laid W := hL
  obtain ⟨ea, he⟩ := pctw.txt_of_laid (laidMet.tail hL')
  obtain ⟨em, hm⟩ := pctw.mny_of_laid (laidMet.tail (laidMet.tail hL'))
  have ht := pctw.tab_of_laid (laidMet.tail (laidMet.tail (laidMet.tail hL')))
  clear hcond hsz hval hW h0 hv hlt hL hL' hw hd hlen
  exact pctw.lawOnce _ l nm vl tt aa W hl (by omega) (by omega) (bounds_i64 w3) (bounds_i64 w4) ht ea em he hm


set_option maxRecDepth 100000 in
/-- a world in which the call may begin -/
theorem wit (os : Os) : ∃ w0 : World, w0.os = os ∧ (w0.forCall (fun _ _ => 0) ⟨#[], #[.agg #[.slice none 0 0, .string ByteArray.empty, .string ByteArray.empty, .int .i64 0, .int .i64 0]], []⟩).variablesRefB Tryd.checked.prog = true ∧
    (((w0.forCall (fun _ _ => 0) ⟨#[], #[.agg #[.slice none 0 0, .string ByteArray.empty, .string ByteArray.empty, .int .i64 0, .int .i64 0]], []⟩).heap.toList.drop Tryd.checked.prog.globals.size).take ((begin Tryd.checked.prog (fun _ _ => 0) default).world.heap.size - Tryd.checked.prog.globals.size) = (begin Tryd.checked.prog (fun _ _ => 0) default).world.heap.toList.drop Tryd.checked.prog.globals.size) ∧
    Input.okWideB Tryd.checked.prog (w0.forCall (fun _ _ => 0) ⟨#[], #[.agg #[.slice none 0 0, .string ByteArray.empty, .string ByteArray.empty, .int .i64 0, .int .i64 0]], []⟩) 6 ⟨#[], #[.agg #[.slice none 0 0, .string ByteArray.empty, .string ByteArray.empty, .int .i64 0, .int .i64 0]], []⟩ = true ∧ laidMet Tryd.prog Rows.pctOnceUptoRow.laid (w0.forCall (fun _ _ => 0) ⟨#[], #[.agg #[.slice none 0 0, .string ByteArray.empty, .string ByteArray.empty, .int .i64 0, .int .i64 0]], []⟩).memory ∧
    ∀ (H : Type) (enc : TypeId × Value → H), ∃ places, DataW.whole enc Tryd.prog (w0.forCall (fun _ _ => 0) ⟨#[], #[.agg #[.slice none 0 0, .string ByteArray.empty, .string ByteArray.empty, .int .i64 0, .int .i64 0]], []⟩).memory Tryd.f6.params.toList Rows.pctOnceSpec.vars false #[.agg #[.slice none 0 0, .string ByteArray.empty, .string ByteArray.empty, .int .i64 0, .int .i64 0]].toList 8 = some ([.agg [.nil, .lit (.string []), .lit (.string []), .lit (.int .i64 0), .lit (.int .i64 0)]], [], places) :=
  ⟨({ (World.doorLaid Tryd.prog 271 os) with heap := ((World.doorLaid Tryd.prog 271 os).heap.modify 15 fun | .cells _ t frozen => .cells (((List.replicate 128 (240 : Int) ++ List.replicate 66 241 ++ List.replicate 30 2 ++ [19] ++ List.replicate 12 3 ++ [35, 3, 3, 52, 4, 4, 4, 68] ++ List.replicate 11 241).map fun n => Value.int .u8 n).toArray) t frozen | o => o) } : World), rfl, by kernel_rfl, by kernel_rfl, by kernel_rfl, laidMet_of_run' 8 (by kernel_rfl) (by kernel_rfl), fun _ _ => ⟨[], by kernel_rfl⟩⟩

set_option maxRecDepth 100000 in
theorem lifted (os : Os) (started : os.Started) (H : Type) (enc : TypeId × Value → H) (F : Stop.Interp) :
    ReturnsInHanded {} Tryd.checked os 6 .any ((Rows.OpenSpec.upto Rows.pctOnceSpec).preRow enc Tryd.prog Tryd.f6 Rows.pctOnceUptoRow.domain false Rows.pctOnceUptoRow.laid) (((Rows.OpenSpec.upto Rows.pctOnceSpec).at F).post enc Tryd.prog Tryd.f6 false true false false) := by
  obtain ⟨w0, hos, hv, hr, hok, hlm, hrd⟩ := wit os
  obtain ⟨places, hx⟩ := hrd H enc
  refine returnsInHanded_of_row (C := Tryd.checked) (s := Rows.OpenSpec.upto Rows.pctOnceSpec) own started (by kernel_rfl) Tryd.func6
    (witness_row_atRef (enc := enc) (C := Tryd.checked) false w0 #[.agg #[.slice none 0 0, .string ByteArray.empty, .string ByteArray.empty, .int .i64 0, .int .i64 0]] hos hv hr hok
      (OpenSpec.preRow_of_cond 8 hx (by kernel_rfl) (fun k hk => by cases hk; kernel_rfl) (by kernel_rfl) hlm)) ?_
  intro W base args ds gs before hval hW _ hc hs hL _ _
  exact contract H enc W base args ds gs before hval hW hc hs hL

theorem said : Rows.PctOnceUptoSaid :=
  OpenClaim.holds_of_cond 6 Tryd.f6 rfl rfl rfl rfl rfl rfl rfl ⟨rfl, rfl, rfl, rfl, rfl⟩ rfl rfl rfl rfl rfl (by kernel_rfl) Tryd.func6 (by kernel_rfl)
    (of_decide_eq_true (by kernel_rfl)) (by unfold Func.isWrapper; first | (rw [if_pos (by decide +kernel)]; kernel_rfl) | (rw [if_neg (by decide +kernel)]; exact ⟨rfl, rfl⟩))
    (fun os started H enc _ F => by rw [OpenClaim.pre_eq_preRow]; exact lifted os started H enc F)

theorem plain (f : FuncId) (fn : Func) (hf : Tryd.pinned.checked.prog.funcNamed "usher/usherlaw3.PctOnce" = some f) (hfn : Tryd.pinned.checked.prog.funcs[f]? = some fn) :
    true = Tryd.pinned.checked.prog.looks [] ∧ ∀ (j : Nat) t, fn.params[j]? = some t → Tryd.pinned.checked.prog.wantsStandIn t = false := by
  obtain rfl : f = 6 := Option.some.inj ((show Tryd.prog.funcNamed "usher/usherlaw3.PctOnce" = some 6 by kernel_rfl).symm.trans hf) |>.symm
  obtain rfl : fn = Tryd.f6 := (Option.some.inj (Tryd.func6.symm.trans hfn)).symm
  refine ⟨by kernel_rfl, fun j t ht => ?_⟩
  rw [Tryd.params6] at ht
  obtain rfl : t = 37 := by simpa using Array.mem_of_getElem? ht
  exact (show Tryd.prog.wantsStandIn 37 = false by kernel_rfl)

/-- THE CARD -/
theorem card : Rows.PctOnceUptoCardSaid :=
  Claim7.holds_tied_plain_at .later [] _ _ _ _ said (fun _ h => by cases h) (by kernel_rfl) (fun _ h => by cases h) pctOnceUpto_row_tie rfl ⟨rfl, rfl⟩ (by kernel_rfl) rfl plain (by kernel_rfl)
end Go.Proofs.YthkbheojjcdglabDoor.pctOnce
