import Derived.Test.YtkamnkldgeaaaaaDoorCards
import Derived.Test.YtkamnkldgeaaaaaDoorTie
import Derived.Test.YtkamnkldgeaaaaaDoorCommon
import Derived.Test.YtkamnkldgeaaaaaDoorDaLaw
import Derived.Test.YtkamnkldgeaaaaaDoorDkArg
import Derived.LaidMore
import Derived.Deep.DeepWitnessRowRef
namespace Go.Proofs.YtkamnkldgeaaaaaDoor.diskApart
open Go.ChangeShapes Go.WideShapes Go.ChangeAt Go.RowKit Go.Joins Go.Proofs.YtkamnkldgeaaaaaDoor.common
open Go.WideMaps Go.WideElems
open Go.ChangeMaps (open_string shut_string)

theorem own : ownKnob Tryd.prog.godebug = none := by kernel_rfl
theorem laidOut : laidOutB Tryd.prog = true := by kernel_rfl


set_option maxRecDepth 100000 in
theorem contract (H : Type) (enc : TypeId × Value → H) (W : World) (base : Nat) (args : Array Value) (ds gs : List (DataW H)) (before : List MemPlace)
    (hval : ∀ (j : Nat) t v, Tryd.f3.params[j]? = some t → args[j]? = some v → Value.okWide Tryd.prog W .any base t v)
    (hW : DataW.Whole enc Tryd.prog Tryd.f3.params.toList Rows.diskApartSpec.vars false W args.toList ds gs before)
    (hcond : ∀ k, (OpenSpec.ofChange Rows.diskApartSpec).cond = some k → k H (ds ++ gs) = true)
    (hsz : (DataW.weightsEach Tryd.prog (Tryd.f3.params.toList ++ (OpenSpec.ofChange Rows.diskApartSpec).bare.plain.varTypes Tryd.prog) (ds ++ gs)).all (· ≤ reachBytes) = true) (hL : laidMetH Tryd.prog Rows.diskApartRow.laid W) :
    Calls Tryd.prog 3 args W fun e W' => ∃ v, e = .returned v ∧ Rows.diskApartSpec.post enc Tryd.prog Tryd.f3 false true false false W args v W' := by
  refine law_one (t0 := 24) (tb := 4) Tryd.params3 (by kernel_rfl) Tryd.underlying4 laidOut (by kernel_rfl) (of_decide_eq_true (by kernel_rfl)) rfl (fun _ => rfl) hval hW ?_
  intro v0 d0 p0 hv h0 hds hgs hlt
  subst hds hgs
  rw [Tryd.params3] at hsz
  obtain ⟨cs, rfl, hcsz⟩ := okWide_struct Tryd.underlying24 hv
  obtain ⟨c0, c1, c2, c3, rfl⟩ := Joins.array4 (hcsz.trans dk.cellsScript)
  obtain ⟨fuel, hf⟩ := h0
  obtain ⟨z0, z1, z2, z3, n2, hz, _, s0, s1, s2, s3⟩ := Joins.trod_struct4 Tryd.underlying24 hf
  have s0' : DataW.trod enc Tryd.prog W 0 (fun _ => true) true n2 3 [c0] = some z0 := by rw [← s0]; rfl
  have s1' : DataW.trod enc Tryd.prog W 0 (fun _ => true) true n2 9 [c1] = some z1 := by rw [← s1]; rfl
  have s2' : DataW.trod enc Tryd.prog W 0 (fun _ => true) true n2 3 [c2] = some z2 := by rw [← s2]; rfl
  have s3' : DataW.trod enc Tryd.prog W 0 (fun _ => true) true n2 22 [c3] = some z3 := by rw [← s3]; rfl
  obtain ⟨x0, e0, rfl, w0⟩ := DataW.trod_int Tryd.underlying3 s0'
  obtain ⟨t, e1, rfl, _⟩ := DataW.trod_string Tryd.underlying9 s1'
  obtain ⟨x2, e2, rfl, w2⟩ := DataW.trod_int Tryd.underlying3 s2'
  simp at e0 e1 e2
  subst e0 e1 e2
  obtain ⟨dS, pS⟩ := z3
  obtain ⟨rfl, _⟩ := Prod.mk.inj hz
  have hw : t.size ≤ reachBytes ∧ (dS.weights Tryd.prog 22).all (· ≤ reachBytes) = true := by
    simp [DataW.weightsEach, DataW.weights, Tryd.underlying24] at hsz
    exact ⟨by simpa using hsz.1, by simpa using hsz.2⟩
  obtain ⟨ss, hL0, hS0⟩ := dk.steps_of s3' hw.2
  have hL' : laidMet Tryd.prog Rows.diskApartRow.laid W := hL
  obtain ⟨e, he⟩ := errw.errs_of_laid (rest := []) hL'
  clear hL hL' hcond hsz hval hW hv hcsz s0 s1 s2 s3 s0' s1' s2' s3' hf hlt
  exact da.lawApart W x0 t x2 c3 ss hL0 hS0 hw.1 e he


theorem laid_met (os : Os) : laidMet Tryd.prog Rows.diskApartRow.laid ((World.doorLaid Tryd.prog 256 os).forCall (fun _ _ => 0) ⟨#[], #[.agg #[.int .i64 0, .string ByteArray.empty, .int .i64 0, .slice none 0 0]], []⟩).memory :=
  laidMet_of_run' 8 (by kernel_rfl) (by kernel_rfl)
theorem reads (os : Os) {H : Type} (enc : TypeId × Value → H) : ∃ places, DataW.whole enc Tryd.prog ((World.doorLaid Tryd.prog 256 os).forCall (fun _ _ => 0) ⟨#[], #[.agg #[.int .i64 0, .string ByteArray.empty, .int .i64 0, .slice none 0 0]], []⟩).memory Tryd.f3.params.toList Rows.diskApartSpec.vars false #[.agg #[.int .i64 0, .string ByteArray.empty, .int .i64 0, .slice none 0 0]].toList 8 = some ([.agg [.lit (.int .i64 0), .lit (.string []), .lit (.int .i64 0), .nil]], [], places) :=
  ⟨[], by kernel_rfl⟩

set_option maxRecDepth 100000 in
theorem lifted (os : Os) (started : os.Started) (H : Type) (enc : TypeId × Value → H) (F : Stop.Interp) :
    ReturnsInHanded {} Tryd.checked os 3 .any ((OpenSpec.ofChange Rows.diskApartSpec).preRow enc Tryd.prog Tryd.f3 Rows.diskApartRow.domain false Rows.diskApartRow.laid) (((OpenSpec.ofChange Rows.diskApartSpec).at F).post enc Tryd.prog Tryd.f3 false true false false) := by
  obtain ⟨places, hx⟩ := reads os enc
  refine returnsInHanded_of_row (C := Tryd.checked) (s := OpenSpec.ofChange Rows.diskApartSpec) own started (by kernel_rfl) Tryd.func3
    (witness_row_atRef (enc := enc) (C := Tryd.checked) false (World.doorLaid Tryd.prog 256 os) #[.agg #[.int .i64 0, .string ByteArray.empty, .int .i64 0, .slice none 0 0]] rfl (by kernel_rfl) (by kernel_rfl) (by kernel_rfl)
      (OpenSpec.preRow_of_cond 8 hx (by kernel_rfl) (fun k hk => by cases hk) (by kernel_rfl) (laid_met os))) ?_
  intro W base args ds gs before hval hW _ hc hs hL _ _
  exact contract H enc W base args ds gs before hval hW hc hs hL

theorem said : Rows.DiskApartSaid :=
  OpenClaim.holds_of_cond 3 Tryd.f3 rfl rfl rfl rfl rfl rfl rfl ⟨rfl, rfl, rfl, rfl, rfl⟩ rfl rfl rfl rfl rfl (by kernel_rfl) Tryd.func3 (by kernel_rfl)
    (of_decide_eq_true (by kernel_rfl)) (by unfold Func.isWrapper; first | (rw [if_pos (by decide +kernel)]; kernel_rfl) | (rw [if_neg (by decide +kernel)]; exact ⟨rfl, rfl⟩))
    (fun os started H enc _ F => by rw [OpenClaim.pre_eq_preRow]; exact lifted os started H enc F)

theorem plain (f : FuncId) (fn : Func) (hf : Tryd.pinned.checked.prog.funcNamed "usher/usherlaw12.DiskApart" = some f) (hfn : Tryd.pinned.checked.prog.funcs[f]? = some fn) :
    true = Tryd.pinned.checked.prog.looks [] ∧ ∀ (j : Nat) t, fn.params[j]? = some t → Tryd.pinned.checked.prog.wantsStandIn t = false := by
  obtain rfl : f = 3 := Option.some.inj ((show Tryd.prog.funcNamed "usher/usherlaw12.DiskApart" = some 3 by kernel_rfl).symm.trans hf) |>.symm
  obtain rfl : fn = Tryd.f3 := (Option.some.inj (Tryd.func3.symm.trans hfn)).symm
  refine ⟨by kernel_rfl, fun j t ht => ?_⟩
  rw [Tryd.params3] at ht
  obtain rfl : t = 24 := by simpa using Array.mem_of_getElem? ht
  exact (show Tryd.prog.wantsStandIn 24 = false by kernel_rfl)

/-- THE CARD -/
theorem card : Rows.DiskApartCardSaid :=
  Claim7.holds_tied_plain_at .later [] _ _ _ _ said (fun _ h => by cases h) (by kernel_rfl) (fun _ h => by cases h) diskApart_row_tie rfl ⟨rfl, rfl⟩ (by kernel_rfl) rfl plain (by kernel_rfl)
end Go.Proofs.YtkamnkldgeaaaaaDoor.diskApart
