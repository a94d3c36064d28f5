import Derived.Test.YtopdabacbaijcaaDoorCards
import Derived.Test.YtopdabacbaijcaaDoorTie
import Derived.Test.YtopdabacbaijcaaDoorCommon
import Derived.Test.YtopdabacbaijcaaDoorWlBurstL
import Derived.Test.YtopdabacbaijcaaDoorWlArgs
import Derived.Test.YtopdabacbaijcaaDoorWlErr
import Derived.LaidMore
import Derived.Deep.DeepWitnessRowRef
namespace Go.Proofs.YtopdabacbaijcaaDoor.walBurst
open Go.ChangeShapes Go.WideShapes Go.ChangeAt Go.RowKit Go.Joins Go.Proofs.YtopdabacbaijcaaDoor.common
open Go.WideMaps Go.WideElems
open Go.ChangeMaps (open_string shut_string)

theorem own : ownKnob Tryd.prog.godebug = none := by kernel_rfl
theorem laidOut : laidOutB Tryd.prog = true := by kernel_rfl


set_option maxRecDepth 100000 in
theorem contract (H : Type) (enc : TypeId × Value → H) (W : World) (base : Nat) (args : Array Value) (ds gs : List (DataW H)) (before : List MemPlace)
    (hval : ∀ (j : Nat) t v, Tryd.f4.params[j]? = some t → args[j]? = some v → Value.okWide Tryd.prog W .any base t v)
    (hW : DataW.Whole enc Tryd.prog Tryd.f4.params.toList Rows.walBurstSpec.vars false W args.toList ds gs before)
    (hcond : ∀ k, (Rows.OpenSpec.upto Rows.walBurstSpec).cond = some k → k H (ds ++ gs) = true)
    (hsz : (DataW.weightsEach Tryd.prog (Tryd.f4.params.toList ++ (Rows.OpenSpec.upto Rows.walBurstSpec).bare.plain.varTypes Tryd.prog) (ds ++ gs)).all (· ≤ reachBytes) = true) (hL : laidMetH Tryd.prog Rows.walBurstUptoRow.laid W) :
    Calls Tryd.prog 4 args W fun e W' => ∃ v, e = .returned v ∧ Rows.walBurstSpec.post enc Tryd.prog Tryd.f4 false true false false W args v W' := by
  refine law_one (t0 := 37) (tb := 4) Tryd.params4 (by kernel_rfl) Tryd.underlying4 laidOut (by kernel_rfl) (of_decide_eq_true (by kernel_rfl)) rfl (fun _ => rfl) hval hW ?_
  intro v0 d0 p0 hv h0 hds hgs hlt
  subst hds hgs
  rw [Tryd.params4] at hsz
  obtain ⟨cs, rfl, hcsz⟩ := okWide_struct Tryd.underlying37 hv
  obtain ⟨c0, c1, c2, c3, rfl⟩ := Joins.array4 (hcsz.trans (show Tryd.prog.cellsOf 37 = 4 by kernel_rfl))
  obtain ⟨fuel, hf⟩ := h0
  obtain ⟨z0, z1, z2, z3, n2, hz, _, s0, s1, s2, s3⟩ := Joins.trod_struct4 Tryd.underlying37 hf
  have s0' : DataW.trod enc Tryd.prog W 0 (fun _ => true) true n2 22 [c0] = some z0 := by rw [← s0]; rfl
  have s1' : DataW.trod enc Tryd.prog W 0 (fun _ => true) true n2 3 [c1] = some z1 := by rw [← s1]; rfl
  have s2' : DataW.trod enc Tryd.prog W 0 (fun _ => true) true n2 3 [c2] = some z2 := by rw [← s2]; rfl
  have s3' : DataW.trod enc Tryd.prog W 0 (fun _ => true) true n2 35 [c3] = some z3 := by rw [← s3]; rfl
  obtain ⟨x1, e1, rfl, w1⟩ := DataW.trod_int Tryd.underlying3 s1'
  obtain ⟨x2, e2, rfl, w2⟩ := DataW.trod_int Tryd.underlying3 s2'
  obtain ⟨x3, e3, rfl, w3⟩ := DataW.trod_int Tryd.underlying35 s3'
  simp at e1 e2 e3
  subst e1 e2 e3
  obtain ⟨dL, pL⟩ := z0
  obtain ⟨rfl, _⟩ := Prod.mk.inj hz
  have hw : (dL.weights Tryd.prog 22).all (· ≤ reachBytes) = true := by
    simp [DataW.weightsEach, DataW.weights, Tryd.underlying37] at hsz
    simpa using hsz
  obtain ⟨L, hL0, hbk⟩ := wl.lists_of s0' hw
  have htot : wl.tot L ≤ 1048576 := by
    have hk := of_decide_eq_true (hcond _ rfl)
    simp only [List.append_nil, Rows.uptoBulkAll, Rows.uptoBulk] at hk
    omega
  obtain ⟨t1, t2, t3⟩ := wl.tot_flat L
  have b1 := bounds_i64 w1
  have b2 := bounds_i64 w2
  obtain ⟨mk, rfl⟩ := wl.word_of w3
  have hL' : laidMet Tryd.prog Rows.walBurstUptoRow.laid W := hL
  obtain ⟨ea, he⟩ := wlerr.arg_of_laid hL'
  have ht : crcw.Tab W := crcw.tab (laidMet.tail hL')
  clear hL hL' hcond hsz hval hW hv hlt hbk hf s0 s1 s2 s3 s0' s1' s2' s3' hcsz
  exact wl.lawBurst W _ x1 x2 mk L hL0 (by omega) (fun q hq => by have := t3 q hq; omega) (by omega) (by omega) (by omega) (by omega) (by omega) ht _ ea he (World.block_lt_of_cell? W _ he)


theorem laid_met (os : Os) : laidMet Tryd.prog Rows.walBurstUptoRow.laid ((World.doorLaid Tryd.prog 52 os).forCall (fun _ _ => 0) ⟨#[], #[.agg #[.slice none 0 0, .int .i64 0, .int .i64 0, .int .u32 0]], []⟩).memory :=
  laidMet_of_run' 8 (by kernel_rfl) (by kernel_rfl)
theorem reads (os : Os) {H : Type} (enc : TypeId × Value → H) : ∃ places, DataW.whole enc Tryd.prog ((World.doorLaid Tryd.prog 52 os).forCall (fun _ _ => 0) ⟨#[], #[.agg #[.slice none 0 0, .int .i64 0, .int .i64 0, .int .u32 0]], []⟩).memory Tryd.f4.params.toList Rows.walBurstSpec.vars false #[.agg #[.slice none 0 0, .int .i64 0, .int .i64 0, .int .u32 0]].toList 8 = some ([.agg [.nil, .lit (.int .i64 0), .lit (.int .i64 0), .lit (.int .u32 0)]], [], places) :=
  ⟨[], by kernel_rfl⟩

set_option maxRecDepth 100000 in
theorem lifted (os : Os) (started : os.Started) (H : Type) (enc : TypeId × Value → H) (F : Stop.Interp) :
    ReturnsInHanded {} Tryd.checked os 4 .any ((Rows.OpenSpec.upto Rows.walBurstSpec).preRow enc Tryd.prog Tryd.f4 Rows.walBurstUptoRow.domain false Rows.walBurstUptoRow.laid) (((Rows.OpenSpec.upto Rows.walBurstSpec).at F).post enc Tryd.prog Tryd.f4 false true false false) := by
  obtain ⟨places, hx⟩ := reads os enc
  refine returnsInHanded_of_row (C := Tryd.checked) (s := Rows.OpenSpec.upto Rows.walBurstSpec) own started (by kernel_rfl) Tryd.func4
    (witness_row_atRef (enc := enc) (C := Tryd.checked) false (World.doorLaid Tryd.prog 52 os) #[.agg #[.slice none 0 0, .int .i64 0, .int .i64 0, .int .u32 0]] rfl (by kernel_rfl) (by kernel_rfl) (by kernel_rfl)
      (OpenSpec.preRow_of_cond 8 hx (by kernel_rfl) (fun k hk => by cases hk; kernel_rfl) (by kernel_rfl) (laid_met os))) ?_
  intro W base args ds gs before hval hW _ hc hs hL _ _
  exact contract H enc W base args ds gs before hval hW hc hs hL

theorem said : Rows.WalBurstUptoSaid :=
  OpenClaim.holds_of_cond 4 Tryd.f4 rfl rfl rfl rfl rfl rfl rfl ⟨rfl, rfl, rfl, rfl, rfl⟩ rfl rfl rfl rfl rfl (by kernel_rfl) Tryd.func4 (by kernel_rfl)
    (of_decide_eq_true (by kernel_rfl)) (by unfold Func.isWrapper; first | (rw [if_pos (by decide +kernel)]; kernel_rfl) | (rw [if_neg (by decide +kernel)]; exact ⟨rfl, rfl⟩))
    (fun os started H enc _ F => by rw [OpenClaim.pre_eq_preRow]; exact lifted os started H enc F)

theorem plain (f : FuncId) (fn : Func) (hf : Tryd.pinned.checked.prog.funcNamed "usher/usherlaw13.WalBurst" = some f) (hfn : Tryd.pinned.checked.prog.funcs[f]? = some fn) :
    false = Tryd.pinned.checked.prog.looks [] ∧ ∀ (j : Nat) t, fn.params[j]? = some t → Tryd.pinned.checked.prog.wantsStandIn t = false := by
  obtain rfl : f = 4 := Option.some.inj ((show Tryd.prog.funcNamed "usher/usherlaw13.WalBurst" = some 4 by kernel_rfl).symm.trans hf) |>.symm
  obtain rfl : fn = Tryd.f4 := (Option.some.inj (Tryd.func4.symm.trans hfn)).symm
  refine ⟨by kernel_rfl, fun j t ht => ?_⟩
  rw [Tryd.params4] at ht
  obtain rfl : t = 37 := by simpa using Array.mem_of_getElem? ht
  exact (show Tryd.prog.wantsStandIn 37 = false by kernel_rfl)

/-- THE CARD -/
theorem card : Rows.WalBurstUptoCardSaid :=
  Claim7.holds_tied_plain_at .later [] _ _ _ _ said (fun _ h => by cases h) (by kernel_rfl) (fun _ h => by cases h) walBurstUpto_row_tie rfl ⟨rfl, rfl⟩ (by kernel_rfl) rfl plain (by kernel_rfl)
end Go.Proofs.YtopdabacbaijcaaDoor.walBurst
