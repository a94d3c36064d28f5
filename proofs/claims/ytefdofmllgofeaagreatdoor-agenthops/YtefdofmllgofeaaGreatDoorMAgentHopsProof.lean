import Derived.Test.YtefdofmllgofeaaGreatDoorCards
import Derived.Test.YtefdofmllgofeaaGreatDoorTie
import Derived.Test.YtefdofmllgofeaaGreatDoorMRanges
import Derived.Test.YtefdofmllgofeaaGreatDoorMWitZip
namespace Go.Proofs.YtefdofmllgofeaaGreatDoor.agentHops
open Go.ChangeShapes Go.WideShapes Go.ChangeAt Go.RowKit Go.Joins Go.Proofs.YtefdofmllgofeaaGreatDoor.common
open Go.WideMaps Go.WideElems
open Go.ChangeMaps (open_string shut_string)

theorem own : ownKnob Tryz.prog.godebug = none := by kernel_rfl
theorem laidOut : laidOutB Tryz.prog = true := by kernel_rfl


set_option maxRecDepth 100000 in
theorem contract (H : Type) (enc : TypeId × Value → H) (W : World) (base : Nat) (args : Array Value) (ds gs : List (DataW H)) (before : List MemPlace)
    (hval : ∀ (j : Nat) t v, Tryz.f3.params[j]? = some t → args[j]? = some v → Value.okWide Tryz.prog W .any base t v)
    (hW : DataW.Whole enc Tryz.prog Tryz.f3.params.toList Rows.agentHopsSpec.vars false W args.toList ds gs before)
    (hcond : ∀ k, (OpenSpec.ofChange Rows.agentHopsSpec).cond = some k → k H (ds ++ gs) = true)
    (hsz : (DataW.weightsEach Tryz.prog (Tryz.f3.params.toList ++ (OpenSpec.ofChange Rows.agentHopsSpec).bare.plain.varTypes Tryz.prog) (ds ++ gs)).all (· ≤ reachBytes) = true) (hL : laidMetH Tryz.prog Rows.agentHopsRow.laid W) (hsh : W.ShapedOpen Tryz.prog) :
    Calls Tryz.prog 3 args W fun e W' => ∃ v, e = .returned v ∧ Rows.agentHopsSpec.post enc Tryz.prog Tryz.f3 false true false false W args v W' := by
  refine law_one (t0 := 25) (tb := 4) Tryz.params3 (by kernel_rfl) Tryz.underlying4 laidOut (by kernel_rfl) (of_decide_eq_true (by kernel_rfl)) rfl (fun _ => rfl) hval hW ?_
  intro v0 d0 p0 hv h0 hds hgs hlt
  subst hds hgs
  rw [Tryz.params3] at hsz
  obtain ⟨c0, c1, c2, y0, y1, y2, m, rfl, rfl, rfl, hy0, hy1, hy2⟩ := open_agg3 Tryz.underlying25 (by kernel_rfl) ag.cellsHop hv h0
  obtain ⟨now, e2, rfl, w2⟩ := DataW.trod_int Tryz.underlying3 hy2
  simp at e2
  subst e2
  obtain ⟨d0, p0⟩ := y0
  obtain ⟨d1, p1⟩ := y1
  have hww : (d0.weights Tryz.prog 22).all (· ≤ reachBytes) = true ∧ (d1.weights Tryz.prog 23).all (· ≤ reachBytes) = true := by
    have h1 : ((DataW.agg [d0, d1, .lit (.int .i64 now)]).weights Tryz.prog 25 ++ []).all (· ≤ reachBytes) = true := hsz
    simp only [DataW.weights, Tryz.underlying25] at h1
    rw [List.append_nil] at h1
    rw [List.all_eq_true] at h1 ⊢
    rw [List.all_eq_true]
    exact ⟨fun x hx => h1 x (by simp [DataW.weightsEach, hx]), fun x hx => h1 x (by simp [DataW.weightsEach, hx])⟩
  obtain ⟨lT, hT, hTl, hTz, _⟩ := ss.strs_of hy0 hww.1
  obtain ⟨lS, hS, hSl⟩ := ag.ints_of hy1 hww.2
  have hnow := bounds_i64 w2
  have hL' : laidMet Tryz.prog Rows.agentHopsRow.laid W := hL
  obtain ⟨e, hE⟩ := errw.errs_of_laid (rest := [("usher/page.escapes", Rows.laid_usher_page_escapes), ("unicode.CaseRanges", Rows.laid_unicode_CaseRanges), ("unicode/utf8.first", Rows.laid_unicode_utf8_first)]) (laidMet.tail (laidMet.tail (laidMet.tail (laidMet.tail (laidMet.tail (laidMet.tail hL'))))))
  obtain ⟨ar, hr⟩ := fd.sent_head (laidMet.tail (laidMet.tail (laidMet.tail (laidMet.tail hL')))) fd.rngG fd.rngT
  obtain ⟨ay, hys⟩ := fd.sent_head (laidMet.tail (laidMet.tail (laidMet.tail (laidMet.tail (laidMet.tail hL'))))) fd.synG fd.synT
  have hE6 : fd.Env6 W (e 1) := ⟨fd.pow_head (laidMet.tail (laidMet.tail hL')), hE.cell 1 (by decide), jl.lays145.s1_3 W hsh, ⟨_, _, hys⟩, ⟨_, _, hr⟩⟩
  clear hcond hsz hval hW hv hlt hww hL hL' h0 hy0 hy1 hy2 hsh w2
  exact ag.lawHops c0 c1 lT lS now W hT hS hTz (by unfold reachBytes at hTl; omega) hSl hnow.2 e hE hE6


theorem laid_met (os : Os) : laidMet Tryz.prog Rows.agentHopsRow.laid ((World.laidAll Tryz.prog os Rows.agentHopsRow.laid).forCall (fun _ _ => 0) ⟨#[], #[.agg #[.slice none 0 0, .slice none 0 0, .int .i64 0]], []⟩).memory :=
  laidMet_laidAll _ (by kernel_rfl) (by kernel_rfl)
theorem reads (os : Os) {H : Type} (enc : TypeId × Value → H) : ∃ places, DataW.whole enc Tryz.prog ((World.laidAll Tryz.prog os Rows.agentHopsRow.laid).forCall (fun _ _ => 0) ⟨#[], #[.agg #[.slice none 0 0, .slice none 0 0, .int .i64 0]], []⟩).memory Tryz.f3.params.toList Rows.agentHopsSpec.vars false #[.agg #[.slice none 0 0, .slice none 0 0, .int .i64 0]].toList 8 = some ([.agg [.nil, .nil, .lit (.int .i64 0)]], [], places) :=
  ⟨[], by kernel_rfl⟩

set_option maxRecDepth 100000 in
theorem lifted (os : Os) (started : os.Started) (H : Type) (enc : TypeId × Value → H) (F : Stop.Interp) :
    ReturnsInHanded {} Tryz.checked os 3 .any ((OpenSpec.ofChange Rows.agentHopsSpec).preRow enc Tryz.prog Tryz.f3 Rows.agentHopsRow.domain false Rows.agentHopsRow.laid) (((OpenSpec.ofChange Rows.agentHopsSpec).at F).post enc Tryz.prog Tryz.f3 false true false false) := by
  obtain ⟨places, hx⟩ := reads os enc
  refine returnsInHanded_of_row (C := Tryz.checked) (s := OpenSpec.ofChange Rows.agentHopsSpec) own started (by kernel_rfl) Tryz.func3
    (fd.witness_row_zip (enc := enc) (C := Tryz.checked) false (World.laidAll Tryz.prog os Rows.agentHopsRow.laid) #[.agg #[.slice none 0 0, .slice none 0 0, .int .i64 0]] (World.laidAll_os _ _ _) (by kernel_rfl) (by kernel_rfl) (by kernel_rfl)
      (OpenSpec.preRow_of_cond 8 hx (by kernel_rfl) (fun k hk => by cases hk) (by kernel_rfl) (laid_met os))) ?_
  intro W base args ds gs before hval hW _ hc hs hL hsh _
  exact contract H enc W base args ds gs before hval hW hc hs hL hsh

theorem said : Rows.AgentHopsSaid :=
  OpenClaim.holds_of_cond 3 Tryz.f3 rfl rfl rfl rfl rfl rfl rfl ⟨rfl, rfl, rfl, rfl, rfl⟩ rfl rfl rfl rfl rfl (by kernel_rfl) Tryz.func3 (by kernel_rfl)
    (of_decide_eq_true (by kernel_rfl)) (by unfold Func.isWrapper; first | (rw [if_pos (by decide +kernel)]; kernel_rfl) | (rw [if_neg (by decide +kernel)]; exact ⟨rfl, rfl⟩))
    (fun os started H enc _ F => by rw [OpenClaim.pre_eq_preRow]; exact lifted os started H enc F)

theorem plain (f : FuncId) (fn : Func) (hf : Tryz.pinned.checked.prog.funcNamed "usher/usherlaw23.AgentHops" = some f) (hfn : Tryz.pinned.checked.prog.funcs[f]? = some fn) :
    true = Tryz.pinned.checked.prog.looks [] ∧ ∀ (j : Nat) t, fn.params[j]? = some t → Tryz.pinned.checked.prog.wantsStandIn t = false := by
  obtain rfl : f = 3 := Option.some.inj ((show Tryz.prog.funcNamed "usher/usherlaw23.AgentHops" = some 3 by kernel_rfl).symm.trans hf) |>.symm
  obtain rfl : fn = Tryz.f3 := (Option.some.inj (Tryz.func3.symm.trans hfn)).symm
  refine ⟨by kernel_rfl, fun j t ht => ?_⟩
  rw [Tryz.params3] at ht
  obtain rfl : t = 25 := by simpa using Array.mem_of_getElem? ht
  exact (show Tryz.prog.wantsStandIn 25 = false by kernel_rfl)

/-- THE CARD -/
theorem card : Rows.AgentHopsCardSaid :=
  Claim7.holds_tied_plain_at .later [] _ _ _ _ said (fun _ h => by cases h) (by kernel_rfl) (fun _ h => by cases h) agentHops_row_tie rfl ⟨rfl, rfl⟩ (by kernel_rfl) rfl plain (by kernel_rfl)
end Go.Proofs.YtefdofmllgofeaaGreatDoor.agentHops
