import Derived.Test.YtlefalplljgkeaaGreatDoorCards
import Derived.Test.YtlefalplljgkeaaGreatDoorTie
import Derived.Test.YtlefalplljgkeaaGreatDoorMRanges
import Derived.Test.YtlefalplljgkeaaGreatDoorMWitZip
namespace Go.Proofs.YtlefalplljgkeaaGreatDoor.agentLasts
open Go.ChangeShapes Go.WideShapes Go.ChangeAt Go.RowKit Go.Joins Go.Proofs.YtlefalplljgkeaaGreatDoor.common
open Go.WideMaps Go.WideElems
open Go.ChangeMaps (open_string shut_string)

theorem own : ownKnob Tryz.prog.godebug = none := by kernel_rfl
theorem laidOut : laidOutB Tryz.prog = true := by kernel_rfl


set_option maxRecDepth 100000 in
theorem contract (H : Type) (enc : TypeId × Value → H) (W : World) (base : Nat) (args : Array Value) (ds gs : List (DataW H)) (before : List MemPlace)
    (hval : ∀ (j : Nat) t v, Tryz.f3.params[j]? = some t → args[j]? = some v → Value.okWide Tryz.prog W .any base t v)
    (hW : DataW.Whole enc Tryz.prog Tryz.f3.params.toList Rows.agentLastsSpec.vars false W args.toList ds gs before)
    (hcond : ∀ k, (Rows.OpenSpec.upto Rows.agentLastsSpec).cond = some k → k H (ds ++ gs) = true)
    (hsz : (DataW.weightsEach Tryz.prog (Tryz.f3.params.toList ++ (Rows.OpenSpec.upto Rows.agentLastsSpec).bare.plain.varTypes Tryz.prog) (ds ++ gs)).all (· ≤ reachBytes) = true) (hL : laidMetH Tryz.prog Rows.agentLastsUptoRow.laid W) (hsh : W.ShapedOpen Tryz.prog) :
    Calls Tryz.prog 3 args W fun e W' => ∃ v, e = .returned v ∧ Rows.agentLastsSpec.post enc Tryz.prog Tryz.f3 false true false false W args v W' := by
  refine law_one (t0 := 24) (tb := 4) Tryz.params3 (by kernel_rfl) Tryz.underlying4 laidOut (by kernel_rfl) (of_decide_eq_true (by kernel_rfl)) rfl (fun _ => rfl) hval hW ?_
  intro v0 d0 p0 hv h0 hds hgs hlt
  subst hds hgs
  rw [Tryz.params3] at hsz
  obtain ⟨cs, rfl, hcsz⟩ := okWide_struct Tryz.underlying24 hv
  obtain ⟨fuel, hf⟩ := h0
  have hc6 : cs.size = 6 := hcsz.trans ag.cellsBaked
  obtain ⟨l⟩ := cs
  match l, hc6 with
  | [q0, q1, q2, q3, q4, q5], _ =>
  have hf' : DataW.trod enc Tryz.prog W 0 (fun _ => true) true fuel 24 [q0, q1, q2, q3, q4, q5] = some (d0, p0) := hf
  have hw : (d0.weights Tryz.prog 24).all (· ≤ reachBytes) = true := by
    have h1 : (d0.weights Tryz.prog 24 ++ []).all (· ≤ reachBytes) = true := hsz
    rwa [List.append_nil] at h1
  have hB : Rows.uptoBulk d0 ≤ 1048576 := by
    have hk := of_decide_eq_true (hcond _ rfl)
    simp only [List.append_nil, Rows.uptoBulkAll] at hk
    omega
  obtain ⟨nm, vl, age, at0, wt0, lB, rfl, rfl, rfl, rfl, rfl, hLs, hBl, hBr, hage, hnm, hvl⟩ := ag.baked_of hf' hw hB
  have hL' : laidMet Tryz.prog Rows.agentLastsUptoRow.laid W := hL
  obtain ⟨ar, hr⟩ := fd.sent_head (laidMet.tail (laidMet.tail (laidMet.tail (laidMet.tail hL')))) fd.rngG fd.rngT
  obtain ⟨ay, hys⟩ := fd.sent_head (laidMet.tail (laidMet.tail (laidMet.tail (laidMet.tail (laidMet.tail hL'))))) fd.synG fd.synT
  obtain ⟨at_, htx⟩ := fd.sent_head (laidMet.tail (laidMet.tail (laidMet.tail (laidMet.tail (laidMet.tail (laidMet.tail hL')))))) ag.txG ag.txT
  obtain ⟨am, hmy⟩ := fd.sent_head (laidMet.tail (laidMet.tail (laidMet.tail (laidMet.tail (laidMet.tail (laidMet.tail (laidMet.tail hL'))))))) ag.mnG ag.mnT
  obtain ⟨al_, hlo⟩ := fd.sent_head (laidMet.tail (laidMet.tail (laidMet.tail (laidMet.tail (laidMet.tail (laidMet.tail (laidMet.tail (laidMet.tail hL')))))))) ag.loG ag.loT
  have hE6 : fd.Env6 W at_ := ⟨fd.pow_head (laidMet.tail (laidMet.tail hL')), htx, jl.lays145.s1_3 W hsh, ⟨_, _, hys⟩, ⟨_, _, hr⟩⟩
  clear hcond hsz hval hW hv hlt hw hL hL' hf hf' hcsz hc6 hB hsh
  exact ag.lawLasts nm vl age at0 wt0 q5 lB W hLs hnm hvl hBl hBr hage am at_ al_ ⟨⟨hmy, htx⟩, hE6, hlo⟩


theorem laid_met (os : Os) : laidMet Tryz.prog Rows.agentLastsUptoRow.laid ((World.laidAll Tryz.prog os Rows.agentLastsUptoRow.laid).forCall (fun _ _ => 0) ⟨#[], #[.agg #[.string ByteArray.empty, .string ByteArray.empty, .int .i64 0, .int .i64 0, .int .i64 0, .slice none 0 0]], []⟩).memory :=
  laidMet_laidAll _ (by kernel_rfl) (by kernel_rfl)
theorem reads (os : Os) {H : Type} (enc : TypeId × Value → H) : ∃ places, DataW.whole enc Tryz.prog ((World.laidAll Tryz.prog os Rows.agentLastsUptoRow.laid).forCall (fun _ _ => 0) ⟨#[], #[.agg #[.string ByteArray.empty, .string ByteArray.empty, .int .i64 0, .int .i64 0, .int .i64 0, .slice none 0 0]], []⟩).memory Tryz.f3.params.toList Rows.agentLastsSpec.vars false #[.agg #[.string ByteArray.empty, .string ByteArray.empty, .int .i64 0, .int .i64 0, .int .i64 0, .slice none 0 0]].toList 8 = some ([.agg [.lit (.string []), .lit (.string []), .lit (.int .i64 0), .lit (.int .i64 0), .lit (.int .i64 0), .nil]], [], places) :=
  ⟨[], by kernel_rfl⟩

set_option maxRecDepth 100000 in
theorem lifted (os : Os) (started : os.Started) (H : Type) (enc : TypeId × Value → H) (F : Stop.Interp) :
    ReturnsInHanded {} Tryz.checked os 3 .any ((Rows.OpenSpec.upto Rows.agentLastsSpec).preRow enc Tryz.prog Tryz.f3 Rows.agentLastsUptoRow.domain false Rows.agentLastsUptoRow.laid) (((Rows.OpenSpec.upto Rows.agentLastsSpec).at F).post enc Tryz.prog Tryz.f3 false true false false) := by
  obtain ⟨places, hx⟩ := reads os enc
  refine returnsInHanded_of_row (C := Tryz.checked) (s := Rows.OpenSpec.upto Rows.agentLastsSpec) own started (by kernel_rfl) Tryz.func3
    (fd.witness_row_zip (enc := enc) (C := Tryz.checked) false (World.laidAll Tryz.prog os Rows.agentLastsUptoRow.laid) #[.agg #[.string ByteArray.empty, .string ByteArray.empty, .int .i64 0, .int .i64 0, .int .i64 0, .slice none 0 0]] (World.laidAll_os _ _ _) (by kernel_rfl) (by kernel_rfl) (by kernel_rfl)
      (OpenSpec.preRow_of_cond 8 hx (by kernel_rfl) (fun k hk => by cases hk; kernel_rfl) (by kernel_rfl) (laid_met os))) ?_
  intro W base args ds gs before hval hW _ hc hs hL hsh _
  exact contract H enc W base args ds gs before hval hW hc hs hL hsh

theorem said : Rows.AgentLastsUptoSaid :=
  OpenClaim.holds_of_cond 3 Tryz.f3 rfl rfl rfl rfl rfl rfl rfl ⟨rfl, rfl, rfl, rfl, rfl⟩ rfl rfl rfl rfl rfl (by kernel_rfl) Tryz.func3 (by kernel_rfl)
    (of_decide_eq_true (by kernel_rfl)) (by unfold Func.isWrapper; first | (rw [if_pos (by decide +kernel)]; kernel_rfl) | (rw [if_neg (by decide +kernel)]; exact ⟨rfl, rfl⟩))
    (fun os started H enc _ F => by rw [OpenClaim.pre_eq_preRow]; exact lifted os started H enc F)

theorem plain (f : FuncId) (fn : Func) (hf : Tryz.pinned.checked.prog.funcNamed "usher/usherlaw23.AgentLasts" = some f) (hfn : Tryz.pinned.checked.prog.funcs[f]? = some fn) :
    true = Tryz.pinned.checked.prog.looks [] ∧ ∀ (j : Nat) t, fn.params[j]? = some t → Tryz.pinned.checked.prog.wantsStandIn t = false := by
  obtain rfl : f = 3 := Option.some.inj ((show Tryz.prog.funcNamed "usher/usherlaw23.AgentLasts" = some 3 by kernel_rfl).symm.trans hf) |>.symm
  obtain rfl : fn = Tryz.f3 := (Option.some.inj (Tryz.func3.symm.trans hfn)).symm
  refine ⟨by kernel_rfl, fun j t ht => ?_⟩
  rw [Tryz.params3] at ht
  obtain rfl : t = 24 := by simpa using Array.mem_of_getElem? ht
  exact (show Tryz.prog.wantsStandIn 24 = false by kernel_rfl)

/-- THE CARD -/
theorem card : Rows.AgentLastsUptoCardSaid :=
  Claim7.holds_tied_plain_at .later [] _ _ _ _ said (fun _ h => by cases h) (by kernel_rfl) (fun _ h => by cases h) agentLastsUpto_row_tie rfl ⟨rfl, rfl⟩ (by kernel_rfl) rfl plain (by kernel_rfl)
end Go.Proofs.YtlefalplljgkeaaGreatDoor.agentLasts
