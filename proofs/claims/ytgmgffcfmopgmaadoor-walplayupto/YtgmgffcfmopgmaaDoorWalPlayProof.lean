import Derived.Test.YtgmgffcfmopgmaaDoorCards
import Derived.Test.YtgmgffcfmopgmaaDoorTie
import Derived.Test.YtgmgffcfmopgmaaDoorCommon
import Derived.Test.YtgmgffcfmopgmaaDoorWrPlay
import Derived.Test.YtgmgffcfmopgmaaDoorWlArgS
import Derived.LaidMore
import Derived.Deep.DeepWitnessRowRef
namespace Go.Proofs.YtgmgffcfmopgmaaDoor.walPlay
open Go.ChangeShapes Go.WideShapes Go.ChangeAt Go.RowKit Go.Joins Go.Proofs.YtgmgffcfmopgmaaDoor.common
open Go.WideMaps Go.WideElems
open Go.ChangeMaps (open_string shut_string)

theorem own : ownKnob Tryd.prog.godebug = none := by kernel_rfl
theorem laidOut : laidOutB Tryd.prog = true := by kernel_rfl


set_option maxRecDepth 100000 in
theorem contract (H : Type) (enc : TypeId × Value → H) (W : World) (base : Nat) (args : Array Value) (ds gs : List (DataW H)) (before : List MemPlace)
    (hval : ∀ (j : Nat) t v, Tryd.f7.params[j]? = some t → args[j]? = some v → Value.okWide Tryd.prog W .any base t v)
    (hW : DataW.Whole enc Tryd.prog Tryd.f7.params.toList Rows.walPlaySpec.vars false W args.toList ds gs before)
    (hcond : ∀ k, (Rows.OpenSpec.upto Rows.walPlaySpec).cond = some k → k H (ds ++ gs) = true)
    (hsz : (DataW.weightsEach Tryd.prog (Tryd.f7.params.toList ++ (Rows.OpenSpec.upto Rows.walPlaySpec).bare.plain.varTypes Tryd.prog) (ds ++ gs)).all (· ≤ reachBytes) = true) (hL : laidMetH Tryd.prog Rows.walPlayUptoRow.laid W) :
    Calls Tryd.prog 7 args W fun e W' => ∃ v, e = .returned v ∧ Rows.walPlaySpec.post enc Tryd.prog Tryd.f7 false true false false W args v W' := by
  refine law_one (t0 := 44) (tb := 4) Tryd.params7 (by kernel_rfl) Tryd.underlying4 laidOut (by kernel_rfl) (of_decide_eq_true (by kernel_rfl)) rfl (fun _ => rfl) hval hW ?_
  intro v0 d0 p0 hv h0 hds hgs hlt
  subst hds hgs
  rw [Tryd.params7] at hsz
  obtain ⟨cs, rfl, hcsz⟩ := okWide_struct Tryd.underlying44 hv
  obtain ⟨c0, c1, c2, rfl⟩ := Joins.array3 (hcsz.trans wl.cellsPlay)
  obtain ⟨fuel, hf⟩ := h0
  obtain ⟨z0, z1, z2, n2, hz, _, s0, s1, s2⟩ := Deep.trod_struct3 Tryd.underlying44 hf
  have s0' : DataW.trod enc Tryd.prog W 0 (fun _ => true) true n2 22 [c0] = some z0 := by rw [← s0]; rfl
  have s1' : DataW.trod enc Tryd.prog W 0 (fun _ => true) true n2 3 [c1] = some z1 := by rw [← s1]; rfl
  have s2' : DataW.trod enc Tryd.prog W 0 (fun _ => true) true n2 42 [c2] = some z2 := by rw [← s2]; rfl
  obtain ⟨x1, e1, rfl, w1⟩ := DataW.trod_int Tryd.underlying3 s1'
  simp at e1
  subst e1
  obtain ⟨d0', p0'⟩ := z0
  obtain ⟨dS, pS⟩ := z2
  obtain ⟨rfl, _⟩ := Prod.mk.inj hz
  have hw : (d0'.weights Tryd.prog 22).all (· ≤ reachBytes) = true ∧ (dS.weights Tryd.prog 42).all (· ≤ reachBytes) = true := by
    simp [DataW.weightsEach, DataW.weights, Tryd.underlying44] at hsz
    exact ⟨by simpa using hsz.1, by simpa using hsz.2⟩
  obtain ⟨l0, hR0, hl0, hbk, _⟩ := wl.bytes_of s0' hw.1
  obtain ⟨od, cd, hod⟩ := hR0.len
  subst hod
  obtain ⟨L, hLP, hLn, hLq⟩ := wl.stepsS_of s2' hw.2
  have bb := bounds_i64 w1
  have hl2 : l0.length ≤ 1048576 := by
    have hk := of_decide_eq_true (hcond _ rfl)
    simp only [List.append_nil, Rows.uptoBulkAll, Rows.uptoBulk] at hk
    omega
  have hL' : laidMet Tryd.prog Rows.walPlayUptoRow.laid W := hL
  obtain ⟨e, he⟩ := errw.errs_of_laid (rest := [("usher/sums.crcSteps", Rows.laid_usher_sums_crcSteps)]) hL'
  have ht : crcw.Tab W := crcw.tab (laidMet.tail (laidMet.tail (laidMet.tail (laidMet.tail (laidMet.tail (laidMet.tail (laidMet.tail (laidMet.tail (laidMet.tail (laidMet.tail (laidMet.tail (laidMet.tail (laidMet.tail hL')))))))))))))
  clear hL hL' hcond hsz hval hW hv hlt hf s0 s1 s2 s0' s1' s2' hcsz hbk
  exact wl.lawPlay W _ l0 hR0 hl2 x1 _ L hLP hLn hLq ht e he


theorem laid_met (os : Os) : laidMet Tryd.prog Rows.walPlayUptoRow.laid ((World.doorLaid Tryd.prog 261 os).forCall (fun _ _ => 0) ⟨#[], #[.agg #[.slice none 0 0, .int .i64 0, .slice none 0 0]], []⟩).memory :=
  laidMet_of_run' 8 (by kernel_rfl) (by kernel_rfl)
theorem reads (os : Os) {H : Type} (enc : TypeId × Value → H) : ∃ places, DataW.whole enc Tryd.prog ((World.doorLaid Tryd.prog 261 os).forCall (fun _ _ => 0) ⟨#[], #[.agg #[.slice none 0 0, .int .i64 0, .slice none 0 0]], []⟩).memory Tryd.f7.params.toList Rows.walPlaySpec.vars false #[.agg #[.slice none 0 0, .int .i64 0, .slice none 0 0]].toList 8 = some ([.agg [.nil, .lit (.int .i64 0), .nil]], [], places) :=
  ⟨[], by kernel_rfl⟩

set_option maxRecDepth 100000 in
theorem lifted (os : Os) (started : os.Started) (H : Type) (enc : TypeId × Value → H) (F : Stop.Interp) :
    ReturnsInHanded {} Tryd.checked os 7 .any ((Rows.OpenSpec.upto Rows.walPlaySpec).preRow enc Tryd.prog Tryd.f7 Rows.walPlayUptoRow.domain false Rows.walPlayUptoRow.laid) (((Rows.OpenSpec.upto Rows.walPlaySpec).at F).post enc Tryd.prog Tryd.f7 false true false false) := by
  obtain ⟨places, hx⟩ := reads os enc
  refine returnsInHanded_of_row (C := Tryd.checked) (s := Rows.OpenSpec.upto Rows.walPlaySpec) own started (by kernel_rfl) Tryd.func7
    (witness_row_atRef (enc := enc) (C := Tryd.checked) false (World.doorLaid Tryd.prog 261 os) #[.agg #[.slice none 0 0, .int .i64 0, .slice none 0 0]] rfl (by kernel_rfl) (by kernel_rfl) (by kernel_rfl)
      (OpenSpec.preRow_of_cond 8 hx (by kernel_rfl) (fun k hk => by cases hk; kernel_rfl) (by kernel_rfl) (laid_met os))) ?_
  intro W base args ds gs before hval hW _ hc hs hL _ _
  exact contract H enc W base args ds gs before hval hW hc hs hL

theorem said : Rows.WalPlayUptoSaid :=
  OpenClaim.holds_of_cond 7 Tryd.f7 rfl rfl rfl rfl rfl rfl rfl ⟨rfl, rfl, rfl, rfl, rfl⟩ rfl rfl rfl rfl rfl (by kernel_rfl) Tryd.func7 (by kernel_rfl)
    (of_decide_eq_true (by kernel_rfl)) (by unfold Func.isWrapper; first | (rw [if_pos (by decide +kernel)]; kernel_rfl) | (rw [if_neg (by decide +kernel)]; exact ⟨rfl, rfl⟩))
    (fun os started H enc _ F => by rw [OpenClaim.pre_eq_preRow]; exact lifted os started H enc F)

theorem plain (f : FuncId) (fn : Func) (hf : Tryd.pinned.checked.prog.funcNamed "usher/usherlaw13.WalPlay" = some f) (hfn : Tryd.pinned.checked.prog.funcs[f]? = some fn) :
    true = Tryd.pinned.checked.prog.looks [] ∧ ∀ (j : Nat) t, fn.params[j]? = some t → Tryd.pinned.checked.prog.wantsStandIn t = false := by
  obtain rfl : f = 7 := Option.some.inj ((show Tryd.prog.funcNamed "usher/usherlaw13.WalPlay" = some 7 by kernel_rfl).symm.trans hf) |>.symm
  obtain rfl : fn = Tryd.f7 := (Option.some.inj (Tryd.func7.symm.trans hfn)).symm
  refine ⟨by kernel_rfl, fun j t ht => ?_⟩
  rw [Tryd.params7] at ht
  obtain rfl : t = 44 := by simpa using Array.mem_of_getElem? ht
  exact (show Tryd.prog.wantsStandIn 44 = false by kernel_rfl)

/-- THE CARD -/
theorem card : Rows.WalPlayUptoCardSaid :=
  Claim7.holds_tied_plain_at .later [] _ _ _ _ said (fun _ h => by cases h) (by kernel_rfl) (fun _ h => by cases h) walPlayUpto_row_tie rfl ⟨rfl, rfl⟩ (by kernel_rfl) rfl plain (by kernel_rfl)
end Go.Proofs.YtgmgffcfmopgmaaDoor.walPlay
