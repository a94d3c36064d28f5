import Derived.Test.YtilhfmhjgfmejaaGreatDoorCards
import Derived.Test.YtilhfmhjgfmejaaGreatDoorTie
import Derived.Test.YtilhfmhjgfmejaaGreatDoorMByteKit
import Derived.Test.YtilhfmhjgfmejaaGreatDoorMRgTabs
import Derived.Test.YtilhfmhjgfmejaaGreatDoorMWitZip
namespace Go.Proofs.YtilhfmhjgfmejaaGreatDoor.registryCheckExact
open Go.ChangeShapes Go.WideShapes Go.ChangeAt Go.RowKit Go.Joins Go.Proofs.YtilhfmhjgfmejaaGreatDoor.common
open Go.WideMaps Go.WideElems
open Go.ChangeMaps (open_string shut_string)

theorem own : ownKnob Tryz.prog.godebug = none := by kernel_rfl
theorem laidOut : laidOutB Tryz.prog = true := by kernel_rfl


set_option maxRecDepth 100000 in
theorem contract (H : Type) (enc : TypeId × Value → H) (W : World) (base : Nat) (args : Array Value) (ds gs : List (DataW H)) (before : List MemPlace)
    (hval : ∀ (j : Nat) t v, Tryz.f3.params[j]? = some t → args[j]? = some v → Value.okWide Tryz.prog W .any base t v)
    (hW : DataW.Whole enc Tryz.prog Tryz.f3.params.toList Rows.registryCheckExactSpec.vars false W args.toList ds gs before)
    (hcond : ∀ k, (Rows.OpenSpec.upto Rows.registryCheckExactSpec).cond = some k → k H (ds ++ gs) = true)
    (hsz : (DataW.weightsEach Tryz.prog (Tryz.f3.params.toList ++ (Rows.OpenSpec.upto Rows.registryCheckExactSpec).bare.plain.varTypes Tryz.prog) (ds ++ gs)).all (· ≤ reachBytes) = true) (hL : laidMetH Tryz.prog Rows.registryCheckExactUptoRow.laid W) (hsh : W.ShapedOpen Tryz.prog) :
    Calls Tryz.prog 3 args W fun e W' => ∃ v, e = .returned v ∧ Rows.registryCheckExactSpec.post enc Tryz.prog Tryz.f3 false true false false W args v W' := by
  refine law_one (t0 := 25) (tb := 4) Tryz.params3 (by kernel_rfl) Tryz.underlying4 laidOut (by kernel_rfl) (of_decide_eq_true (by kernel_rfl)) rfl (fun _ => rfl) hval hW ?_
  intro v0 d0 p0 hv h0 hds hgs hlt
  subst hds hgs
  rw [Tryz.params3] at hsz
  obtain ⟨cs9, rfl, hcsz⟩ := okWide_struct Tryz.underlying25 hv
  obtain ⟨fuel, hf⟩ := h0
  have hc9 : cs9.size = 12 := hcsz.trans rg.cellsCf
  obtain ⟨l⟩ := cs9
  match l, hc9 with
  | [q0, q1, q2, q3, q4, q5, q6, q7, q8, q9, q10, q11], _ =>
  have hf' : DataW.trod enc Tryz.prog W 0 (fun _ => true) true fuel 25 [q0, q1, q2, q3, q4, q5, q6, q7, q8, q9, q10, q11] = some (d0, p0) := hf
  have hw : (d0.weights Tryz.prog 25).all (· ≤ reachBytes) = true := by
    have h1 : (d0.weights Tryz.prog 25 ++ []).all (· ≤ reachBytes) = true := hsz
    rwa [List.append_nil] at h1
  obtain ⟨t, cs, us, rfl, rfl, rfl, rfl, rfl, rfl, rfl, rfl, rfl, rfl, hC, hU, _, _, b3, b4, b5, b6, hTO⟩ := rg.cfg_of hf' hw
  have hB : Rows.uptoBulk d0 ≤ 1048576 := by
    have hk := of_decide_eq_true (hcond _ rfl)
    simp only [List.append_nil, Rows.uptoBulkAll] at hk
    omega
  have hS : rg.SmallF cs us := ⟨by omega, by omega, fun x hx => by
    have g := b5 x hx
    have g1 := g.id
    have g2 := g.tos
    have g3 := g.sc
    obtain ⟨k1, k2⟩ := rg.tot_mem x.to
    obtain ⟨k3, k4⟩ := rg.tot_mem x.sc
    exact ⟨by omega, by omega, by omega, fun s hs => by have := k3 s hs; omega, fun s hs => by have := k1 s hs; omega⟩, fun u hu => by have := (b6 u hu).1; omega⟩
  have hL' : laidMet Tryz.prog Rows.registryCheckExactUptoRow.laid W := hL
  have hN := tm.nums_of_laid (laidMet.tail (laidMet.tail (laidMet.tail (laidMet.tail hL'))))
  have hLc := tm.loc_of_laid hL' (by simp [Rows.registryCheckExactUptoRow])
  obtain ⟨e, hE⟩ := errw.errs_of_laid (rest := [("usher/terms.localHosts", Rows.laid_usher_terms_localHosts), ("usher/registry.numbers", Rows.laid_usher_registry_numbers), ("usher/usherref11.least", Rows.laid_usher_usherref11_least), ("usher/usherref11.greatest", Rows.laid_usher_usherref11_greatest), ("unicode/utf8.first", Rows.laid_unicode_utf8_first)]) (laidMet.tail (laidMet.tail (laidMet.tail (laidMet.tail (laidMet.tail (laidMet.tail hL'))))))
  have hNT := rg.ntab_of hL' (by simp [Rows.registryCheckExactUptoRow])
  have hRT := rg.rtab_of (laidMet.tail (laidMet.tail (laidMet.tail (laidMet.tail (laidMet.tail (laidMet.tail (laidMet.tail (laidMet.tail (laidMet.tail (laidMet.tail (laidMet.tail (laidMet.tail (laidMet.tail (laidMet.tail (laidMet.tail (laidMet.tail (laidMet.tail (laidMet.tail (laidMet.tail (laidMet.tail (laidMet.tail hL')))))))))))))))))))))
  obtain ⟨m, hm⟩ := jl.lays146.s1_3 W hsh
  have hEnv : rg.CEnv e W := ⟨hE.cell 0 (by decide), hE.cell 3 (by decide), ⟨⟨hE.cell 1 (by decide), hE.cell 2 (by decide), m, hm⟩, hN, hLc⟩, hNT⟩
  clear hcond hsz hval hW hv hlt hw hL hL' hsh hf hf' hcsz hc9 hTO
  exact rg.lawCheck W t _ _ cs us e hC hU hS hEnv hRT hE


theorem laid_met (os : Os) : laidMet Tryz.prog Rows.registryCheckExactUptoRow.laid ((World.laidAll Tryz.prog os Rows.registryCheckExactUptoRow.laid).forCall (fun _ _ => 0) ⟨#[], #[.agg #[.int .i64 0, .int .i64 0, .int .i64 0, .int .i64 0, .int .i64 0, .int .i64 0, .int .i64 0, .int .i64 0, .int .i64 0, .int .i64 0, .slice none 0 0, .slice none 0 0]], []⟩).memory :=
  laidMet_laidAll _ (by kernel_rfl) (by kernel_rfl)
theorem reads (os : Os) {H : Type} (enc : TypeId × Value → H) : ∃ places, DataW.whole enc Tryz.prog ((World.laidAll Tryz.prog os Rows.registryCheckExactUptoRow.laid).forCall (fun _ _ => 0) ⟨#[], #[.agg #[.int .i64 0, .int .i64 0, .int .i64 0, .int .i64 0, .int .i64 0, .int .i64 0, .int .i64 0, .int .i64 0, .int .i64 0, .int .i64 0, .slice none 0 0, .slice none 0 0]], []⟩).memory Tryz.f3.params.toList Rows.registryCheckExactSpec.vars false #[.agg #[.int .i64 0, .int .i64 0, .int .i64 0, .int .i64 0, .int .i64 0, .int .i64 0, .int .i64 0, .int .i64 0, .int .i64 0, .int .i64 0, .slice none 0 0, .slice none 0 0]].toList 8 = some ([.agg [.lit (.int .i64 0), .lit (.int .i64 0), .lit (.int .i64 0), .lit (.int .i64 0), .lit (.int .i64 0), .lit (.int .i64 0), .lit (.int .i64 0), .lit (.int .i64 0), .lit (.int .i64 0), .lit (.int .i64 0), .nil, .nil]], [], places) :=
  ⟨[], by kernel_rfl⟩

set_option maxRecDepth 100000 in
theorem lifted (os : Os) (started : os.Started) (H : Type) (enc : TypeId × Value → H) (F : Stop.Interp) :
    ReturnsInHanded {} Tryz.checked os 3 .any ((Rows.OpenSpec.upto Rows.registryCheckExactSpec).preRow enc Tryz.prog Tryz.f3 Rows.registryCheckExactUptoRow.domain false Rows.registryCheckExactUptoRow.laid) (((Rows.OpenSpec.upto Rows.registryCheckExactSpec).at F).post enc Tryz.prog Tryz.f3 false true false false) := by
  obtain ⟨places, hx⟩ := reads os enc
  refine returnsInHanded_of_row (C := Tryz.checked) (s := Rows.OpenSpec.upto Rows.registryCheckExactSpec) own started (by kernel_rfl) Tryz.func3
    (fd.witness_row_zip (enc := enc) (C := Tryz.checked) false (World.laidAll Tryz.prog os Rows.registryCheckExactUptoRow.laid) #[.agg #[.int .i64 0, .int .i64 0, .int .i64 0, .int .i64 0, .int .i64 0, .int .i64 0, .int .i64 0, .int .i64 0, .int .i64 0, .int .i64 0, .slice none 0 0, .slice none 0 0]] (World.laidAll_os _ _ _) (by kernel_rfl) (by kernel_rfl) (by kernel_rfl)
      (OpenSpec.preRow_of_cond 8 hx (by kernel_rfl) (fun k hk => by cases hk; kernel_rfl) (by kernel_rfl) (laid_met os))) ?_
  intro W base args ds gs before hval hW _ hc hs hL hsh _
  exact contract H enc W base args ds gs before hval hW hc hs hL hsh

theorem said : Rows.RegistryCheckExactUptoSaid :=
  OpenClaim.holds_of_cond 3 Tryz.f3 rfl rfl rfl rfl rfl rfl rfl ⟨rfl, rfl, rfl, rfl, rfl⟩ rfl rfl rfl rfl rfl (by kernel_rfl) Tryz.func3 (by kernel_rfl)
    (of_decide_eq_true (by kernel_rfl)) (by unfold Func.isWrapper; first | (rw [if_pos (by decide +kernel)]; kernel_rfl) | (rw [if_neg (by decide +kernel)]; exact ⟨rfl, rfl⟩))
    (fun os started H enc _ F => by rw [OpenClaim.pre_eq_preRow]; exact lifted os started H enc F)

theorem plain (f : FuncId) (fn : Func) (hf : Tryz.pinned.checked.prog.funcNamed "usher/usherlaw11.RegistryCheckExact" = some f) (hfn : Tryz.pinned.checked.prog.funcs[f]? = some fn) :
    true = Tryz.pinned.checked.prog.looks [] ∧ ∀ (j : Nat) t, fn.params[j]? = some t → Tryz.pinned.checked.prog.wantsStandIn t = false := by
  obtain rfl : f = 3 := Option.some.inj ((show Tryz.prog.funcNamed "usher/usherlaw11.RegistryCheckExact" = some 3 by kernel_rfl).symm.trans hf) |>.symm
  obtain rfl : fn = Tryz.f3 := (Option.some.inj (Tryz.func3.symm.trans hfn)).symm
  refine ⟨by kernel_rfl, fun j t ht => ?_⟩
  rw [Tryz.params3] at ht
  obtain rfl : t = 25 := by simpa using Array.mem_of_getElem? ht
  exact (show Tryz.prog.wantsStandIn 25 = false by kernel_rfl)

/-- THE CARD -/
theorem card : Rows.RegistryCheckExactUptoCardSaid :=
  Claim7.holds_tied_plain_at .later [] _ _ _ _ said (fun _ h => by cases h) (by kernel_rfl) (fun _ h => by cases h) registryCheckExactUpto_row_tie rfl ⟨rfl, rfl⟩ (by kernel_rfl) rfl plain (by kernel_rfl)
end Go.Proofs.YtilhfmhjgfmejaaGreatDoor.registryCheckExact
