import Derived.Test.YtbchhpjpfieljaaRows
import Derived.Test.YtbchhpjpfieljaaCommon
import Derived.Test.YtbchhpjpfieljaaRgLaw
import Derived.Test.YtbchhpjpfieljaaRgCfg
namespace Go.Proofs.Ytbchhpjpfieljaa.registryFindExact
open Go.ChangeShapes Go.WideShapes Go.ChangeAt Go.RowKit Go.Joins Go.Proofs.Ytbchhpjpfieljaa.common
open Go.WideMaps Go.WideElems
open Go.ChangeMaps (open_string shut_string)

theorem own : ownKnob Try.prog.godebug = none := by kernel_rfl
theorem laidOut : laidOutB Try.prog = true := by kernel_rfl


set_option maxRecDepth 100000 in
theorem contract (H : Type) (enc : TypeId × Value → H) (W : World) (base : Nat) (args : Array Value) (ds gs : List (DataW H)) (before : List MemPlace)
    (hval : ∀ (j : Nat) t v, Try.f3.params[j]? = some t → args[j]? = some v → Value.okWide Try.prog W .any base t v)
    (hW : DataW.Whole enc Try.prog Try.f3.params.toList Rows.registryFindExactSpec.vars false W args.toList ds gs before)
    (hcond : ∀ k, (OpenSpec.ofChange Rows.registryFindExactSpec).cond = some k → k H (ds ++ gs) = true)
    (hsz : (DataW.weightsEach Try.prog (Try.f3.params.toList ++ (OpenSpec.ofChange Rows.registryFindExactSpec).bare.plain.varTypes Try.prog) (ds ++ gs)).all (· ≤ reachBytes) = true) (_hL : laidMetH Try.prog Rows.registryFindExactRow.laid W) :
    Calls Try.prog 3 args W fun e W' => ∃ v, e = .returned v ∧ Rows.registryFindExactSpec.post enc Try.prog Try.f3 false true false false W args v W' := by
  refine law_one (t0 := 27) (tb := 4) Try.params3 (by kernel_rfl) Try.underlying4 laidOut (by kernel_rfl) (of_decide_eq_true (by kernel_rfl)) rfl (fun _ => rfl) hval hW ?_
  intro v0 d0 p0 hv h0 hds hgs hlt
  subst hds hgs
  rw [Try.params3] at hsz
  obtain ⟨cs0, rfl, hsz0⟩ := okWide_struct Try.underlying27 hv
  obtain ⟨fuel, hf⟩ := h0
  obtain ⟨y0, y1, y2, n, hx, hcl, h0, h1, h2⟩ := Deep.trod_struct3 Try.underlying27 hf
  have hd0 := (Prod.mk.inj hx).1
  subst hd0
  obtain ⟨l⟩ := cs0
  match l, hsz0 with
  | [q0, q1, q2, q3, q4, q5, q6, q7, q8, q9, vC, vU, vI, vR], _ =>
    have h0' : DataW.trod enc Try.prog W 0 (fun _ => true) true n 25 [q0, q1, q2, q3, q4, q5, q6, q7, q8, q9, vC, vU] = some y0 := by rw [← h0]; rfl
    have h1' : DataW.trod enc Try.prog W 0 (fun _ => true) true n 9 [vI] = some y1 := by rw [← h1]; rfl
    have h2' : DataW.trod enc Try.prog W 0 (fun _ => true) true n 9 [vR] = some y2 := by rw [← h2]; rfl
    obtain ⟨id, ei, _, _⟩ := DataW.trod_string Try.underlying9 h1'
    obtain ⟨rd, er, _, _⟩ := DataW.trod_string Try.underlying9 h2'
    simp at ei er
    subst ei er
    have hww : (y0.1.weights Try.prog 25).all (· ≤ reachBytes) = true := by
      have h3 : ((DataW.agg [y0.1, y1.1, y2.1]).weights Try.prog 27 ++ []).all (· ≤ reachBytes) = true := hsz
      simp only [DataW.weights, Try.underlying27] at h3
      have h4 : ((y0.1.weights Try.prog 25 ++ (y1.1.weights Try.prog 9 ++ (y2.1.weights Try.prog 9 ++ []))) ++ []).all (· ≤ reachBytes) = true := h3
      rw [List.append_nil, List.all_append, Bool.and_eq_true] at h4
      exact h4.1
    obtain ⟨d0, p0⟩ := y0
    obtain ⟨t, cs, us, rfl, rfl, rfl, rfl, rfl, rfl, rfl, rfl, rfl, rfl, hC, hU, hc, hu, _, _, hs, _, _⟩ := rg.cfg_of h0' hww
    clear hcond hsz hval hW hv hlt hww
    unfold reachBytes at hc hu hs
    exact rg.lawFind W t vC vU cs us id rd hC hU (by omega) (by omega) (fun x hx => by have := (hs x hx).tow; have := (hs x hx).scw; omega)


theorem laid_met (os : Os) : laidMet Try.prog Rows.registryFindExactRow.laid (({ World.holding Try.prog os ⟨#[], #[], []⟩ with heap := (World.holding Try.prog os ⟨#[], #[], []⟩).heap } : World).forCall (fun _ _ => 0) ⟨#[], #[.agg #[.int .i64 0, .int .i64 0, .int .i64 0, .int .i64 0, .int .i64 0, .int .i64 0, .int .i64 0, .int .i64 0, .int .i64 0, .int .i64 0, .slice none 0 0, .slice none 0 0, .string ⟨#[]⟩, .string ⟨#[]⟩]], []⟩).memory :=
  laidMet_of_run' 8 (by kernel_rfl) (by kernel_rfl)
theorem reads (os : Os) {H : Type} (enc : TypeId × Value → H) : ∃ places, DataW.whole enc Try.prog (({ World.holding Try.prog os ⟨#[], #[], []⟩ with heap := (World.holding Try.prog os ⟨#[], #[], []⟩).heap } : World).forCall (fun _ _ => 0) ⟨#[], #[.agg #[.int .i64 0, .int .i64 0, .int .i64 0, .int .i64 0, .int .i64 0, .int .i64 0, .int .i64 0, .int .i64 0, .int .i64 0, .int .i64 0, .slice none 0 0, .slice none 0 0, .string ⟨#[]⟩, .string ⟨#[]⟩]], []⟩).memory Try.f3.params.toList Rows.registryFindExactSpec.vars false #[.agg #[.int .i64 0, .int .i64 0, .int .i64 0, .int .i64 0, .int .i64 0, .int .i64 0, .int .i64 0, .int .i64 0, .int .i64 0, .int .i64 0, .slice none 0 0, .slice none 0 0, .string ⟨#[]⟩, .string ⟨#[]⟩]].toList 8 = some ([.agg [.agg [.lit (.int .i64 0), .lit (.int .i64 0), .lit (.int .i64 0), .lit (.int .i64 0), .lit (.int .i64 0), .lit (.int .i64 0), .lit (.int .i64 0), .lit (.int .i64 0), .lit (.int .i64 0), .lit (.int .i64 0), .nil, .nil], .lit (.string []), .lit (.string [])]], [], places) :=
  ⟨[], by kernel_rfl⟩

set_option maxRecDepth 100000 in
theorem lifted (os : Os) (started : os.Started) (H : Type) (enc : TypeId × Value → H) (F : Stop.Interp) :
    ReturnsInHanded {} Try.checked os 3 .any ((OpenSpec.ofChange Rows.registryFindExactSpec).preRow enc Try.prog Try.f3 Rows.registryFindExactRow.domain false Rows.registryFindExactRow.laid) (((OpenSpec.ofChange Rows.registryFindExactSpec).at F).post enc Try.prog Try.f3 false true false false) := by
  obtain ⟨places, hx⟩ := reads os enc
  refine returnsInHanded_of_row (C := Try.checked) (s := OpenSpec.ofChange Rows.registryFindExactSpec) own started (by kernel_rfl) Try.func3
    (witness_row_at (enc := enc) (C := Try.checked) false ({ World.holding Try.prog os ⟨#[], #[], []⟩ with heap := (World.holding Try.prog os ⟨#[], #[], []⟩).heap } : World) #[.agg #[.int .i64 0, .int .i64 0, .int .i64 0, .int .i64 0, .int .i64 0, .int .i64 0, .int .i64 0, .int .i64 0, .int .i64 0, .int .i64 0, .slice none 0 0, .slice none 0 0, .string ⟨#[]⟩, .string ⟨#[]⟩]] rfl (by kernel_rfl) (by kernel_rfl) (by kernel_rfl)
      (OpenSpec.preRow_of_cond 8 hx (by kernel_rfl) (fun k hk => by cases hk) (by kernel_rfl) (laid_met os))) ?_
  intro W base args ds gs before hval hW _ hc hs hL _ _
  exact contract H enc W base args ds gs before hval hW hc hs hL

theorem said : Rows.RegistryFindExactSaid :=
  OpenClaim.holds_of_cond 3 Try.f3 rfl rfl rfl rfl rfl rfl rfl ⟨rfl, rfl, rfl, rfl, rfl⟩ rfl rfl rfl rfl rfl (by kernel_rfl) Try.func3 (by kernel_rfl)
    (of_decide_eq_true (by kernel_rfl)) (by unfold Func.isWrapper; first | (rw [if_pos (by decide +kernel)]; kernel_rfl) | (rw [if_neg (by decide +kernel)]; exact ⟨rfl, rfl⟩))
    (fun os started H enc _ F => by rw [OpenClaim.pre_eq_preRow]; exact lifted os started H enc F)

end Go.Proofs.Ytbchhpjpfieljaa.registryFindExact
