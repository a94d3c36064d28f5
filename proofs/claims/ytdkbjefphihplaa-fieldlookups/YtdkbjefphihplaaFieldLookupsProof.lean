import Derived.Test.YtdkbjefphihplaaRows
import Derived.Test.YtdkbjefphihplaaCommon
import Derived.Test.YtdkbjefphihplaaLookLaw
import Derived.Test.YtdkbjefphihplaaListOpen
namespace Go.Proofs.Ytdkbjefphihplaa.fieldLookups
open Go.ChangeShapes Go.WideShapes Go.ChangeAt Go.RowKit Go.Joins Go.Proofs.Ytdkbjefphihplaa.common
open Go.WideMaps Go.WideElems
open Go.ChangeMaps (open_string shut_string)

theorem own : ownKnob Try.prog.godebug = none := by kernel_rfl
theorem laidOut : laidOutB Try.prog = true := by kernel_rfl


set_option maxRecDepth 100000 in
theorem contract (H : Type) (enc : TypeId × Value → H) (W : World) (base : Nat) (args : Array Value) (ds gs : List (DataW H)) (before : List MemPlace)
    (hval : ∀ (j : Nat) t v, Try.f4.params[j]? = some t → args[j]? = some v → Value.okWide Try.prog W .any base t v)
    (hW : DataW.Whole enc Try.prog Try.f4.params.toList Rows.fieldLookupsSpec.vars false W args.toList ds gs before)
    (hcond : ∀ k, (OpenSpec.ofChange Rows.fieldLookupsSpec).cond = some k → k H (ds ++ gs) = true)
    (hsz : (DataW.weightsEach Try.prog (Try.f4.params.toList ++ (OpenSpec.ofChange Rows.fieldLookupsSpec).bare.plain.varTypes Try.prog) (ds ++ gs)).all (· ≤ reachBytes) = true) (_hL : laidMetH Try.prog Rows.fieldLookupsRow.laid W) :
    Calls Try.prog 4 args W fun e W' => ∃ v, e = .returned v ∧ Rows.fieldLookupsSpec.post enc Try.prog Try.f4 false true false false W args v W' := by
  refine law_one (t0 := 32) (tb := 4) Try.params4 (by kernel_rfl) Try.underlying4 laidOut (by kernel_rfl) (of_decide_eq_true (by kernel_rfl)) rfl (fun _ => rfl) hval hW ?_
  intro v0 d0 p0 hv h0 hds hgs hlt
  subst hds hgs
  rw [Try.params4] at hsz
  obtain ⟨c0, c1, y0, y1, m, rfl, rfl, rfl, hy0, hy1⟩ := open_agg2 Try.underlying32 (by kernel_rfl) lst.cellsAsked hv h0
  obtain ⟨nm, e1, rfl, hs0⟩ := DataW.trod_string Try.underlying9 hy1
  simp at e1
  subst e1
  obtain ⟨d, pl⟩ := y0
  have hww : (d.weights Try.prog 22).all (· ≤ reachBytes) = true ∧ nm.size ≤ reachBytes := by
    have h1 : ((DataW.agg [d, .lit (.string nm.data.toList)]).weights Try.prog 32 ++ []).all (· ≤ reachBytes) = true := hsz
    simp only [DataW.weights, Try.underlying32] at h1
    have h2 : ((d.weights Try.prog 22 ++ ([nm.data.toList.length] ++ [])) ++ []).all (· ≤ reachBytes) = true := h1
    rw [List.append_nil, List.all_append, Bool.and_eq_true] at h2
    exact ⟨h2.1, by simpa using h2.2⟩
  obtain ⟨l, hl, hlen, hpp, _⟩ := lst.pairs_of hy0 hww.1
  have hnm := hww.2
  clear hcond hsz hval hW h0 hv hy0 hy1 hlt hs0 hww
  unfold reachBytes at hlen hpp hnm
  exact lst.lawLookups c0 l nm W hl (by omega) (fun p h => ⟨Nat.le_trans (hpp p h).1 (by decide), Nat.le_trans (hpp p h).2 (by decide)⟩) (by omega)


theorem laid_met (os : Os) : laidMet Try.prog Rows.fieldLookupsRow.laid (({ World.holding Try.prog os ⟨#[], #[], []⟩ with heap := (World.holding Try.prog os ⟨#[], #[], []⟩).heap } : World).forCall (fun _ _ => 0) ⟨#[], #[.agg #[.slice none 0 0, .string ByteArray.empty]], []⟩).memory :=
  laidMet_of_run' 8 (by kernel_rfl) (by kernel_rfl)
theorem reads (os : Os) {H : Type} (enc : TypeId × Value → H) : ∃ places, DataW.whole enc Try.prog (({ World.holding Try.prog os ⟨#[], #[], []⟩ with heap := (World.holding Try.prog os ⟨#[], #[], []⟩).heap } : World).forCall (fun _ _ => 0) ⟨#[], #[.agg #[.slice none 0 0, .string ByteArray.empty]], []⟩).memory Try.f4.params.toList Rows.fieldLookupsSpec.vars false #[.agg #[.slice none 0 0, .string ByteArray.empty]].toList 8 = some ([.agg [.nil, .lit (.string [])]], [], places) :=
  ⟨[], by kernel_rfl⟩

set_option maxRecDepth 100000 in
theorem lifted (os : Os) (started : os.Started) (H : Type) (enc : TypeId × Value → H) (F : Stop.Interp) :
    ReturnsInHanded {} Try.checked os 4 .any ((OpenSpec.ofChange Rows.fieldLookupsSpec).preRow enc Try.prog Try.f4 Rows.fieldLookupsRow.domain false Rows.fieldLookupsRow.laid) (((OpenSpec.ofChange Rows.fieldLookupsSpec).at F).post enc Try.prog Try.f4 false true false false) := by
  obtain ⟨places, hx⟩ := reads os enc
  refine returnsInHanded_of_row (C := Try.checked) (s := OpenSpec.ofChange Rows.fieldLookupsSpec) own started (by kernel_rfl) Try.func4
    (witness_row_at (enc := enc) (C := Try.checked) false ({ World.holding Try.prog os ⟨#[], #[], []⟩ with heap := (World.holding Try.prog os ⟨#[], #[], []⟩).heap } : World) #[.agg #[.slice none 0 0, .string ByteArray.empty]] rfl (by kernel_rfl) (by kernel_rfl) (by kernel_rfl)
      (OpenSpec.preRow_of_cond 8 hx (by kernel_rfl) (fun k hk => by cases hk) (by kernel_rfl) (laid_met os))) ?_
  intro W base args ds gs before hval hW _ hc hs hL _ _
  exact contract H enc W base args ds gs before hval hW hc hs hL

theorem said : Rows.FieldLookupsSaid :=
  OpenClaim.holds_of_cond 4 Try.f4 rfl rfl rfl rfl rfl rfl rfl ⟨rfl, rfl, rfl, rfl, rfl⟩ rfl rfl rfl rfl rfl (by kernel_rfl) Try.func4 (by kernel_rfl)
    (of_decide_eq_true (by kernel_rfl)) (by unfold Func.isWrapper; first | (rw [if_pos (by decide +kernel)]; kernel_rfl) | (rw [if_neg (by decide +kernel)]; exact ⟨rfl, rfl⟩))
    (fun os started H enc _ F => by rw [OpenClaim.pre_eq_preRow]; exact lifted os started H enc F)

end Go.Proofs.Ytdkbjefphihplaa.fieldLookups
