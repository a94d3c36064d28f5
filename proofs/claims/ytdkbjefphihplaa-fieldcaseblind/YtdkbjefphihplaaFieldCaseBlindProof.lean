import Derived.Test.YtdkbjefphihplaaRows
import Derived.Test.YtdkbjefphihplaaCommon
import Derived.Test.YtdkbjefphihplaaCaseBlindLaw
import Derived.Test.YtdkbjefphihplaaListOpen
import Derived.Test.YtdkbjefphihplaaCasedOpen
namespace Go.Proofs.Ytdkbjefphihplaa.fieldCaseBlind
open Go.ChangeShapes Go.WideShapes Go.ChangeAt Go.RowKit Go.Joins Go.Proofs.Ytdkbjefphihplaa.common
open Go.WideMaps Go.WideElems
open Go.ChangeMaps (open_string shut_string)

theorem own : ownKnob Try.prog.godebug = none := by kernel_rfl
theorem laidOut : laidOutB Try.prog = true := by kernel_rfl


set_option maxRecDepth 100000 in
theorem contract (H : Type) (enc : TypeId × Value → H) (W : World) (base : Nat) (args : Array Value) (ds gs : List (DataW H)) (before : List MemPlace)
    (hval : ∀ (j : Nat) t v, Try.f3.params[j]? = some t → args[j]? = some v → Value.okWide Try.prog W .any base t v)
    (hW : DataW.Whole enc Try.prog Try.f3.params.toList Rows.fieldCaseBlindSpec.vars false W args.toList ds gs before)
    (hcond : ∀ k, (OpenSpec.ofChange Rows.fieldCaseBlindSpec).cond = some k → k H (ds ++ gs) = true)
    (hsz : (DataW.weightsEach Try.prog (Try.f3.params.toList ++ (OpenSpec.ofChange Rows.fieldCaseBlindSpec).bare.plain.varTypes Try.prog) (ds ++ gs)).all (· ≤ reachBytes) = true) (_hL : laidMetH Try.prog Rows.fieldCaseBlindRow.laid W) :
    Calls Try.prog 3 args W fun e W' => ∃ v, e = .returned v ∧ Rows.fieldCaseBlindSpec.post enc Try.prog Try.f3 false true false false W args v W' := by
  refine law_one (t0 := 24) (tb := 4) Try.params3 (by kernel_rfl) Try.underlying4 laidOut (by kernel_rfl) (of_decide_eq_true (by kernel_rfl)) rfl (fun _ => rfl) hval hW ?_
  intro v0 d0 p0 hv h0 hds hgs hlt
  subst hds hgs
  rw [Try.params3] at hsz
  obtain ⟨c0, c1, c2, y0, y1, y2, m, rfl, rfl, hy0, hy1, hy2⟩ := lst.open_three Try.underlying24 (by kernel_rfl) lst.cellsCased hv h0
  obtain ⟨nm, e1, rfl, hs0⟩ := DataW.trod_string Try.underlying9 hy1
  simp at e1
  subst e1
  obtain ⟨mk, e2, rfl, _⟩ := DataW.trod_int Try.underlying3 hy2
  simp at e2
  subst e2
  obtain ⟨d, pl⟩ := y0
  have hww : (d.weights Try.prog 22).all (· ≤ reachBytes) = true ∧ nm.size ≤ reachBytes := by
    have h1 : ((DataW.agg [d, .lit (.string nm.data.toList), .lit (.int .i64 mk)]).weights Try.prog 24 ++ []).all (· ≤ reachBytes) = true := hsz
    simp only [DataW.weights, Try.underlying24] at h1
    have h2 : ((d.weights Try.prog 22 ++ ([nm.data.toList.length] ++ ([] ++ []))) ++ []).all (· ≤ reachBytes) = true := h1
    rw [List.append_nil, List.all_append, Bool.and_eq_true] at h2
    exact ⟨h2.1, by simpa using h2.2⟩
  obtain ⟨l, hl, hlen, hpp, _⟩ := lst.pairs_of hy0 hww.1
  have hnm := hww.2
  clear hcond hsz hval hW h0 hv hy0 hy1 hy2 hlt hs0 hww
  unfold reachBytes at hlen hpp hnm
  exact lst.lawCaseBlind c0 l nm mk W hl (by omega) (fun p h => Nat.le_trans (hpp p h).1 (by decide)) (by omega)


theorem laid_met (os : Os) : laidMet Try.prog Rows.fieldCaseBlindRow.laid (({ World.holding Try.prog os ⟨#[], #[], []⟩ with heap := (World.holding Try.prog os ⟨#[], #[], []⟩).heap } : World).forCall (fun _ _ => 0) ⟨#[], #[.agg #[.slice none 0 0, .string ByteArray.empty, .int .i64 0]], []⟩).memory :=
  laidMet_of_run' 8 (by kernel_rfl) (by kernel_rfl)
theorem reads (os : Os) {H : Type} (enc : TypeId × Value → H) : ∃ places, DataW.whole enc Try.prog (({ World.holding Try.prog os ⟨#[], #[], []⟩ with heap := (World.holding Try.prog os ⟨#[], #[], []⟩).heap } : World).forCall (fun _ _ => 0) ⟨#[], #[.agg #[.slice none 0 0, .string ByteArray.empty, .int .i64 0]], []⟩).memory Try.f3.params.toList Rows.fieldCaseBlindSpec.vars false #[.agg #[.slice none 0 0, .string ByteArray.empty, .int .i64 0]].toList 8 = some ([.agg [.nil, .lit (.string []), .lit (.int .i64 0)]], [], places) :=
  ⟨[], by kernel_rfl⟩

set_option maxRecDepth 100000 in
theorem lifted (os : Os) (started : os.Started) (H : Type) (enc : TypeId × Value → H) (F : Stop.Interp) :
    ReturnsInHanded {} Try.checked os 3 .any ((OpenSpec.ofChange Rows.fieldCaseBlindSpec).preRow enc Try.prog Try.f3 Rows.fieldCaseBlindRow.domain false Rows.fieldCaseBlindRow.laid) (((OpenSpec.ofChange Rows.fieldCaseBlindSpec).at F).post enc Try.prog Try.f3 false true false false) := by
  obtain ⟨places, hx⟩ := reads os enc
  refine returnsInHanded_of_row (C := Try.checked) (s := OpenSpec.ofChange Rows.fieldCaseBlindSpec) own started (by kernel_rfl) Try.func3
    (witness_row_at (enc := enc) (C := Try.checked) false ({ World.holding Try.prog os ⟨#[], #[], []⟩ with heap := (World.holding Try.prog os ⟨#[], #[], []⟩).heap } : World) #[.agg #[.slice none 0 0, .string ByteArray.empty, .int .i64 0]] rfl (by kernel_rfl) (by kernel_rfl) (by kernel_rfl)
      (OpenSpec.preRow_of_cond 8 hx (by kernel_rfl) (fun k hk => by cases hk) (by kernel_rfl) (laid_met os))) ?_
  intro W base args ds gs before hval hW _ hc hs hL _ _
  exact contract H enc W base args ds gs before hval hW hc hs hL

theorem said : Rows.FieldCaseBlindSaid :=
  OpenClaim.holds_of_cond 3 Try.f3 rfl rfl rfl rfl rfl rfl rfl ⟨rfl, rfl, rfl, rfl, rfl⟩ rfl rfl rfl rfl rfl (by kernel_rfl) Try.func3 (by kernel_rfl)
    (of_decide_eq_true (by kernel_rfl)) (by unfold Func.isWrapper; first | (rw [if_pos (by decide +kernel)]; kernel_rfl) | (rw [if_neg (by decide +kernel)]; exact ⟨rfl, rfl⟩))
    (fun os started H enc _ F => by rw [OpenClaim.pre_eq_preRow]; exact lifted os started H enc F)

end Go.Proofs.Ytdkbjefphihplaa.fieldCaseBlind
