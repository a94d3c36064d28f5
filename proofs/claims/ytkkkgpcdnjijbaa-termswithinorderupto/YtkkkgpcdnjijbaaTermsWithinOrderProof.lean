import Derived.Test.YtkkkgpcdnjijbaaRows
import Derived.Test.YtkkkgpcdnjijbaaCommon
import Derived.Test.YtkkkgpcdnjijbaaWithinOrd
import Derived.Test.YtkkkgpcdnjijbaaStrOpen
namespace Go.Proofs.Ytkkkgpcdnjijbaa.termsWithinOrder
open Go.ChangeShapes Go.WideShapes Go.ChangeAt Go.RowKit Go.Joins Go.Proofs.Ytkkkgpcdnjijbaa.common
open Go.WideMaps Go.WideElems
open Go.ChangeMaps (open_string shut_string)

theorem own : ownKnob Try.prog.godebug = none := by kernel_rfl
theorem laidOut : laidOutB Try.prog = true := by kernel_rfl


set_option maxRecDepth 100000 in
theorem contract (H : Type) (enc : TypeId × Value → H) (W : World) (base : Nat) (args : Array Value) (ds gs : List (DataW H)) (before : List MemPlace)
    (hval : ∀ (j : Nat) t v, Try.f3.params[j]? = some t → args[j]? = some v → Value.okWide Try.prog W .any base t v)
    (hW : DataW.Whole enc Try.prog Try.f3.params.toList Rows.termsWithinOrderSpec.vars false W args.toList ds gs before)
    (hcond : ∀ k, (Rows.OpenSpec.upto Rows.termsWithinOrderSpec).cond = some k → k H (ds ++ gs) = true)
    (hsz : (DataW.weightsEach Try.prog (Try.f3.params.toList ++ (Rows.OpenSpec.upto Rows.termsWithinOrderSpec).bare.plain.varTypes Try.prog) (ds ++ gs)).all (· ≤ reachBytes) = true) (_hL : laidMetH Try.prog Rows.termsWithinOrderUptoRow.laid W) :
    Calls Try.prog 3 args W fun e W' => ∃ v, e = .returned v ∧ Rows.termsWithinOrderSpec.post enc Try.prog Try.f3 false true false false W args v W' := by
  refine law_one (t0 := 24) (tb := 4) Try.params3 (by kernel_rfl) Try.underlying4 laidOut (by kernel_rfl) (of_decide_eq_true (by kernel_rfl)) rfl (fun _ => rfl) hval hW ?_
  intro v0 d0 p0 hv h0 hds hgs hlt
  subst hds hgs
  rw [Try.params3] at hsz
  obtain ⟨c0, c1, c2, c3, y0, y1, y2, y3, m, rfl, rfl, rfl, hy0, hy1, hy2, hy3⟩ := open_agg4 Try.underlying24 (by kernel_rfl) ss.cellsThree hv h0
  obtain ⟨z, e3, rfl, hs3⟩ := DataW.trod_string Try.underlying9 hy3
  simp at e3
  subst e3
  obtain ⟨d0, p0⟩ := y0
  obtain ⟨d1, p1⟩ := y1
  obtain ⟨d2, p2⟩ := y2
  have hww : (d0.weights Try.prog 22).all (· ≤ reachBytes) = true ∧ (d1.weights Try.prog 22).all (· ≤ reachBytes) = true ∧ (d2.weights Try.prog 22).all (· ≤ reachBytes) = true := by
    have h1 : ((DataW.agg [d0, d1, d2, .lit (.string z.data.toList)]).weights Try.prog 24 ++ []).all (· ≤ reachBytes) = true := hsz
    simp only [DataW.weights, Try.underlying24] at h1
    have h2 : ((d0.weights Try.prog 22 ++ (d1.weights Try.prog 22 ++ (d2.weights Try.prog 22 ++ ([z.data.toList.length] ++ [])))) ++ []).all (· ≤ reachBytes) = true := h1
    rw [List.append_nil, List.all_append, Bool.and_eq_true, List.all_append, Bool.and_eq_true, List.all_append, Bool.and_eq_true] at h2
    exact ⟨h2.1, h2.2.1, h2.2.2.1⟩
  obtain ⟨la, hla, _, _, ta⟩ := ss.strs_of hy0 hww.1
  obtain ⟨lb, hlb, _, _, tb⟩ := ss.strs_of hy1 hww.2.1
  obtain ⟨lc, hlc, _, _, tc⟩ := ss.strs_of hy2 hww.2.2
  have na := ss.len_tot la
  have nb := ss.len_tot lb
  have nc := ss.len_tot lc
  have hk := of_decide_eq_true (hcond _ rfl)
  simp only [List.append_nil, Rows.uptoBulkAll, Rows.uptoBulk] at hk
  clear hcond hsz hval hW h0 hv hy0 hy1 hy2 hy3 hlt hs3 hww
  exact ss.lawWithinOrder c0 c1 c2 la lb lc z W hla hlb hlc (by omega)


theorem laid_met (os : Os) : laidMet Try.prog Rows.termsWithinOrderUptoRow.laid (({ World.holding Try.prog os ⟨#[], #[], []⟩ with heap := (World.holding Try.prog os ⟨#[], #[], []⟩).heap } : World).forCall (fun _ _ => 0) ⟨#[], #[.agg #[.slice none 0 0, .slice none 0 0, .slice none 0 0, .string ByteArray.empty]], []⟩).memory :=
  laidMet_of_run' 8 (by kernel_rfl) (by kernel_rfl)
theorem reads (os : Os) {H : Type} (enc : TypeId × Value → H) : ∃ places, DataW.whole enc Try.prog (({ World.holding Try.prog os ⟨#[], #[], []⟩ with heap := (World.holding Try.prog os ⟨#[], #[], []⟩).heap } : World).forCall (fun _ _ => 0) ⟨#[], #[.agg #[.slice none 0 0, .slice none 0 0, .slice none 0 0, .string ByteArray.empty]], []⟩).memory Try.f3.params.toList Rows.termsWithinOrderSpec.vars false #[.agg #[.slice none 0 0, .slice none 0 0, .slice none 0 0, .string ByteArray.empty]].toList 8 = some ([.agg [.nil, .nil, .nil, .lit (.string [])]], [], places) :=
  ⟨[], by kernel_rfl⟩

set_option maxRecDepth 100000 in
theorem lifted (os : Os) (started : os.Started) (H : Type) (enc : TypeId × Value → H) (F : Stop.Interp) :
    ReturnsInHanded {} Try.checked os 3 .any ((Rows.OpenSpec.upto Rows.termsWithinOrderSpec).preRow enc Try.prog Try.f3 Rows.termsWithinOrderUptoRow.domain false Rows.termsWithinOrderUptoRow.laid) (((Rows.OpenSpec.upto Rows.termsWithinOrderSpec).at F).post enc Try.prog Try.f3 false true false false) := by
  obtain ⟨places, hx⟩ := reads os enc
  refine returnsInHanded_of_row (C := Try.checked) (s := Rows.OpenSpec.upto Rows.termsWithinOrderSpec) own started (by kernel_rfl) Try.func3
    (witness_row_at (enc := enc) (C := Try.checked) false ({ World.holding Try.prog os ⟨#[], #[], []⟩ with heap := (World.holding Try.prog os ⟨#[], #[], []⟩).heap } : World) #[.agg #[.slice none 0 0, .slice none 0 0, .slice none 0 0, .string ByteArray.empty]] rfl (by kernel_rfl) (by kernel_rfl) (by kernel_rfl)
      (OpenSpec.preRow_of_cond 8 hx (by kernel_rfl) (fun k hk => by cases hk; kernel_rfl) (by kernel_rfl) (laid_met os))) ?_
  intro W base args ds gs before hval hW _ hc hs hL _ _
  exact contract H enc W base args ds gs before hval hW hc hs hL

theorem said : Rows.TermsWithinOrderUptoSaid :=
  OpenClaim.holds_of_cond 3 Try.f3 rfl rfl rfl rfl rfl rfl rfl ⟨rfl, rfl, rfl, rfl, rfl⟩ rfl rfl rfl rfl rfl (by kernel_rfl) Try.func3 (by kernel_rfl)
    (of_decide_eq_true (by kernel_rfl)) (by unfold Func.isWrapper; first | (rw [if_pos (by decide +kernel)]; kernel_rfl) | (rw [if_neg (by decide +kernel)]; exact ⟨rfl, rfl⟩))
    (fun os started H enc _ F => by rw [OpenClaim.pre_eq_preRow]; exact lifted os started H enc F)

end Go.Proofs.Ytkkkgpcdnjijbaa.termsWithinOrder
