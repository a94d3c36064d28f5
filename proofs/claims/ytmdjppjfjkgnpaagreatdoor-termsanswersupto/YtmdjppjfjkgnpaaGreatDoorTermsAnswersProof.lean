import Derived.Test.YtmdjppjfjkgnpaaGreatDoorCards
import Derived.Test.YtmdjppjfjkgnpaaGreatDoorTie
import Derived.Test.YtmdjppjfjkgnpaaGreatDoorCommon
import Derived.Test.YtmdjppjfjkgnpaaGreatDoorAnsAll
import Derived.Test.YtmdjppjfjkgnpaaGreatDoorBulkPairs
import Derived.Test.YtmdjppjfjkgnpaaGreatDoorRedLaid
import Derived.Test.YtmdjppjfjkgnpaaGreatDoorPctTab
import Derived.Test.YtmdjppjfjkgnpaaGreatDoorWitZip
namespace Go.Proofs.YtmdjppjfjkgnpaaGreatDoor.termsAnswers
open Go.ChangeShapes Go.WideShapes Go.ChangeAt Go.RowKit Go.Joins Go.Proofs.YtmdjppjfjkgnpaaGreatDoor.common
open Go.WideMaps Go.WideElems
open Go.ChangeMaps (open_string shut_string)

theorem own : ownKnob Tryz.prog.godebug = none := by kernel_rfl
theorem laidOut : laidOutB Tryz.prog = true := by kernel_rfl


set_option maxRecDepth 100000 in
theorem contract (H : Type) (enc : TypeId × Value → H) (W : World) (base : Nat) (args : Array Value) (ds gs : List (DataW H)) (before : List MemPlace)
    (hval : ∀ (j : Nat) t v, Tryz.f3.params[j]? = some t → args[j]? = some v → Value.okWide Tryz.prog W .any base t v)
    (hW : DataW.Whole enc Tryz.prog Tryz.f3.params.toList Rows.termsAnswersSpec.vars false W args.toList ds gs before)
    (hcond : ∀ k, (Rows.OpenSpec.upto Rows.termsAnswersSpec).cond = some k → k H (ds ++ gs) = true)
    (hsz : (DataW.weightsEach Tryz.prog (Tryz.f3.params.toList ++ (Rows.OpenSpec.upto Rows.termsAnswersSpec).bare.plain.varTypes Tryz.prog) (ds ++ gs)).all (· ≤ reachBytes) = true) (hL : laidMetH Tryz.prog Rows.termsAnswersUptoRow.laid W) :
    Calls Tryz.prog 3 args W fun e W' => ∃ v, e = .returned v ∧ Rows.termsAnswersSpec.post enc Tryz.prog Tryz.f3 false true false false W args v W' := by
  refine law_one (t0 := 24) (tb := 4) Tryz.params3 (by kernel_rfl) Tryz.underlying4 laidOut (by kernel_rfl) (of_decide_eq_true (by kernel_rfl)) rfl (fun _ => rfl) hval hW ?_
  intro v0 d0 p0 hv h0 hds hgs hlt
  subst hds hgs
  rw [Tryz.params3] at hsz
  obtain ⟨c0, c1, y0, y1, m, rfl, rfl, rfl, hy0, hy1⟩ := open_agg2 Tryz.underlying24 (by kernel_rfl) tm.cellsSent hv h0
  obtain ⟨nm, e1, rfl, hs0⟩ := DataW.trod_string Tryz.underlying9 hy0
  simp at e1
  subst e1
  obtain ⟨d, pl⟩ := y1
  have hw : (d.weights Tryz.prog 22).all (· ≤ reachBytes) = true := by
    have h1 : ((DataW.agg [.lit (.string nm.data.toList), d]).weights Tryz.prog 24 ++ []).all (· ≤ reachBytes) = true := hsz
    simp only [DataW.weights, Tryz.underlying24] at h1
    have h2 : (([nm.data.toList.length] ++ (d.weights Tryz.prog 22 ++ [])) ++ []).all (· ≤ reachBytes) = true := h1
    rw [List.append_nil, List.append_nil, List.all_append, Bool.and_eq_true] at h2
    exact h2.2
  obtain ⟨l, hl, hlen, _, hd⟩ := lst.pairs_of hy1 hw
  have hz : pctw.tot l + l.length + nm.size ≤ 1048576 := by
    have hk := of_decide_eq_true (hcond _ rfl)
    have q1 : nm.data.toList.length = nm.size := by simp
    rcases hd with ⟨rfl, rfl⟩ | ⟨sp, rfl⟩
    · simp only [List.append_nil, Rows.uptoBulkAll, Rows.uptoBulk] at hk
      show 0 + 0 + nm.size ≤ _
      omega
    · have hb := pctw.bulk_pairs (H := H) l
      simp only [List.append_nil, Rows.uptoBulkAll, Rows.uptoBulk] at hk
      omega
  have hL' : laidMet Tryz.prog Rows.termsAnswersUptoRow.laid W := hL
  have hN := tm.nums_of_laid (laidMet.tail (laidMet.tail (laidMet.tail (laidMet.tail hL'))))
  have hLc := tm.loc_of_laid hL' (by simp [Rows.termsAnswersUptoRow])
  obtain ⟨e, he⟩ := errw.errs_of_laid (rest := [("usher/pct.unreserved", Rows.laid_usher_pct_unreserved), ("usher/terms.localHosts", Rows.laid_usher_terms_localHosts), ("unicode/utf8.first", Rows.laid_unicode_utf8_first)]) (laidMet.tail (laidMet.tail (laidMet.tail (laidMet.tail (laidMet.tail (laidMet.tail hL'))))))
  have ht := pctw.tab_of_laid (laidMet.tail (laidMet.tail (laidMet.tail (laidMet.tail (laidMet.tail (laidMet.tail (laidMet.tail (laidMet.tail (laidMet.tail (laidMet.tail (laidMet.tail (laidMet.tail (laidMet.tail (laidMet.tail (laidMet.tail (laidMet.tail (laidMet.tail (laidMet.tail (laidMet.tail hL')))))))))))))))))))
  clear hcond hsz hval hW h0 hv hy0 hy1 hlt hs0 hL hL' hw hd hlen
  exact tm.lawAnswers nm c1 l W e hl ⟨hN, hLc, ht, he.cell 1 (by decide), he.cell 2 (by decide)⟩ he (by omega)


theorem laid_met (os : Os) : laidMet Tryz.prog Rows.termsAnswersUptoRow.laid ((World.laidAll Tryz.prog os Rows.termsAnswersUptoRow.laid).forCall (fun _ _ => 0) ⟨#[], #[.agg #[.string ByteArray.empty, .slice none 0 0]], []⟩).memory :=
  laidMet_laidAll _ (by kernel_rfl) (by kernel_rfl)
theorem reads (os : Os) {H : Type} (enc : TypeId × Value → H) : ∃ places, DataW.whole enc Tryz.prog ((World.laidAll Tryz.prog os Rows.termsAnswersUptoRow.laid).forCall (fun _ _ => 0) ⟨#[], #[.agg #[.string ByteArray.empty, .slice none 0 0]], []⟩).memory Tryz.f3.params.toList Rows.termsAnswersSpec.vars false #[.agg #[.string ByteArray.empty, .slice none 0 0]].toList 8 = some ([.agg [.lit (.string []), .nil]], [], places) :=
  ⟨[], by kernel_rfl⟩

set_option maxRecDepth 100000 in
theorem lifted (os : Os) (started : os.Started) (H : Type) (enc : TypeId × Value → H) (F : Stop.Interp) :
    ReturnsInHanded {} Tryz.checked os 3 .any ((Rows.OpenSpec.upto Rows.termsAnswersSpec).preRow enc Tryz.prog Tryz.f3 Rows.termsAnswersUptoRow.domain false Rows.termsAnswersUptoRow.laid) (((Rows.OpenSpec.upto Rows.termsAnswersSpec).at F).post enc Tryz.prog Tryz.f3 false true false false) := by
  obtain ⟨places, hx⟩ := reads os enc
  refine returnsInHanded_of_row (C := Tryz.checked) (s := Rows.OpenSpec.upto Rows.termsAnswersSpec) own started (by kernel_rfl) Tryz.func3
    (fd.witness_row_zip (enc := enc) (C := Tryz.checked) false (World.laidAll Tryz.prog os Rows.termsAnswersUptoRow.laid) #[.agg #[.string ByteArray.empty, .slice none 0 0]] (World.laidAll_os _ _ _) (by kernel_rfl) (by kernel_rfl) (by kernel_rfl)
      (OpenSpec.preRow_of_cond 8 hx (by kernel_rfl) (fun k hk => by cases hk; kernel_rfl) (by kernel_rfl) (laid_met os))) ?_
  intro W base args ds gs before hval hW _ hc hs hL _ _
  exact contract H enc W base args ds gs before hval hW hc hs hL

theorem said : Rows.TermsAnswersUptoSaid :=
  OpenClaim.holds_of_cond 3 Tryz.f3 rfl rfl rfl rfl rfl rfl rfl ⟨rfl, rfl, rfl, rfl, rfl⟩ rfl rfl rfl rfl rfl (by kernel_rfl) Tryz.func3 (by kernel_rfl)
    (of_decide_eq_true (by kernel_rfl)) (by unfold Func.isWrapper; first | (rw [if_pos (by decide +kernel)]; kernel_rfl) | (rw [if_neg (by decide +kernel)]; exact ⟨rfl, rfl⟩))
    (fun os started H enc _ F => by rw [OpenClaim.pre_eq_preRow]; exact lifted os started H enc F)

theorem plain (f : FuncId) (fn : Func) (hf : Tryz.pinned.checked.prog.funcNamed "usher/usherlaw9.TermsAnswers" = some f) (hfn : Tryz.pinned.checked.prog.funcs[f]? = some fn) :
    true = Tryz.pinned.checked.prog.looks [] ∧ ∀ (j : Nat) t, fn.params[j]? = some t → Tryz.pinned.checked.prog.wantsStandIn t = false := by
  obtain rfl : f = 3 := Option.some.inj ((show Tryz.prog.funcNamed "usher/usherlaw9.TermsAnswers" = some 3 by kernel_rfl).symm.trans hf) |>.symm
  obtain rfl : fn = Tryz.f3 := (Option.some.inj (Tryz.func3.symm.trans hfn)).symm
  refine ⟨by kernel_rfl, fun j t ht => ?_⟩
  rw [Tryz.params3] at ht
  obtain rfl : t = 24 := by simpa using Array.mem_of_getElem? ht
  exact (show Tryz.prog.wantsStandIn 24 = false by kernel_rfl)

/-- THE CARD -/
theorem card : Rows.TermsAnswersUptoCardSaid :=
  Claim7.holds_tied_plain_at .later [] _ _ _ _ said (fun _ h => by cases h) (by kernel_rfl) (fun _ h => by cases h) termsAnswersUpto_row_tie rfl ⟨rfl, rfl⟩ (by kernel_rfl) rfl plain (by kernel_rfl)
end Go.Proofs.YtmdjppjfjkgnpaaGreatDoor.termsAnswers
