import Derived.Test.YtkmhhodapnlkiaaDoorCards
import Derived.Test.YtkmhhodapnlkiaaDoorTie
import Derived.Test.YtkmhhodapnlkiaaDoorCommon
import Derived.Test.YtkmhhodapnlkiaaDoorGtLaw
import Derived.Test.YtkmhhodapnlkiaaDoorListOpen
import Derived.Test.YtkmhhodapnlkiaaDoorWitZip
namespace Go.Proofs.YtkmhhodapnlkiaaDoor.grantTicket
open Go.ChangeShapes Go.WideShapes Go.ChangeAt Go.RowKit Go.Joins Go.Proofs.YtkmhhodapnlkiaaDoor.common
open Go.WideMaps Go.WideElems
open Go.ChangeMaps (open_string shut_string)

theorem own : ownKnob Tryd.prog.godebug = none := by kernel_rfl
theorem laidOut : laidOutB Tryd.prog = true := by kernel_rfl


set_option maxRecDepth 100000 in
theorem contract (H : Type) (enc : TypeId × Value → H) (W : World) (base : Nat) (args : Array Value) (ds gs : List (DataW H)) (before : List MemPlace)
    (hval : ∀ (j : Nat) t v, Tryd.f3.params[j]? = some t → args[j]? = some v → Value.okWide Tryd.prog W .any base t v)
    (hW : DataW.Whole enc Tryd.prog Tryd.f3.params.toList Rows.grantTicketSpec.vars false W args.toList ds gs before)
    (hcond : ∀ k, (Rows.OpenSpec.upto Rows.grantTicketSpec).cond = some k → k H (ds ++ gs) = true)
    (hsz : (DataW.weightsEach Tryd.prog (Tryd.f3.params.toList ++ (Rows.OpenSpec.upto Rows.grantTicketSpec).bare.plain.varTypes Tryd.prog) (ds ++ gs)).all (· ≤ reachBytes) = true) (hL : laidMetH Tryd.prog Rows.grantTicketUptoRow.laid W) :
    Calls Tryd.prog 3 args W fun e W' => ∃ v, e = .returned v ∧ Rows.grantTicketSpec.post enc Tryd.prog Tryd.f3 false true false false W args v W' := by
  refine law_one (t0 := 24) (tb := 4) Tryd.params3 (by kernel_rfl) Tryd.underlying4 laidOut (by kernel_rfl) (of_decide_eq_true (by kernel_rfl)) rfl (fun _ => rfl) hval hW ?_
  intro v0 d0 p0 hv h0 hds hgs hlt
  subst hds hgs
  rw [Tryd.params3] at hsz
  obtain ⟨c0, c1, y0, y1, m, rfl, rfl, rfl, hy0, hy1⟩ := open_agg2 Tryd.underlying24 (by kernel_rfl) (show Tryd.prog.cellsOf 24 = 2 by kernel_rfl) hv h0
  obtain ⟨nm, e1, rfl, hs0⟩ := DataW.trod_string Tryd.underlying9 hy0
  simp at e1
  subst e1
  obtain ⟨d, pl⟩ := y1
  have hw : (d.weights Tryd.prog 22).all (· ≤ reachBytes) = true := by
    have h1 : ((DataW.agg [.lit (.string nm.data.toList), d]).weights Tryd.prog 24 ++ []).all (· ≤ reachBytes) = true := hsz
    simp only [DataW.weights, Tryd.underlying24] at h1
    have h2 : (([nm.data.toList.length] ++ (d.weights Tryd.prog 22 ++ [])) ++ []).all (· ≤ reachBytes) = true := h1
    rw [List.append_nil, List.append_nil, List.all_append, Bool.and_eq_true] at h2
    exact h2.2
  obtain ⟨l, hl, hlen, _, hd⟩ := lst.pairs_of hy1 hw
  have hz : pctw.tot l + l.length + nm.size ≤ 1048576 := by
    have hk := of_decide_eq_true (hcond _ rfl)
    have q1 : nm.data.toList.length = nm.size := by simp
    rcases hd with ⟨rfl, rfl⟩ | ⟨sp, rfl⟩
    · simp only [List.append_nil, Rows.uptoBulkAll, Rows.uptoBulk] at hk
      show 0 + 0 + nm.size ≤ _
      omega
    · have hb := pctw.bulk_pairs (H := H) l
      simp only [List.append_nil, Rows.uptoBulkAll, Rows.uptoBulk] at hk
      omega
  have hL' : laidMet Tryd.prog Rows.grantTicketUptoRow.laid W := hL
  have hp := pctw.tab_of_laid hL'
  have hu := radw.urlTab hL'.tail
  have ht := refw.tabs hL'.tail.tail
  clear hcond hsz hval hW h0 hv hy0 hy1 hlt hs0 hL hL' hw hd hlen
  exact gt.lawTicket nm c1 l W hl ⟨ht, hu, hp⟩ (by omega) (by omega)


theorem laid_met (os : Os) : laidMet Tryd.prog Rows.grantTicketUptoRow.laid ((World.laidAll Tryd.prog os Rows.grantTicketUptoRow.laid).forCall (fun _ _ => 0) ⟨#[], #[.agg #[.string ByteArray.empty, .slice none 0 0]], []⟩).memory :=
  laidMet_laidAll _ (by kernel_rfl) (by kernel_rfl)
theorem reads (os : Os) {H : Type} (enc : TypeId × Value → H) : ∃ places, DataW.whole enc Tryd.prog ((World.laidAll Tryd.prog os Rows.grantTicketUptoRow.laid).forCall (fun _ _ => 0) ⟨#[], #[.agg #[.string ByteArray.empty, .slice none 0 0]], []⟩).memory Tryd.f3.params.toList Rows.grantTicketSpec.vars false #[.agg #[.string ByteArray.empty, .slice none 0 0]].toList 8 = some ([.agg [.lit (.string []), .nil]], [], places) :=
  ⟨[], by kernel_rfl⟩

set_option maxRecDepth 100000 in
theorem lifted (os : Os) (started : os.Started) (H : Type) (enc : TypeId × Value → H) (F : Stop.Interp) :
    ReturnsInHanded {} Tryd.checked os 3 .any ((Rows.OpenSpec.upto Rows.grantTicketSpec).preRow enc Tryd.prog Tryd.f3 Rows.grantTicketUptoRow.domain false Rows.grantTicketUptoRow.laid) (((Rows.OpenSpec.upto Rows.grantTicketSpec).at F).post enc Tryd.prog Tryd.f3 false true false false) := by
  obtain ⟨places, hx⟩ := reads os enc
  refine returnsInHanded_of_row (C := Tryd.checked) (s := Rows.OpenSpec.upto Rows.grantTicketSpec) own started (by kernel_rfl) Tryd.func3
    (fd.witness_row_zip (enc := enc) (C := Tryd.checked) false (World.laidAll Tryd.prog os Rows.grantTicketUptoRow.laid) #[.agg #[.string ByteArray.empty, .slice none 0 0]] (World.laidAll_os _ _ _) (by kernel_rfl) (by kernel_rfl) (by kernel_rfl)
      (OpenSpec.preRow_of_cond 8 hx (by kernel_rfl) (fun k hk => by cases hk; kernel_rfl) (by kernel_rfl) (laid_met os))) ?_
  intro W base args ds gs before hval hW _ hc hs hL _ _
  exact contract H enc W base args ds gs before hval hW hc hs hL

theorem said : Rows.GrantTicketUptoSaid :=
  OpenClaim.holds_of_cond 3 Tryd.f3 rfl rfl rfl rfl rfl rfl rfl ⟨rfl, rfl, rfl, rfl, rfl⟩ rfl rfl rfl rfl rfl (by kernel_rfl) Tryd.func3 (by kernel_rfl)
    (of_decide_eq_true (by kernel_rfl)) (by unfold Func.isWrapper; first | (rw [if_pos (by decide +kernel)]; kernel_rfl) | (rw [if_neg (by decide +kernel)]; exact ⟨rfl, rfl⟩))
    (fun os started H enc _ F => by rw [OpenClaim.pre_eq_preRow]; exact lifted os started H enc F)

theorem plain (f : FuncId) (fn : Func) (hf : Tryd.pinned.checked.prog.funcNamed "usher/usherlaw16.GrantTicket" = some f) (hfn : Tryd.pinned.checked.prog.funcs[f]? = some fn) :
    false = Tryd.pinned.checked.prog.looks [] ∧ ∀ (j : Nat) t, fn.params[j]? = some t → Tryd.pinned.checked.prog.wantsStandIn t = false := by
  obtain rfl : f = 3 := Option.some.inj ((show Tryd.prog.funcNamed "usher/usherlaw16.GrantTicket" = some 3 by kernel_rfl).symm.trans hf) |>.symm
  obtain rfl : fn = Tryd.f3 := (Option.some.inj (Tryd.func3.symm.trans hfn)).symm
  refine ⟨by kernel_rfl, fun j t ht => ?_⟩
  rw [Tryd.params3] at ht
  obtain rfl : t = 24 := by simpa using Array.mem_of_getElem? ht
  exact (show Tryd.prog.wantsStandIn 24 = false by kernel_rfl)

/-- THE CARD -/
theorem card : Rows.GrantTicketUptoCardSaid :=
  Claim7.holds_tied_plain_at .later [] _ _ _ _ said (fun _ h => by cases h) (by kernel_rfl) (fun _ h => by cases h) grantTicketUpto_row_tie rfl ⟨rfl, rfl⟩ (by kernel_rfl) rfl plain (by kernel_rfl)
end Go.Proofs.YtkmhhodapnlkiaaDoor.grantTicket
