import Derived.Test.YtjalggkhpnfbiaaDoorCards
import Derived.Test.YtjalggkhpnfbiaaDoorTie
import Derived.Test.YtjalggkhpnfbiaaDoorMCommon
import Derived.Test.YtjalggkhpnfbiaaDoorMPmLaw
import Derived.Test.YtjalggkhpnfbiaaDoorMPageLaid
import Derived.LaidMore
import Derived.Deep.DeepWitnessRowRef
namespace Go.Proofs.YtjalggkhpnfbiaaDoor.pageReadMemory
open Go.ChangeShapes Go.WideShapes Go.ChangeAt Go.RowKit Go.Joins Go.Proofs.YtjalggkhpnfbiaaDoor.common
open Go.WideMaps Go.WideElems
open Go.ChangeMaps (open_string shut_string)

theorem own : ownKnob Tryd.prog.godebug = none := by kernel_rfl
theorem laidOut : laidOutB Tryd.prog = true := by kernel_rfl


set_option maxRecDepth 100000 in
theorem contract (H : Type) (enc : TypeId × Value → H) (W : World) (base : Nat) (args : Array Value) (ds gs : List (DataW H)) (before : List MemPlace)
    (hval : ∀ (j : Nat) t v, Tryd.f3.params[j]? = some t → args[j]? = some v → Value.okWide Tryd.prog W .any base t v)
    (hW : DataW.Whole enc Tryd.prog Tryd.f3.params.toList Rows.pageReadMemorySpec.vars false W args.toList ds gs before)
    (hcond : ∀ k, (Rows.OpenSpec.upto Rows.pageReadMemorySpec).cond = some k → k H (ds ++ gs) = true)
    (hsz : (DataW.weightsEach Tryd.prog (Tryd.f3.params.toList ++ (Rows.OpenSpec.upto Rows.pageReadMemorySpec).bare.plain.varTypes Tryd.prog) (ds ++ gs)).all (· ≤ reachBytes) = true) (hL : laidMetH Tryd.prog Rows.pageReadMemoryUptoRow.laid W) :
    Calls Tryd.prog 3 args W fun e W' => ∃ v, e = .returned v ∧ Rows.pageReadMemorySpec.post enc Tryd.prog Tryd.f3 false true false false W args v W' := by
  refine law_one (t0 := 25) (tb := 4) Tryd.params3 (by kernel_rfl) Tryd.underlying4 laidOut (by kernel_rfl) (of_decide_eq_true (by kernel_rfl)) rfl (fun _ => rfl) hval hW ?_
  intro v0 d0 p0 hv h0 hds hgs hlt
  subst hds hgs
  rw [Tryd.params3] at hsz
  obtain ⟨cs, rfl, hcsz⟩ := okWide_struct Tryd.underlying25 hv
  have hC : Tryd.prog.cellsOf 25 = 3 := by kernel_rfl
  obtain ⟨c0, c1, c2, rfl⟩ := pg.array3 (hcsz.trans hC)
  obtain ⟨fuel, hf⟩ := h0
  obtain ⟨z0, z1, z2, n2, hz, _, s0, s1, s2⟩ := Deep.trod_struct3 Tryd.underlying25 hf
  have s0' : DataW.trod enc Tryd.prog W 0 (fun _ => true) true n2 9 [c0] = some z0 := by rw [← s0]; rfl
  have s1' : DataW.trod enc Tryd.prog W 0 (fun _ => true) true n2 22 [c1] = some z1 := by rw [← s1]; rfl
  have s2' : DataW.trod enc Tryd.prog W 0 (fun _ => true) true n2 23 [c2] = some z2 := by rw [← s2]; rfl
  obtain ⟨t, e0, rfl, _⟩ := DataW.trod_string Tryd.underlying9 s0'
  simp at e0
  subst e0
  obtain ⟨dL, pL⟩ := z1
  obtain ⟨dF, pF⟩ := z2
  obtain ⟨rfl, _⟩ := Prod.mk.inj hz
  have hk : t.size + Rows.uptoBulk dL + Rows.uptoBulk dF ≤ 1048576 := by
    have hk := of_decide_eq_true (hcond _ rfl)
    simp only [List.append_nil, Rows.uptoBulkAll, Rows.uptoBulk] at hk
    have : t.data.toList.length = t.size := by simp
    omega
  obtain ⟨ls, hL0, hLw, hLn⟩ := pg.strs_of s1'
  obtain ⟨fs, hF0, hFw, hFn, hFi, hFk⟩ := pg.frms_of s2'
  have hL' : laidMet Tryd.prog Rows.pageReadMemoryUptoRow.laid W := hL
  have hT := pg.esc_of_laid hL' (by simp [Rows.pageReadMemoryUptoRow])
  obtain ⟨eA, ea, hEA, hTX⟩ := pg.two_of_laid (rest := [("usher/page.escapes", Rows.laid_usher_page_escapes)]) hL'
  clear hL hL' hcond hsz hval hW hv hcsz hC s0 s1 s2 s0' s1' s2' hf hlt
  exact pg.lawPM W t c1 c2 ls fs hL0 hF0 hT eA hEA ea hTX (by omega) (by omega) (by omega) (fun f h => by have := hFi f h; omega) hFk


theorem laid_met (os : Os) : laidMet Tryd.prog Rows.pageReadMemoryUptoRow.laid ((World.doorLaid Tryd.prog 91 os).forCall (fun _ _ => 0) ⟨#[], #[.agg #[.string ByteArray.empty, .slice none 0 0, .slice none 0 0]], []⟩).memory :=
  laidMet_of_run' 8 (by kernel_rfl) (by kernel_rfl)
theorem reads (os : Os) {H : Type} (enc : TypeId × Value → H) : ∃ places, DataW.whole enc Tryd.prog ((World.doorLaid Tryd.prog 91 os).forCall (fun _ _ => 0) ⟨#[], #[.agg #[.string ByteArray.empty, .slice none 0 0, .slice none 0 0]], []⟩).memory Tryd.f3.params.toList Rows.pageReadMemorySpec.vars false #[.agg #[.string ByteArray.empty, .slice none 0 0, .slice none 0 0]].toList 8 = some ([.agg [.lit (.string []), .nil, .nil]], [], places) :=
  ⟨[], by kernel_rfl⟩

set_option maxRecDepth 100000 in
theorem lifted (os : Os) (started : os.Started) (H : Type) (enc : TypeId × Value → H) (F : Stop.Interp) :
    ReturnsInHanded {} Tryd.checked os 3 .any ((Rows.OpenSpec.upto Rows.pageReadMemorySpec).preRow enc Tryd.prog Tryd.f3 Rows.pageReadMemoryUptoRow.domain false Rows.pageReadMemoryUptoRow.laid) (((Rows.OpenSpec.upto Rows.pageReadMemorySpec).at F).post enc Tryd.prog Tryd.f3 false true false false) := by
  obtain ⟨places, hx⟩ := reads os enc
  refine returnsInHanded_of_row (C := Tryd.checked) (s := Rows.OpenSpec.upto Rows.pageReadMemorySpec) own started (by kernel_rfl) Tryd.func3
    (witness_row_atRef (enc := enc) (C := Tryd.checked) false (World.doorLaid Tryd.prog 91 os) #[.agg #[.string ByteArray.empty, .slice none 0 0, .slice none 0 0]] rfl (by kernel_rfl) (by kernel_rfl) (by kernel_rfl)
      (OpenSpec.preRow_of_cond 8 hx (by kernel_rfl) (fun k hk => by cases hk; kernel_rfl) (by kernel_rfl) (laid_met os))) ?_
  intro W base args ds gs before hval hW _ hc hs hL _ _
  exact contract H enc W base args ds gs before hval hW hc hs hL

theorem said : Rows.PageReadMemoryUptoSaid :=
  OpenClaim.holds_of_cond 3 Tryd.f3 rfl rfl rfl rfl rfl rfl rfl ⟨rfl, rfl, rfl, rfl, rfl⟩ rfl rfl rfl rfl rfl (by kernel_rfl) Tryd.func3 (by kernel_rfl)
    (of_decide_eq_true (by kernel_rfl)) (by unfold Func.isWrapper; first | (rw [if_pos (by decide +kernel)]; kernel_rfl) | (rw [if_neg (by decide +kernel)]; exact ⟨rfl, rfl⟩))
    (fun os started H enc _ F => by rw [OpenClaim.pre_eq_preRow]; exact lifted os started H enc F)

theorem plain (f : FuncId) (fn : Func) (hf : Tryd.pinned.checked.prog.funcNamed "usher/usherlaw5.PageReadMemory" = some f) (hfn : Tryd.pinned.checked.prog.funcs[f]? = some fn) :
    false = Tryd.pinned.checked.prog.looks [] ∧ ∀ (j : Nat) t, fn.params[j]? = some t → Tryd.pinned.checked.prog.wantsStandIn t = false := by
  obtain rfl : f = 3 := Option.some.inj ((show Tryd.prog.funcNamed "usher/usherlaw5.PageReadMemory" = some 3 by kernel_rfl).symm.trans hf) |>.symm
  obtain rfl : fn = Tryd.f3 := (Option.some.inj (Tryd.func3.symm.trans hfn)).symm
  refine ⟨by kernel_rfl, fun j t ht => ?_⟩
  rw [Tryd.params3] at ht
  obtain rfl : t = 25 := by simpa using Array.mem_of_getElem? ht
  exact (show Tryd.prog.wantsStandIn 25 = false by kernel_rfl)

/-- THE CARD -/
theorem card : Rows.PageReadMemoryUptoCardSaid :=
  Claim7.holds_tied_plain_at .later [] _ _ _ _ said (fun _ h => by cases h) (by kernel_rfl) (fun _ h => by cases h) pageReadMemoryUpto_row_tie rfl ⟨rfl, rfl⟩ (by kernel_rfl) rfl plain (by kernel_rfl)
end Go.Proofs.YtjalggkhpnfbiaaDoor.pageReadMemory
