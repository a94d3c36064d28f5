import Derived.Test.YtaeleccngpfngaaRows
import Derived.Test.YtaeleccngpfngaaCommon
import Derived.Test.YtaeleccngpfngaaSentMem
import Derived.Test.YtaeleccngpfngaaListOpen
import Derived.Test.YtaeleccngpfngaaSentOpen5
namespace Go.Proofs.Ytaeleccngpfngaa.pageSentMemory
open Go.ChangeShapes Go.WideShapes Go.ChangeAt Go.RowKit Go.Joins Go.Proofs.Ytaeleccngpfngaa.common
open Go.WideMaps Go.WideElems
open Go.ChangeMaps (open_string shut_string)

theorem own : ownKnob Try.prog.godebug = none := by kernel_rfl
theorem laidOut : laidOutB Try.prog = true := by kernel_rfl


set_option maxRecDepth 100000 in
theorem contract (H : Type) (enc : TypeId × Value → H) (W : World) (base : Nat) (args : Array Value) (ds gs : List (DataW H)) (before : List MemPlace)
    (hval : ∀ (j : Nat) t v, Try.f3.params[j]? = some t → args[j]? = some v → Value.okWide Try.prog W .any base t v)
    (hW : DataW.Whole enc Try.prog Try.f3.params.toList Rows.pageSentMemorySpec.vars false W args.toList ds gs before)
    (hcond : ∀ k, (OpenSpec.ofChange Rows.pageSentMemorySpec).cond = some k → k H (ds ++ gs) = true)
    (hsz : (DataW.weightsEach Try.prog (Try.f3.params.toList ++ (OpenSpec.ofChange Rows.pageSentMemorySpec).bare.plain.varTypes Try.prog) (ds ++ gs)).all (· ≤ reachBytes) = true) (_hL : laidMetH Try.prog Rows.pageSentMemoryRow.laid W) :
    Calls Try.prog 3 args W fun e W' => ∃ v, e = .returned v ∧ Rows.pageSentMemorySpec.post enc Try.prog Try.f3 false true false false W args v W' := by
  refine law_one (t0 := 27) (tb := 4) Try.params3 (by kernel_rfl) Try.underlying4 laidOut (by kernel_rfl) (of_decide_eq_true (by kernel_rfl)) rfl (fun _ => rfl) hval hW ?_
  intro v0 d0 p0 hv h0 hds hgs hlt
  subst hds hgs
  rw [Try.params3] at hsz
  obtain ⟨cs, rfl, hcsz⟩ := okWide_struct Try.underlying27 hv
  have hC : Try.prog.cellsOf 27 = 4 := by kernel_rfl
  obtain ⟨c0, c1, c2, c3, rfl⟩ := array4 (hcsz.trans hC)
  obtain ⟨fuel, hf⟩ := h0
  obtain ⟨y0, y1, n, hx, _, t0, t1⟩ := trod_struct2 Try.underlying27 hf
  have t0' : DataW.trod enc Try.prog W 0 (fun _ => true) true n 24 [c0, c1, c2] = some y0 := by rw [← t0]; rfl
  have t1' : DataW.trod enc Try.prog W 0 (fun _ => true) true n 25 [c3] = some y1 := by rw [← t1]; rfl
  obtain ⟨z0, z1, z2, n2, hz, _, s0, s1, s2⟩ := Deep.trod_struct3 Try.underlying24 t0'
  have s0' : DataW.trod enc Try.prog W 0 (fun _ => true) true n2 9 [c0] = some z0 := by rw [← s0]; rfl
  have s1' : DataW.trod enc Try.prog W 0 (fun _ => true) true n2 22 [c1] = some z1 := by rw [← s1]; rfl
  have s2' : DataW.trod enc Try.prog W 0 (fun _ => true) true n2 9 [c2] = some z2 := by rw [← s2]; rfl
  obtain ⟨act, e0, rfl, _⟩ := DataW.trod_string Try.underlying9 s0'
  obtain ⟨but, e2, rfl, _⟩ := DataW.trod_string Try.underlying9 s2'
  simp at e0 e2
  subst e0 e2
  obtain ⟨dI, pI⟩ := z1
  obtain ⟨dT, pT⟩ := y1
  obtain ⟨rfl, _⟩ := Prod.mk.inj hx
  subst hz
  have hw : (dI.weights Try.prog 22).all (· ≤ reachBytes) = true ∧ (dT.weights Try.prog 25).all (· ≤ reachBytes) = true := by
    have h1 : ((DataW.agg [.agg [.lit (.string act.data.toList), dI, .lit (.string but.data.toList)], dT]).weights Try.prog 27 ++ []).all (· ≤ reachBytes) = true := hsz
    simp only [DataW.weights, Try.underlying27] at h1
    have h2 : ((((DataW.agg [.lit (.string act.data.toList), dI, .lit (.string but.data.toList)]).weights Try.prog 24) ++ (dT.weights Try.prog 25 ++ [])) ++ []).all (· ≤ reachBytes) = true := h1
    simp only [DataW.weights, Try.underlying24] at h2
    have h3 : (((([act.data.toList.length] ++ (dI.weights Try.prog 22 ++ ([but.data.toList.length] ++ [])))) ++ (dT.weights Try.prog 25 ++ [])) ++ []).all (· ≤ reachBytes) = true := h2
    simp only [List.append_nil, List.all_append, Bool.and_eq_true] at h3
    exact ⟨h3.1.2.1, h3.2⟩
  obtain ⟨xs, hi, hilen, hfi⟩ := sent.inputs_of s1' hw.1
  obtain ⟨l, hl, hlen, hfl, _⟩ := lst.pairs_of t1' hw.2
  have hff := sent.fits_of hfl
  obtain ⟨ot, cT, rfl, hcc⟩ := hl
  have hl : lst.Lies W (.slice ot l.length cT) l := ⟨ot, cT, rfl, hcc⟩
  clear hcond hsz hval hW hv hlt hw hcsz hC s0 s1 s2 s0' s1' s2' t0 t1 t0' t1' hcc hfl hf
  exact sent.lawMem c1 ot cT act but l xs W hi hl hff hfi (by unfold reachBytes at hlen; omega) (by unfold reachBytes at hilen; omega)


theorem laid_met (os : Os) : laidMet Try.prog Rows.pageSentMemoryRow.laid (({ World.holding Try.prog os ⟨#[], #[], []⟩ with heap := (World.holding Try.prog os ⟨#[], #[], []⟩).heap } : World).forCall (fun _ _ => 0) ⟨#[], #[.agg #[.string ByteArray.empty, .slice none 0 0, .string ByteArray.empty, .slice none 0 0]], []⟩).memory :=
  laidMet_of_run' 8 (by kernel_rfl) (by kernel_rfl)
theorem reads (os : Os) {H : Type} (enc : TypeId × Value → H) : ∃ places, DataW.whole enc Try.prog (({ World.holding Try.prog os ⟨#[], #[], []⟩ with heap := (World.holding Try.prog os ⟨#[], #[], []⟩).heap } : World).forCall (fun _ _ => 0) ⟨#[], #[.agg #[.string ByteArray.empty, .slice none 0 0, .string ByteArray.empty, .slice none 0 0]], []⟩).memory Try.f3.params.toList Rows.pageSentMemorySpec.vars false #[.agg #[.string ByteArray.empty, .slice none 0 0, .string ByteArray.empty, .slice none 0 0]].toList 8 = some ([.agg [.agg [.lit (.string []), .nil, .lit (.string [])], .nil]], [], places) :=
  ⟨[], by kernel_rfl⟩

set_option maxRecDepth 100000 in
theorem lifted (os : Os) (started : os.Started) (H : Type) (enc : TypeId × Value → H) (F : Stop.Interp) :
    ReturnsInHanded {} Try.checked os 3 .any ((OpenSpec.ofChange Rows.pageSentMemorySpec).preRow enc Try.prog Try.f3 Rows.pageSentMemoryRow.domain false Rows.pageSentMemoryRow.laid) (((OpenSpec.ofChange Rows.pageSentMemorySpec).at F).post enc Try.prog Try.f3 false true false false) := by
  obtain ⟨places, hx⟩ := reads os enc
  refine returnsInHanded_of_row (C := Try.checked) (s := OpenSpec.ofChange Rows.pageSentMemorySpec) own started (by kernel_rfl) Try.func3
    (witness_row_at (enc := enc) (C := Try.checked) false ({ World.holding Try.prog os ⟨#[], #[], []⟩ with heap := (World.holding Try.prog os ⟨#[], #[], []⟩).heap } : World) #[.agg #[.string ByteArray.empty, .slice none 0 0, .string ByteArray.empty, .slice none 0 0]] rfl (by kernel_rfl) (by kernel_rfl) (by kernel_rfl)
      (OpenSpec.preRow_of_cond 8 hx (by kernel_rfl) (fun k hk => by cases hk) (by kernel_rfl) (laid_met os))) ?_
  intro W base args ds gs before hval hW _ hc hs hL _ _
  exact contract H enc W base args ds gs before hval hW hc hs hL

theorem said : Rows.PageSentMemorySaid :=
  OpenClaim.holds_of_cond 3 Try.f3 rfl rfl rfl rfl rfl rfl rfl ⟨rfl, rfl, rfl, rfl, rfl⟩ rfl rfl rfl rfl rfl (by kernel_rfl) Try.func3 (by kernel_rfl)
    (of_decide_eq_true (by kernel_rfl)) (by unfold Func.isWrapper; first | (rw [if_pos (by decide +kernel)]; kernel_rfl) | (rw [if_neg (by decide +kernel)]; exact ⟨rfl, rfl⟩))
    (fun os started H enc _ F => by rw [OpenClaim.pre_eq_preRow]; exact lifted os started H enc F)

end Go.Proofs.Ytaeleccngpfngaa.pageSentMemory
