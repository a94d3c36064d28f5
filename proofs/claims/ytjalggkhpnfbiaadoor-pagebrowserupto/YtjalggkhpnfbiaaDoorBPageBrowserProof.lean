import Derived.Test.YtjalggkhpnfbiaaDoorCards
import Derived.Test.YtjalggkhpnfbiaaDoorTie
import Derived.Test.YtjalggkhpnfbiaaDoorBPageMath
import Derived.Test.YtjalggkhpnfbiaaDoorBBrLaw
import Derived.Test.YtjalggkhpnfbiaaDoorBWitZip
namespace Go.Proofs.YtjalggkhpnfbiaaDoor.pageBrowser
open Go.ChangeShapes Go.WideShapes Go.ChangeAt Go.RowKit Go.Joins Go.Proofs.YtjalggkhpnfbiaaDoor.common
open Go.WideMaps Go.WideElems
open Go.ChangeMaps (open_string shut_string)

theorem own : ownKnob Tryd.prog.godebug = none := by kernel_rfl
theorem laidOut : laidOutB Tryd.prog = true := by kernel_rfl


set_option maxRecDepth 100000 in
theorem contract (H : Type) (enc : TypeId × Value → H) (W : World) (base : Nat) (args : Array Value) (ds gs : List (DataW H)) (before : List MemPlace)
    (hval : ∀ (j : Nat) t v, Tryd.f4.params[j]? = some t → args[j]? = some v → Value.okWide Tryd.prog W .any base t v)
    (hW : DataW.Whole enc Tryd.prog Tryd.f4.params.toList Rows.pageBrowserSpec.vars false W args.toList ds gs before)
    (hcond : ∀ k, (Rows.OpenSpec.upto Rows.pageBrowserSpec).cond = some k → k H (ds ++ gs) = true)
    (hsz : (DataW.weightsEach Tryd.prog (Tryd.f4.params.toList ++ (Rows.OpenSpec.upto Rows.pageBrowserSpec).bare.plain.varTypes Tryd.prog) (ds ++ gs)).all (· ≤ reachBytes) = true) (hL : laidMetH Tryd.prog Rows.pageBrowserUptoRow.laid W) :
    Calls Tryd.prog 4 args W fun e W' => ∃ v, e = .returned v ∧ Rows.pageBrowserSpec.post enc Tryd.prog Tryd.f4 false true false false W args v W' := by
  refine law_one (t0 := 45) (tb := 4) Tryd.params4 (by kernel_rfl) Tryd.underlying4 laidOut (by kernel_rfl) (of_decide_eq_true (by kernel_rfl)) rfl (fun _ => rfl) hval hW ?_
  intro v0 d0 p0 hv h0 hds hgs hlt
  subst hds hgs
  rw [Tryd.params4] at hsz
  obtain ⟨cs, rfl, hcsz⟩ := okWide_struct Tryd.underlying45 hv
  have hC : Tryd.prog.cellsOf 45 = 5 := by kernel_rfl
  obtain ⟨c0, c1, c2, c3, c4, rfl⟩ := br.array5 (hcsz.trans hC)
  obtain ⟨fuel, hf⟩ := h0
  obtain ⟨y0, y1, y2, n, hx, _, t0, t1, t2⟩ := Deep.trod_struct3 Tryd.underlying45 hf
  have t0' : DataW.trod enc Tryd.prog W 0 (fun _ => true) true n 25 [c0, c1, c2] = some y0 := by rw [← t0]; rfl
  have t1' : DataW.trod enc Tryd.prog W 0 (fun _ => true) true n 3 [c3] = some y1 := by rw [← t1]; rfl
  have t2' : DataW.trod enc Tryd.prog W 0 (fun _ => true) true n 43 [c4] = some y2 := by rw [← t2]; rfl
  obtain ⟨N, eN, rfl, _⟩ := DataW.trod_int Tryd.underlying3 t1'
  simp at eN
  subst eN
  obtain ⟨z0, z1, z2, n2, hz, _, s0, s1, s2⟩ := Deep.trod_struct3 Tryd.underlying25 t0'
  have s0' : DataW.trod enc Tryd.prog W 0 (fun _ => true) true n2 9 [c0] = some z0 := by rw [← s0]; rfl
  have s1' : DataW.trod enc Tryd.prog W 0 (fun _ => true) true n2 22 [c1] = some z1 := by rw [← s1]; rfl
  have s2' : DataW.trod enc Tryd.prog W 0 (fun _ => true) true n2 23 [c2] = some z2 := by rw [← s2]; rfl
  obtain ⟨t, e0, rfl, _⟩ := DataW.trod_string Tryd.underlying9 s0'
  simp at e0
  subst e0
  obtain ⟨dL, pL⟩ := z1
  obtain ⟨dF, pF⟩ := z2
  obtain ⟨dT, pT⟩ := y2
  subst hz
  obtain ⟨rfl, _⟩ := Prod.mk.inj hx
  have hk : t.size + Rows.uptoBulk dL + Rows.uptoBulk dF + Rows.uptoBulk dT ≤ 1048576 := by
    have hk := of_decide_eq_true (hcond _ rfl)
    simp only [List.append_nil, Rows.uptoBulkAll, Rows.uptoBulk] at hk
    have : t.data.toList.length = t.size := by simp
    omega
  have hw : (dT.weights Tryd.prog 43).all (· ≤ reachBytes) = true := by
    have h1 : ((DataW.agg [.agg [.lit (.string t.data.toList), dL, dF], .lit (.int .i64 N), dT]).weights Tryd.prog 45 ++ []).all (· ≤ reachBytes) = true := hsz
    simp only [DataW.weights, Tryd.underlying45] at h1
    rw [List.all_eq_true] at h1 ⊢
    intro x hx
    refine h1 x ?_
    simp [DataW.weightsEach, hx]
  obtain ⟨ls, hL0, hLw, hLn⟩ := pg.strs_of s1'
  obtain ⟨fs, hF0, hFw, hFn, hFi, hFk⟩ := pg.frms_of s2'
  obtain ⟨l, hT0, hTn, _, hTd⟩ := lst.pairs_of t2' hw
  have htl : pctw.tot l ≤ 1048576 := by
    rcases hTd with ⟨_, rfl⟩ | ⟨sp, rfl⟩
    · exact Nat.zero_le _
    · have h1 := pctw.bulk_pairs (H := H) l
      simp only [Rows.uptoBulk] at hk
      omega
  have hL' : laidMet Tryd.prog Rows.pageBrowserUptoRow.laid W := hL
  have hT := pg.esc_of_laid hL' (by simp [Rows.pageBrowserUptoRow])
  obtain ⟨eA, ea, em, hEA, hTX, hEB⟩ := br.env_of_laid (rest := [("unicode/utf8.first", Rows.laid_unicode_utf8_first)]) hL'
  clear hL hL' hcond hsz hval hW hv hcsz hC s0 s1 s2 s0' s1' s2' hf hlt t0 t1 t2 t0' t1' t2' hw hTd
  exact br.lawBr W t c1 c2 c4 N ls fs l hL0 hF0 hT0 hT eA hEA ea em hTX hEB (by omega) (by omega) (by omega) (fun f h => by have := hFi f h; omega) hFk (fun k => by have := br.tot_mem l k; unfold maxLen; omega) (by unfold reachBytes at hTn; omega) (fun k => by have := br.tot_mem l k; omega)


theorem laid_met (os : Os) : laidMet Tryd.prog Rows.pageBrowserUptoRow.laid ((World.laidAll Tryd.prog os Rows.pageBrowserUptoRow.laid).forCall (fun _ _ => 0) ⟨#[], #[.agg #[.string ByteArray.empty, .slice none 0 0, .slice none 0 0, .int .i64 0, .slice none 0 0]], []⟩).memory :=
  laidMet_laidAll _ (by kernel_rfl) (by kernel_rfl)
theorem reads (os : Os) {H : Type} (enc : TypeId × Value → H) : ∃ places, DataW.whole enc Tryd.prog ((World.laidAll Tryd.prog os Rows.pageBrowserUptoRow.laid).forCall (fun _ _ => 0) ⟨#[], #[.agg #[.string ByteArray.empty, .slice none 0 0, .slice none 0 0, .int .i64 0, .slice none 0 0]], []⟩).memory Tryd.f4.params.toList Rows.pageBrowserSpec.vars false #[.agg #[.string ByteArray.empty, .slice none 0 0, .slice none 0 0, .int .i64 0, .slice none 0 0]].toList 8 = some ([.agg [.agg [.lit (.string []), .nil, .nil], .lit (.int .i64 0), .nil]], [], places) :=
  ⟨[], by kernel_rfl⟩

set_option maxRecDepth 100000 in
theorem lifted (os : Os) (started : os.Started) (H : Type) (enc : TypeId × Value → H) (F : Stop.Interp) :
    ReturnsInHanded {} Tryd.checked os 4 .any ((Rows.OpenSpec.upto Rows.pageBrowserSpec).preRow enc Tryd.prog Tryd.f4 Rows.pageBrowserUptoRow.domain false Rows.pageBrowserUptoRow.laid) (((Rows.OpenSpec.upto Rows.pageBrowserSpec).at F).post enc Tryd.prog Tryd.f4 false true false false) := by
  obtain ⟨places, hx⟩ := reads os enc
  refine returnsInHanded_of_row (C := Tryd.checked) (s := Rows.OpenSpec.upto Rows.pageBrowserSpec) own started (by kernel_rfl) Tryd.func4
    (fd.witness_row_zip (enc := enc) (C := Tryd.checked) false (World.laidAll Tryd.prog os Rows.pageBrowserUptoRow.laid) #[.agg #[.string ByteArray.empty, .slice none 0 0, .slice none 0 0, .int .i64 0, .slice none 0 0]] (World.laidAll_os _ _ _) (by kernel_rfl) (by kernel_rfl) (by kernel_rfl)
      (OpenSpec.preRow_of_cond 8 hx (by kernel_rfl) (fun k hk => by cases hk; kernel_rfl) (by kernel_rfl) (laid_met os))) ?_
  intro W base args ds gs before hval hW _ hc hs hL _ _
  exact contract H enc W base args ds gs before hval hW hc hs hL

theorem said : Rows.PageBrowserUptoSaid :=
  OpenClaim.holds_of_cond 4 Tryd.f4 rfl rfl rfl rfl rfl rfl rfl ⟨rfl, rfl, rfl, rfl, rfl⟩ rfl rfl rfl rfl rfl (by kernel_rfl) Tryd.func4 (by kernel_rfl)
    (of_decide_eq_true (by kernel_rfl)) (by unfold Func.isWrapper; first | (rw [if_pos (by decide +kernel)]; kernel_rfl) | (rw [if_neg (by decide +kernel)]; exact ⟨rfl, rfl⟩))
    (fun os started H enc _ F => by rw [OpenClaim.pre_eq_preRow]; exact lifted os started H enc F)

theorem plain (f : FuncId) (fn : Func) (hf : Tryd.pinned.checked.prog.funcNamed "usher/usherlaw5.PageBrowser" = some f) (hfn : Tryd.pinned.checked.prog.funcs[f]? = some fn) :
    false = Tryd.pinned.checked.prog.looks [] ∧ ∀ (j : Nat) t, fn.params[j]? = some t → Tryd.pinned.checked.prog.wantsStandIn t = false := by
  obtain rfl : f = 4 := Option.some.inj ((show Tryd.prog.funcNamed "usher/usherlaw5.PageBrowser" = some 4 by kernel_rfl).symm.trans hf) |>.symm
  obtain rfl : fn = Tryd.f4 := (Option.some.inj (Tryd.func4.symm.trans hfn)).symm
  refine ⟨by kernel_rfl, fun j t ht => ?_⟩
  rw [Tryd.params4] at ht
  obtain rfl : t = 45 := by simpa using Array.mem_of_getElem? ht
  exact (show Tryd.prog.wantsStandIn 45 = false by kernel_rfl)

/-- THE CARD -/
theorem card : Rows.PageBrowserUptoCardSaid :=
  Claim7.holds_tied_plain_at .later [] _ _ _ _ said (fun _ h => by cases h) (by kernel_rfl) (fun _ h => by cases h) pageBrowserUpto_row_tie rfl ⟨rfl, rfl⟩ (by kernel_rfl) rfl plain (by kernel_rfl)
end Go.Proofs.YtjalggkhpnfbiaaDoor.pageBrowser
