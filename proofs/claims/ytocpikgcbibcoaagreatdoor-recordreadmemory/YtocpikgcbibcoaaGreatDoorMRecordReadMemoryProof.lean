import Derived.Test.YtocpikgcbibcoaaGreatDoorCards
import Derived.Test.YtocpikgcbibcoaaGreatDoorTie
import Derived.Test.YtocpikgcbibcoaaGreatDoorMRdKit
import Derived.Test.YtocpikgcbibcoaaGreatDoorMRcFull
import Derived.Test.YtocpikgcbibcoaaGreatDoorMRcRmL
import Derived.Test.YtocpikgcbibcoaaGreatDoorMRcUn
namespace Go.Proofs.YtocpikgcbibcoaaGreatDoor.recordReadMemory
open Go.ChangeShapes Go.WideShapes Go.ChangeAt Go.RowKit Go.Joins Go.Proofs.YtocpikgcbibcoaaGreatDoor.common
open Go.WideMaps Go.WideElems
open Go.ChangeMaps (open_string shut_string)

theorem own : ownKnob Tryz.prog.godebug = none := by kernel_rfl
theorem laidOut : laidOutB Tryz.prog = true := by kernel_rfl


set_option maxRecDepth 100000 in
theorem contract (H : Type) (enc : TypeId × Value → H) (W : World) (base : Nat) (args : Array Value) (ds gs : List (DataW H)) (before : List MemPlace)
    (hval : ∀ (j : Nat) t v, Tryz.f3.params[j]? = some t → args[j]? = some v → Value.okWide Tryz.prog W .any base t v)
    (hW : DataW.Whole enc Tryz.prog Tryz.f3.params.toList Rows.recordReadMemorySpec.vars false W args.toList ds gs before)
    (hcond : ∀ k, (OpenSpec.ofChange Rows.recordReadMemorySpec).cond = some k → k H (ds ++ gs) = true)
    (hsz : (DataW.weightsEach Tryz.prog (Tryz.f3.params.toList ++ (OpenSpec.ofChange Rows.recordReadMemorySpec).bare.plain.varTypes Tryz.prog) (ds ++ gs)).all (· ≤ reachBytes) = true) (hL : laidMetH Tryz.prog Rows.recordReadMemoryRow.laid W) (hsh : W.ShapedOpen Tryz.prog) :
    Calls Tryz.prog 3 args W fun e W' => ∃ v, e = .returned v ∧ Rows.recordReadMemorySpec.post enc Tryz.prog Tryz.f3 false true false false W args v W' := by
  refine law_one (t0 := 22) (tb := 4) Tryz.params3 (by kernel_rfl) Tryz.underlying4 laidOut (by kernel_rfl) (of_decide_eq_true (by kernel_rfl)) rfl (fun _ => rfl) hval hW ?_
  intro v0 d0 p0 hv h0 hds hgs hlt
  subst hds hgs
  rw [Tryz.params3] at hsz
  obtain ⟨oa, len, cap, rfl⟩ := okWide_slice Tryz.underlying22 hv
  obtain ⟨fuel, hf⟩ := h0
  have hw : (d0.weights Tryz.prog 22).all (· ≤ reachBytes) = true := by
    have h1 : (d0.weights Tryz.prog 22 ++ []).all (· ≤ reachBytes) = true := hsz
    rwa [List.append_nil] at h1
  obtain ⟨l, hLs, hIn⟩ := rc.recs_full (v := .slice oa len cap) hf hw
  have hln := rc.recs_len hf hw
  have hll : len = l.length := by obtain ⟨_, _, h, _⟩ := hLs; cases h; rfl
  rw [hll] at hln
  have hL' : laidMet Tryz.prog Rows.recordReadMemoryRow.laid W := hL
  have hN := tm.nums_of_laid (laidMet.tail (laidMet.tail (laidMet.tail (laidMet.tail hL'))))
  have hLc := tm.loc_of_laid hL' (by simp [Rows.recordReadMemoryRow])
  obtain ⟨e, hE⟩ := errw.errs_of_laid (rest := [("usher/radix.urlLetters", Rows.laid_usher_radix_urlLetters), ("usher/sums.firstWords", Rows.laid_usher_sums_firstWords), ("usher/sums.roundWords", Rows.laid_usher_sums_roundWords), ("usher/pkce.unreserved", Rows.laid_usher_pkce_unreserved), ("usher/terms.localHosts", Rows.laid_usher_terms_localHosts), ("usher/record.kindFields", Rows.laid_usher_record_kindFields), ("unicode/utf8.first", Rows.laid_unicode_utf8_first)]) (laidMet.tail (laidMet.tail (laidMet.tail (laidMet.tail (laidMet.tail (laidMet.tail hL'))))))
  have hU := radw.urlTab (laidMet.tail (laidMet.tail (laidMet.tail (laidMet.tail (laidMet.tail (laidMet.tail (laidMet.tail (laidMet.tail (laidMet.tail (laidMet.tail (laidMet.tail (laidMet.tail (laidMet.tail (laidMet.tail (laidMet.tail (laidMet.tail (laidMet.tail (laidMet.tail (laidMet.tail hL')))))))))))))))))))
  have hPk : pk.Env W := ⟨shaw.rwTab (laidMet.tail (laidMet.tail (laidMet.tail (laidMet.tail (laidMet.tail (laidMet.tail (laidMet.tail (laidMet.tail (laidMet.tail (laidMet.tail (laidMet.tail (laidMet.tail (laidMet.tail (laidMet.tail (laidMet.tail (laidMet.tail (laidMet.tail (laidMet.tail (laidMet.tail (laidMet.tail (laidMet.tail hL'))))))))))))))))))))), shaw.fwTab (laidMet.tail (laidMet.tail (laidMet.tail (laidMet.tail (laidMet.tail (laidMet.tail (laidMet.tail (laidMet.tail (laidMet.tail (laidMet.tail (laidMet.tail (laidMet.tail (laidMet.tail (laidMet.tail (laidMet.tail (laidMet.tail (laidMet.tail (laidMet.tail (laidMet.tail (laidMet.tail hL')))))))))))))))))))), hU⟩
  have hP := pk.tab_of_laid (laidMet.tail (laidMet.tail (laidMet.tail (laidMet.tail (laidMet.tail (laidMet.tail (laidMet.tail (laidMet.tail (laidMet.tail (laidMet.tail (laidMet.tail (laidMet.tail (laidMet.tail (laidMet.tail (laidMet.tail (laidMet.tail (laidMet.tail (laidMet.tail (laidMet.tail (laidMet.tail (laidMet.tail (laidMet.tail hL'))))))))))))))))))))))
  have hK := rc.ktab_of (laidMet.tail (laidMet.tail (laidMet.tail (laidMet.tail (laidMet.tail (laidMet.tail (laidMet.tail (laidMet.tail (laidMet.tail (laidMet.tail (laidMet.tail (laidMet.tail (laidMet.tail (laidMet.tail (laidMet.tail (laidMet.tail (laidMet.tail (laidMet.tail (laidMet.tail (laidMet.tail (laidMet.tail (laidMet.tail (laidMet.tail (laidMet.tail hL'))))))))))))))))))))))))
  obtain ⟨m, hm⟩ := jl.lays146.s1_3 W hsh
  have hEnv : rc.Env (e 1) (e 2) (errw.E e 0) W := ⟨hK, hE.cell 1 (by decide), hU, ⟨hE.cell 1 (by decide), hE.cell 2 (by decide), m, hm⟩, hN, hLc, hP, hE.cell 0 (by decide)⟩
  clear hcond hsz hval hW hv hlt hw hL hL' hsh hf
  exact rc.lawReadMemory l _ W e hLs hIn hln hEnv hE hPk


theorem laid_met (os : Os) : laidMet Tryz.prog Rows.recordReadMemoryRow.laid ((World.laidAll Tryz.prog os Rows.recordReadMemoryRow.laid).forCall (fun _ _ => 0) ⟨#[], #[.slice none 0 0], []⟩).memory :=
  laidMet_laidAll _ (by kernel_rfl) (by kernel_rfl)
theorem reads (os : Os) {H : Type} (enc : TypeId × Value → H) : ∃ places, DataW.whole enc Tryz.prog ((World.laidAll Tryz.prog os Rows.recordReadMemoryRow.laid).forCall (fun _ _ => 0) ⟨#[], #[.slice none 0 0], []⟩).memory Tryz.f3.params.toList Rows.recordReadMemorySpec.vars false #[.slice none 0 0].toList 8 = some ([.nil], [], places) :=
  ⟨[], by kernel_rfl⟩

set_option maxRecDepth 100000 in
theorem lifted (os : Os) (started : os.Started) (H : Type) (enc : TypeId × Value → H) (F : Stop.Interp) :
    ReturnsInHanded {} Tryz.checked os 3 .any ((OpenSpec.ofChange Rows.recordReadMemorySpec).preRow enc Tryz.prog Tryz.f3 Rows.recordReadMemoryRow.domain false Rows.recordReadMemoryRow.laid) (((OpenSpec.ofChange Rows.recordReadMemorySpec).at F).post enc Tryz.prog Tryz.f3 false true false false) := by
  obtain ⟨places, hx⟩ := reads os enc
  refine returnsInHanded_of_row (C := Tryz.checked) (s := OpenSpec.ofChange Rows.recordReadMemorySpec) own started (by kernel_rfl) Tryz.func3
    (fd.witness_row_zip (enc := enc) (C := Tryz.checked) false (World.laidAll Tryz.prog os Rows.recordReadMemoryRow.laid) #[.slice none 0 0] (World.laidAll_os _ _ _) (by kernel_rfl) (by kernel_rfl) (by kernel_rfl)
      (OpenSpec.preRow_of_cond 8 hx (by kernel_rfl) (fun k hk => by cases hk) (by kernel_rfl) (laid_met os))) ?_
  intro W base args ds gs before hval hW _ hc hs hL hsh _
  exact contract H enc W base args ds gs before hval hW hc hs hL hsh

theorem said : Rows.RecordReadMemorySaid :=
  OpenClaim.holds_of_cond 3 Tryz.f3 rfl rfl rfl rfl rfl rfl rfl ⟨rfl, rfl, rfl, rfl, rfl⟩ rfl rfl rfl rfl rfl (by kernel_rfl) Tryz.func3 (by kernel_rfl)
    (of_decide_eq_true (by kernel_rfl)) (by unfold Func.isWrapper; first | (rw [if_pos (by decide +kernel)]; kernel_rfl) | (rw [if_neg (by decide +kernel)]; exact ⟨rfl, rfl⟩))
    (fun os started H enc _ F => by rw [OpenClaim.pre_eq_preRow]; exact lifted os started H enc F)

theorem plain (f : FuncId) (fn : Func) (hf : Tryz.pinned.checked.prog.funcNamed "usher/usherlaw14.RecordReadMemory" = some f) (hfn : Tryz.pinned.checked.prog.funcs[f]? = some fn) :
    true = Tryz.pinned.checked.prog.looks [] ∧ ∀ (j : Nat) t, fn.params[j]? = some t → Tryz.pinned.checked.prog.wantsStandIn t = false := by
  obtain rfl : f = 3 := Option.some.inj ((show Tryz.prog.funcNamed "usher/usherlaw14.RecordReadMemory" = some 3 by kernel_rfl).symm.trans hf) |>.symm
  obtain rfl : fn = Tryz.f3 := (Option.some.inj (Tryz.func3.symm.trans hfn)).symm
  refine ⟨by kernel_rfl, fun j t ht => ?_⟩
  rw [Tryz.params3] at ht
  obtain rfl : t = 22 := by simpa using Array.mem_of_getElem? ht
  exact (show Tryz.prog.wantsStandIn 22 = false by kernel_rfl)

/-- THE CARD -/
theorem card : Rows.RecordReadMemoryCardSaid :=
  Claim7.holds_tied_plain_at .later [] _ _ _ _ said (fun _ h => by cases h) (by kernel_rfl) (fun _ h => by cases h) recordReadMemory_row_tie rfl ⟨rfl, rfl⟩ (by kernel_rfl) rfl plain (by kernel_rfl)
end Go.Proofs.YtocpikgcbibcoaaGreatDoor.recordReadMemory
