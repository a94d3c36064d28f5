import Derived.Test.YtpmmbnlfifbcfaaDoorCards
import Derived.Test.YtpmmbnlfifbcfaaDoorTie
import Derived.Test.YtpmmbnlfifbcfaaDoorCommon
import Derived.Test.YtpmmbnlfifbcfaaDoorPkPassL
import Derived.Test.YtpmmbnlfifbcfaaDoorPkOpen
import Derived.Test.YtpmmbnlfifbcfaaDoorWitZip
namespace Go.Proofs.YtpmmbnlfifbcfaaDoor.pkcePassword
open Go.ChangeShapes Go.WideShapes Go.ChangeAt Go.RowKit Go.Joins Go.Proofs.YtpmmbnlfifbcfaaDoor.common
open Go.WideMaps Go.WideElems
open Go.ChangeMaps (open_string shut_string)

theorem own : ownKnob Tryd.prog.godebug = none := by kernel_rfl
theorem laidOut : laidOutB Tryd.prog = true := by kernel_rfl


set_option maxRecDepth 100000 in
theorem contract (H : Type) (enc : TypeId × Value → H) (W : World) (base : Nat) (args : Array Value) (ds gs : List (DataW H)) (before : List MemPlace)
    (hval : ∀ (j : Nat) t v, Tryd.f5.params[j]? = some t → args[j]? = some v → Value.okWide Tryd.prog W .any base t v)
    (hW : DataW.Whole enc Tryd.prog Tryd.f5.params.toList Rows.pkcePasswordSpec.vars false W args.toList ds gs before)
    (hcond : ∀ k, (OpenSpec.ofChange Rows.pkcePasswordSpec).cond = some k → k H (ds ++ gs) = true)
    (hsz : (DataW.weightsEach Tryd.prog (Tryd.f5.params.toList ++ (OpenSpec.ofChange Rows.pkcePasswordSpec).bare.plain.varTypes Tryd.prog) (ds ++ gs)).all (· ≤ reachBytes) = true) (hL : laidMetH Tryd.prog Rows.pkcePasswordRow.laid W) :
    Calls Tryd.prog 5 args W fun e W' => ∃ v, e = .returned v ∧ Rows.pkcePasswordSpec.post enc Tryd.prog Tryd.f5 false true false false W args v W' := by
  refine law_one (t0 := 36) (tb := 4) Tryd.params5 (by kernel_rfl) Tryd.underlying4 laidOut (by kernel_rfl) (of_decide_eq_true (by kernel_rfl)) rfl (fun _ => rfl) hval hW ?_
  intro v0 d0 p0 hv h0 hds hgs hlt
  subst hds hgs
  rw [Tryd.params5] at hsz
  obtain ⟨cs, rfl, hcsz⟩ := okWide_struct Tryd.underlying36 hv
  obtain ⟨c0, c1, c2, c3, rfl⟩ := pk.array4 (hcsz.trans pk.cellsEntry)
  obtain ⟨fuel, hf⟩ := h0
  obtain ⟨z0, z1, z2, n2, hzz, _, s0, s1, s2⟩ := Deep.trod_struct3 Tryd.underlying36 hf
  have s0' : DataW.trod enc Tryd.prog W 0 (fun _ => true) true n2 9 [c0] = some z0 := by rw [← s0]; rfl
  have s1' : DataW.trod enc Tryd.prog W 0 (fun _ => true) true n2 25 [c1, c2] = some z1 := by rw [← s1]; rfl
  have s2' : DataW.trod enc Tryd.prog W 0 (fun _ => true) true n2 3 [c3] = some z2 := by rw [← s2]; rfl
  obtain ⟨u0, u1, n3, huu, _, r0, r1⟩ := trod_struct2 Tryd.underlying25 s1'
  have r0' : DataW.trod enc Tryd.prog W 0 (fun _ => true) true n3 9 [c1] = some u0 := by rw [← r0]; rfl
  have r1' : DataW.trod enc Tryd.prog W 0 (fun _ => true) true n3 9 [c2] = some u1 := by rw [← r1]; rfl
  obtain ⟨p, e0, rfl, _⟩ := DataW.trod_string Tryd.underlying9 s0'
  obtain ⟨a, e1, rfl, _⟩ := DataW.trod_string Tryd.underlying9 r0'
  obtain ⟨b, e2, rfl, _⟩ := DataW.trod_string Tryd.underlying9 r1'
  obtain ⟨n, e3, rfl, _⟩ := DataW.trod_int Tryd.underlying3 s2'
  simp at e0 e1 e2 e3
  subst e0 e1 e2 e3
  subst huu
  obtain ⟨rfl, _⟩ := Prod.mk.inj hzz
  have hz : p.size ≤ reachBytes ∧ a.size ≤ reachBytes ∧ b.size ≤ reachBytes := by
    simp [DataW.weightsEach, DataW.weights, Tryd.underlying36, Tryd.underlying25] at hsz
    exact ⟨by simpa using hsz.1, by simpa using hsz.2.1, by simpa using hsz.2.2⟩
  have hL' : laidMet Tryd.prog Rows.pkcePasswordRow.laid W := hL
  obtain ⟨a0, he⟩ := pk.arg_of_laid hL'
  have ht := refw.tabs (laidMet.tail hL')
  clear hcond hsz hval hW hL hL' hv hcsz s0 s1 s2 s0' s1' s2' hf hlt
  exact pk.lawPassword p a b n W hz.1 hz.2.1 hz.2.2 ht a0 he


theorem laid_met (os : Os) : laidMet Tryd.prog Rows.pkcePasswordRow.laid ((World.laidAll Tryd.prog os Rows.pkcePasswordRow.laid).forCall (fun _ _ => 0) ⟨#[], #[.agg #[.string ByteArray.empty, .string ByteArray.empty, .string ByteArray.empty, .int .i64 0]], []⟩).memory :=
  laidMet_laidAll _ (by kernel_rfl) (by kernel_rfl)
theorem reads (os : Os) {H : Type} (enc : TypeId × Value → H) : ∃ places, DataW.whole enc Tryd.prog ((World.laidAll Tryd.prog os Rows.pkcePasswordRow.laid).forCall (fun _ _ => 0) ⟨#[], #[.agg #[.string ByteArray.empty, .string ByteArray.empty, .string ByteArray.empty, .int .i64 0]], []⟩).memory Tryd.f5.params.toList Rows.pkcePasswordSpec.vars false #[.agg #[.string ByteArray.empty, .string ByteArray.empty, .string ByteArray.empty, .int .i64 0]].toList 8 = some ([.agg [.lit (.string []), .agg [.lit (.string []), .lit (.string [])], .lit (.int .i64 0)]], [], places) :=
  ⟨[], by kernel_rfl⟩

set_option maxRecDepth 100000 in
theorem lifted (os : Os) (started : os.Started) (H : Type) (enc : TypeId × Value → H) (F : Stop.Interp) :
    ReturnsInHanded {} Tryd.checked os 5 .any ((OpenSpec.ofChange Rows.pkcePasswordSpec).preRow enc Tryd.prog Tryd.f5 Rows.pkcePasswordRow.domain false Rows.pkcePasswordRow.laid) (((OpenSpec.ofChange Rows.pkcePasswordSpec).at F).post enc Tryd.prog Tryd.f5 false true false false) := by
  obtain ⟨places, hx⟩ := reads os enc
  refine returnsInHanded_of_row (C := Tryd.checked) (s := OpenSpec.ofChange Rows.pkcePasswordSpec) own started (by kernel_rfl) Tryd.func5
    (fd.witness_row_zip (enc := enc) (C := Tryd.checked) false (World.laidAll Tryd.prog os Rows.pkcePasswordRow.laid) #[.agg #[.string ByteArray.empty, .string ByteArray.empty, .string ByteArray.empty, .int .i64 0]] (World.laidAll_os _ _ _) (by kernel_rfl) (by kernel_rfl) (by kernel_rfl)
      (OpenSpec.preRow_of_cond 8 hx (by kernel_rfl) (fun k hk => by cases hk) (by kernel_rfl) (laid_met os))) ?_
  intro W base args ds gs before hval hW _ hc hs hL _ _
  exact contract H enc W base args ds gs before hval hW hc hs hL

theorem said : Rows.PkcePasswordSaid :=
  OpenClaim.holds_of_cond 5 Tryd.f5 rfl rfl rfl rfl rfl rfl rfl ⟨rfl, rfl, rfl, rfl, rfl⟩ rfl rfl rfl rfl rfl (by kernel_rfl) Tryd.func5 (by kernel_rfl)
    (of_decide_eq_true (by kernel_rfl)) (by unfold Func.isWrapper; first | (rw [if_pos (by decide +kernel)]; kernel_rfl) | (rw [if_neg (by decide +kernel)]; exact ⟨rfl, rfl⟩))
    (fun os started H enc _ F => by rw [OpenClaim.pre_eq_preRow]; exact lifted os started H enc F)

theorem plain (f : FuncId) (fn : Func) (hf : Tryd.pinned.checked.prog.funcNamed "usher/usherlaw10.PkcePassword" = some f) (hfn : Tryd.pinned.checked.prog.funcs[f]? = some fn) :
    true = Tryd.pinned.checked.prog.looks [] ∧ ∀ (j : Nat) t, fn.params[j]? = some t → Tryd.pinned.checked.prog.wantsStandIn t = false := by
  obtain rfl : f = 5 := Option.some.inj ((show Tryd.prog.funcNamed "usher/usherlaw10.PkcePassword" = some 5 by kernel_rfl).symm.trans hf) |>.symm
  obtain rfl : fn = Tryd.f5 := (Option.some.inj (Tryd.func5.symm.trans hfn)).symm
  refine ⟨by kernel_rfl, fun j t ht => ?_⟩
  rw [Tryd.params5] at ht
  obtain rfl : t = 36 := by simpa using Array.mem_of_getElem? ht
  exact (show Tryd.prog.wantsStandIn 36 = false by kernel_rfl)

/-- THE CARD -/
theorem card : Rows.PkcePasswordCardSaid :=
  Claim7.holds_tied_plain_at .later [] _ _ _ _ said (fun _ h => by cases h) (by kernel_rfl) (fun _ h => by cases h) pkcePassword_row_tie rfl ⟨rfl, rfl⟩ (by kernel_rfl) rfl plain (by kernel_rfl)
end Go.Proofs.YtpmmbnlfifbcfaaDoor.pkcePassword
