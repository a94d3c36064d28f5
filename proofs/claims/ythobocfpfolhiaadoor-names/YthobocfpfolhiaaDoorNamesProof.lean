import Derived.Test.YthobocfpfolhiaaDoorCards
import Derived.Test.YthobocfpfolhiaaDoorTie
import Derived.Test.YthobocfpfolhiaaDoorCommon
import Derived.Test.YthobocfpfolhiaaDoorNamesWalks
import Derived.LaidMore
import Derived.Deep.DeepWitnessRowRef
namespace Go.Proofs.YthobocfpfolhiaaDoor.names
open Go.ChangeShapes Go.WideShapes Go.ChangeAt Go.RowKit Go.Joins Go.Proofs.YthobocfpfolhiaaDoor.common
open Go.WideMaps Go.WideElems
open Go.ChangeMaps (open_string shut_string)

theorem own : ownKnob Tryd.prog.godebug = none := by kernel_rfl
theorem laidOut : laidOutB Tryd.prog = true := by kernel_rfl

theorem g_limits : Tryd.prog.globalNamed "usher/usherlaw0.limits" = some 0 := by kernel_rfl
theorem ty_limits : (Tryd.prog.globals[0]?).map (·.type) = some 39 := by kernel_rfl
theorem g_wanted : Tryd.prog.globalNamed "usher/usherlaw0.wanted" = some 1 := by kernel_rfl
theorem ty_wanted : (Tryd.prog.globals[1]?).map (·.type) = some 39 := by kernel_rfl
theorem g_kinds : Tryd.prog.globalNamed "usher/usherlaw0.kinds" = some 2 := by kernel_rfl
theorem ty_kinds : (Tryd.prog.globals[2]?).map (·.type) = some 40 := by kernel_rfl
theorem g_numbers : Tryd.prog.globalNamed "usher/usherlaw0.numbers" = some 3 := by kernel_rfl
theorem ty_numbers : (Tryd.prog.globals[3]?).map (·.type) = some 40 := by kernel_rfl
theorem g_words : Tryd.prog.globalNamed "usher/usherlaw0.words" = some 4 := by kernel_rfl
theorem ty_words : (Tryd.prog.globals[4]?).map (·.type) = some 41 := by kernel_rfl
theorem g_spelt : Tryd.prog.globalNamed "usher/usherlaw0.spelt" = some 5 := by kernel_rfl
theorem ty_spelt : (Tryd.prog.globals[5]?).map (·.type) = some 41 := by kernel_rfl
theorem cInt : Tryd.prog.cellsOf 3 = 1 := by kernel_rfl
theorem cStr : Tryd.prog.cellsOf 9 = 1 := by kernel_rfl
theorem c32 : Tryd.prog.cellsOf 39 = 32 := by kernel_rfl
theorem c34 : Tryd.prog.cellsOf 40 = 34 := by kernel_rfl
theorem c13 : Tryd.prog.cellsOf 41 = 13 := by kernel_rfl
def lim : List Int := [1000, 1000, 32, 32, 16, 64, 64, 32, 16, 512, 512, 8, 64, 64, 64, 1073741824, 1073741824, 65536, 65536, 1048576, 262144, 32, 1024, 43, 4, 8192, 8, 16, 1099511627776, 10, 256, 253402300799]
def kin : List Int := [1, 2, 3, 1, 2, 3, 4, 1, 2, 3, 4, 5, 6, 7, 8, 9, 10, 11, 1, 2, 3, 4, 5, 6, 1, 2, 3, 4, 5, 6, 0, 1, 2, 3]
def wor : List (List UInt8) := [[105, 110, 118, 97, 108, 105, 100, 95, 114, 101, 113, 117, 101, 115, 116], [105, 110, 118, 97, 108, 105, 100, 95, 99, 108, 105, 101, 110, 116], [105, 110, 118, 97, 108, 105, 100, 95, 103, 114, 97, 110, 116], [105, 110, 118, 97, 108, 105, 100, 95, 115, 99, 111, 112, 101], [117, 110, 97, 117, 116, 104, 111, 114, 105, 122, 101, 100, 95, 99, 108, 105, 101, 110, 116], [117, 110, 115, 117, 112, 112, 111, 114, 116, 101, 100, 95, 103, 114, 97, 110, 116, 95, 116, 121, 112, 101], [117, 110, 115, 117, 112, 112, 111, 114, 116, 101, 100, 95, 114, 101, 115, 112, 111, 110, 115, 101, 95, 116, 121, 112, 101], [97, 99, 99, 101, 115, 115, 95, 100, 101, 110, 105, 101, 100], [115, 101, 114, 118, 101, 114, 95, 101, 114, 114, 111, 114], [116, 101, 109, 112, 111, 114, 97, 114, 105, 108, 121, 95, 117, 110, 97, 118, 97, 105, 108, 97, 98, 108, 101], [111, 102, 102, 108, 105, 110, 101, 95, 97, 99, 99, 101, 115, 115], [105, 110, 118, 97, 108, 105, 100, 95, 116, 111, 107, 101, 110], [105, 110, 115, 117, 102, 102, 105, 99, 105, 101, 110, 116, 95, 115, 99, 111, 112, 101]]

theorem rest6 {W : World} (h : laidMet Tryd.prog Rows.namesRow.laid W) : laidMet Tryd.prog [("usher/usherlaw0.limits", Rows.laid_usher_usherlaw0_limits), ("usher/usherlaw0.wanted", Rows.laid_usher_usherlaw0_wanted), ("usher/usherlaw0.kinds", Rows.laid_usher_usherlaw0_kinds), ("usher/usherlaw0.numbers", Rows.laid_usher_usherlaw0_numbers), ("usher/usherlaw0.words", Rows.laid_usher_usherlaw0_words), ("usher/usherlaw0.spelt", Rows.laid_usher_usherlaw0_spelt)] W :=
  h.tail.tail.tail.tail.tail.tail.tail.tail.tail.tail.tail.tail.tail

theorem tables {W : World} (h : laidMet Tryd.prog Rows.namesRow.laid W) :
    namesw.Same W 0 1 32 (fun k => .int .i64 (lim.getD k 0)) ∧ namesw.Same W 2 3 34 (fun k => .int .i64 (kin.getD k 0)) ∧
      namesw.Same W 4 5 13 (fun k => .string ⟨(wor.getD k []).toArray⟩) := by
  have r0 := rest6 h
  have a0 : Lib.TabIs Tryd.prog W "usher/usherlaw0.limits" .i64 lim := Lib.tabIs_of_head g_limits ty_limits Tryd.underlying39 Tryd.underlying3 cInt c32 r0
  have a1 : Lib.TabIs Tryd.prog W "usher/usherlaw0.wanted" .i64 lim := Lib.tabIs_of_head g_wanted ty_wanted Tryd.underlying39 Tryd.underlying3 cInt c32 r0.tail
  have a2 : Lib.TabIs Tryd.prog W "usher/usherlaw0.kinds" .i64 kin := Lib.tabIs_of_head g_kinds ty_kinds Tryd.underlying40 Tryd.underlying3 cInt c34 r0.tail.tail
  have a3 : Lib.TabIs Tryd.prog W "usher/usherlaw0.numbers" .i64 kin := Lib.tabIs_of_head g_numbers ty_numbers Tryd.underlying40 Tryd.underlying3 cInt c34 r0.tail.tail.tail
  have a4 := strTab (txts := wor) g_words ty_words Tryd.underlying41 Tryd.underlying9 cStr c13 r0.tail.tail.tail.tail
  have a5 := strTab (txts := wor) g_spelt ty_spelt Tryd.underlying41 Tryd.underlying9 cStr c13 r0.tail.tail.tail.tail.tail
  exact ⟨fun k hk => ⟨a0.cell g_limits k hk, a1.cell g_wanted k hk⟩, fun k hk => ⟨a2.cell g_kinds k hk, a3.cell g_numbers k hk⟩, fun k hk => ⟨a4 k hk, a5 k hk⟩⟩

theorem contract (H : Type) (enc : TypeId × Value → H) (W : World) (args : Array Value) (ds gs : List (DataW H)) (before : List MemPlace)
    (hW : DataW.Whole enc Tryd.prog Tryd.f7.params.toList Rows.namesSpec.vars false W args.toList ds gs before)
    (_hcond : ∀ k, (OpenSpec.ofChange Rows.namesSpec).cond = some k → k H (ds ++ gs) = true)
    (_hsz : (DataW.weightsEach Tryd.prog (Tryd.f7.params.toList ++ (OpenSpec.ofChange Rows.namesSpec).bare.plain.varTypes Tryd.prog) (ds ++ gs)).all (· ≤ reachBytes) = true) (hL : laidMetH Tryd.prog Rows.namesRow.laid W) :
    Calls Tryd.prog 7 args W fun e W' => ∃ v, e = .returned v ∧ Rows.namesSpec.post enc Tryd.prog Tryd.f7 false true false false W args v W' := by
  refine law_zero (tb := 4) Tryd.params7 (by kernel_rfl) Tryd.underlying4 rfl rfl hW ?_
  have hL' : laidMet Tryd.prog Rows.namesRow.laid W := hL
  obtain ⟨e, he⟩ := errw.errs_of_laid (rest := [("usher/usherlaw0.limits", Rows.laid_usher_usherlaw0_limits), ("usher/usherlaw0.wanted", Rows.laid_usher_usherlaw0_wanted), ("usher/usherlaw0.kinds", Rows.laid_usher_usherlaw0_kinds), ("usher/usherlaw0.numbers", Rows.laid_usher_usherlaw0_numbers), ("usher/usherlaw0.words", Rows.laid_usher_usherlaw0_words), ("usher/usherlaw0.spelt", Rows.laid_usher_usherlaw0_spelt)]) hL'
  obtain ⟨h1, h2, h3⟩ := tables hL'
  clear hL hL' hW
  exact namesw.lawNames W e he _ _ _ h1 h2 h3


theorem laid_met (os : Os) : laidMet Tryd.prog Rows.namesRow.laid ((World.doorLaid Tryd.prog 301 os).forCall (fun _ _ => 0) ⟨#[], #[], []⟩).memory :=
  laidMet_of_run' 8 (by kernel_rfl) (by kernel_rfl)
theorem reads (os : Os) {H : Type} (enc : TypeId × Value → H) : ∃ places, DataW.whole enc Tryd.prog ((World.doorLaid Tryd.prog 301 os).forCall (fun _ _ => 0) ⟨#[], #[], []⟩).memory Tryd.f7.params.toList Rows.namesSpec.vars false #[].toList 8 = some ([], [], places) :=
  ⟨[], by kernel_rfl⟩

set_option maxRecDepth 100000 in
theorem lifted (os : Os) (started : os.Started) (H : Type) (enc : TypeId × Value → H) (F : Stop.Interp) :
    ReturnsInHanded {} Tryd.checked os 7 .any ((OpenSpec.ofChange Rows.namesSpec).preRow enc Tryd.prog Tryd.f7 Rows.namesRow.domain false Rows.namesRow.laid) (((OpenSpec.ofChange Rows.namesSpec).at F).post enc Tryd.prog Tryd.f7 false true false false) := by
  obtain ⟨places, hx⟩ := reads os enc
  refine returnsInHanded_of_row (C := Tryd.checked) (s := OpenSpec.ofChange Rows.namesSpec) own started (by kernel_rfl) Tryd.func7
    (witness_row_atRef (enc := enc) (C := Tryd.checked) false (World.doorLaid Tryd.prog 301 os) #[] rfl (by kernel_rfl) (by kernel_rfl) (by kernel_rfl)
      (OpenSpec.preRow_of_cond 8 hx (by kernel_rfl) (fun k hk => by cases hk) (by kernel_rfl) (laid_met os))) ?_
  intro W base args ds gs before hval hW _ hc hs hL _ _
  exact contract H enc W args ds gs before hW hc hs hL

theorem said : Rows.NamesSaid :=
  OpenClaim.holds_of_cond 7 Tryd.f7 rfl rfl rfl rfl rfl rfl rfl ⟨rfl, rfl, rfl, rfl, rfl⟩ rfl rfl rfl rfl rfl (by kernel_rfl) Tryd.func7 (by kernel_rfl)
    (of_decide_eq_true (by kernel_rfl)) (by unfold Func.isWrapper; first | (rw [if_pos (by decide +kernel)]; kernel_rfl) | (rw [if_neg (by decide +kernel)]; exact ⟨rfl, rfl⟩))
    (fun os started H enc _ F => by rw [OpenClaim.pre_eq_preRow]; exact lifted os started H enc F)

theorem plain (f : FuncId) (fn : Func) (hf : Tryd.pinned.checked.prog.funcNamed "usher/usherlaw0.Names" = some f) (hfn : Tryd.pinned.checked.prog.funcs[f]? = some fn) :
    true = Tryd.pinned.checked.prog.looks [] ∧ ∀ (j : Nat) t, fn.params[j]? = some t → Tryd.pinned.checked.prog.wantsStandIn t = false := by
  obtain rfl : f = 7 := Option.some.inj ((show Tryd.prog.funcNamed "usher/usherlaw0.Names" = some 7 by kernel_rfl).symm.trans hf) |>.symm
  obtain rfl : fn = Tryd.f7 := (Option.some.inj (Tryd.func7.symm.trans hfn)).symm
  refine ⟨by kernel_rfl, fun j t ht => ?_⟩
  rw [Tryd.params7] at ht
  simp at ht

/-- THE CARD -/
theorem card : Rows.NamesCardSaid :=
  Claim7.holds_tied_plain_at .later [] _ _ _ _ said (fun _ h => by cases h) (by kernel_rfl) (fun _ h => by cases h) names_row_tie rfl ⟨rfl, rfl⟩ (by kernel_rfl) rfl plain (by kernel_rfl)
end Go.Proofs.YthobocfpfolhiaaDoor.names
