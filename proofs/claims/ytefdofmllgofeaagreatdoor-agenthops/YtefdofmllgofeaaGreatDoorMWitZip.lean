import Derived.Test.YtefdofmllgofeaaGreatDoorMAgHops
import Derived.Test.YtefdofmllgofeaaGreatDoorMStrOpen
import Derived.Test.YtefdofmllgofeaaGreatDoorMSetEnv
import Derived.LaidMore
import Derived.Test.YtefdofmllgofeaaGreatDoorMRanges
import Derived.Lay
import Derived.Deep.DeepWitnessRowRef
namespace Go.Proofs.YtefdofmllgofeaaGreatDoor.ag
open Go.ChangeShapes Go.WideShapes Go.ChangeAt Go.RowKit Go.Joins Go.Deep Go.WideElems Go.Maps Go.Proofs.YtefdofmllgofeaaGreatDoor.common

theorem bytesInt : Tryz.prog.bytesOf 3 = 8 := by kernel_rfl
theorem cellsInt : Tryz.prog.cellsOf 3 = 1 := by kernel_rfl
theorem cellsHop : Tryz.prog.cellsOf 25 = 3 := by kernel_rfl
set_option maxRecDepth 100000 in
/-- a list of whole numbers as an argument -/
theorem ints_of {H : Type} {enc : TypeId × Value → H} {W : World} {fuel : Nat} {v : Value} {d : DataW H} {pl : List MemPlace}
    (h : DataW.trod enc Tryz.prog W 0 (fun _ => true) true fuel 23 [v] = some (d, pl)) (hsz : (d.weights Tryz.prog 23).all (· ≤ reachBytes) = true) : ∃ l, LiesI W v l ∧ l.length ≤ 4611686018427387904 := by
  rcases Deep.open_slice Tryz.underlying23 h with ⟨hcs, hx⟩ | ⟨a, len, cap, m, n, D, Pl, hcs, hb, hl, hm, hmm, hx, hall⟩
  · obtain rfl : v = .slice none 0 0 := by simpa using hcs
    exact ⟨[], ⟨none, 0, rfl, fun i hi => absurd hi (Nat.not_lt_zero _)⟩, by decide⟩
  · obtain rfl : v = .slice (some a) len cap := by simpa using hcs
    have hd : d = .slice ((List.range len).map D) ((List.range (m - len)).map fun j => D (len + j)) := (Prod.mk.inj hx).1
    subst hd
    simp only [DataW.weights, Tryz.underlying23, List.all_cons, List.all_append, Bool.and_eq_true] at hsz
    have hl9 : len ≤ 4611686018427387904 := by
      have h1 := hsz.1
      rw [bytesInt] at h1
      simp at h1
      unfold reachBytes at h1
      omega
    have each : ∀ i, ∃ k : Int, i < len → ∃ b o, a = ⟨b, o, none⟩ ∧ b < W.heap.size ∧ W.cell? ⟨b, o + i, none⟩ = some (.int .i64 k) := by
      intro i
      by_cases hi : i < len
      · obtain ⟨cs', h1, h2⟩ := hall i (by rw [hmm]; simp; omega)
        rw [cellsInt] at h1
        obtain ⟨_, hlen, hcell⟩ := World.cells?_some h1
        match cs', hlen with
        | [v0], _ =>
          obtain ⟨k, ek, _, _⟩ := DataW.trod_int Tryz.underlying3 h2
          simp at ek
          subst ek
          have c0 := hcell 0 (by decide)
          have hsp : a.spot = none := by
            obtain ⟨cs0, g1, _⟩ := hall 0 (by rw [hmm]; simp; omega)
            rw [cellsInt] at g1
            obtain ⟨_, hlen0, hcell0⟩ := World.cells?_some g1
            have g2 := hcell0 0 (by decide)
            rw [List.getElem?_eq_getElem (by omega)] at g2
            have := World.cell?_spot g2
            simpa [Addr.add] using this
          obtain ⟨b, o, sp⟩ := a
          obtain rfl : sp = none := hsp
          have hcl : W.cell? ⟨b, o + i, none⟩ = some (.int .i64 k) := by
            have := c0
            rw [Addr.add_mid, Addr.add_mid] at this
            simpa using this
          exact ⟨k, fun _ => ⟨b, o, rfl, World.block_lt_of_cell? W _ hcl, hcl⟩⟩
      · exact ⟨0, fun h => absurd h hi⟩
    obtain ⟨f, hf⟩ := Classical.axiomOfChoice each
    have hlen : ((List.range len).map f).length = len := by simp
    refine ⟨(List.range len).map f, ⟨some a, cap, by rw [hlen], fun i hi => ?_⟩, by rw [hlen]; exact hl9⟩
    rw [hlen] at hi
    obtain ⟨b, o, rfl, h2, h3⟩ := hf i hi
    exact ⟨b, o, rfl, h2, by simpa using h3⟩
end Go.Proofs.YtefdofmllgofeaaGreatDoor.ag

namespace Go.Proofs.YtefdofmllgofeaaGreatDoor.fd
open Go
section
variable {H : Type} {enc : TypeId × Value → H}
/-- there is an input that fits, at a world whose shape is told in one pass -/
theorem witness_row_zip {C : Checked} {os : Os} {f : FuncId} {fn : Func} {s : OpenSpec} {conds : List PathCond} {apart : Bool} {laid : List (String × DataW Unit)} (modest : Bool) (w0 : World) (args : Array Value) (hos : w0.os = os)
    (hv : (w0.forCall (fun _ _ => 0) ⟨#[], args, []⟩).variablesZipB C.prog = true)
    (hr : ((w0.forCall (fun _ _ => 0) ⟨#[], args, []⟩).heap.toList.drop C.prog.globals.size).take ((begin C.prog (fun _ _ => 0) default).world.heap.size - C.prog.globals.size) =
      (begin C.prog (fun _ _ => 0) default).world.heap.toList.drop C.prog.globals.size)
    (hok : Input.okWideB C.prog (w0.forCall (fun _ _ => 0) ⟨#[], args, []⟩) f ⟨#[], args, []⟩ = true)
    (hrow : s.preRow enc C.prog fn conds apart laid (w0.forCall (fun _ _ => 0) ⟨#[], args, []⟩).memory args) :
    ∃ (w : World) (tape : Tape) (i : Input), w.os = os ∧ (w.forCall tape i).Shaped C.prog ∧ i.vars = [] ∧ Input.okWide C.prog (w.forCall tape i) .any w.heap.size f i ∧
      s.preRow enc C.prog fn conds apart laid (w.forCall tape i).memory i.args ∧ ({ modest := modest } : Assume).holds C.prog (lone (Frame.enter C.prog f i.args .normal) [] (w.forCall tape i)) :=
  ⟨w0, fun _ _ => 0, ⟨#[], args, []⟩, hos, World.shaped_of_ZipB hv hr, (Input.okWide_of_okWideB (base := 0) hok).1, (Input.okWide_of_okWideB hok).2, hrow, by
    simp only [Assume.holds]
    exact ⟨by simp, by simp, fun _ => Modest.zero, by simp, by simp⟩⟩
end
end Go.Proofs.YtefdofmllgofeaaGreatDoor.fd
