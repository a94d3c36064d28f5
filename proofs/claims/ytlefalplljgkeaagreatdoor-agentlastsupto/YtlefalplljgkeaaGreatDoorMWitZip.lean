import Derived.Test.YtlefalplljgkeaaGreatDoorMAgLasts
import Derived.OpenShut
import Derived.Deep.DeepHandedRow
import Derived.Test.YtlefalplljgkeaaGreatDoorMSetEnv
import Derived.LaidMore
import Derived.Test.YtlefalplljgkeaaGreatDoorMRanges
import Derived.Lay
import Derived.Deep.DeepWitnessRowRef
namespace Go.Proofs.YtlefalplljgkeaaGreatDoor.ag
open Go.ChangeShapes Go.WideShapes Go.ChangeAt Go.RowKit Go.Joins Go.Deep Go.WideElems Go.Maps Go.Proofs.YtlefalplljgkeaaGreatDoor.common

theorem bytesInt : Tryz.prog.bytesOf 3 = 8 := by kernel_rfl
theorem cellsInt : Tryz.prog.cellsOf 3 = 1 := by kernel_rfl
theorem txG : Tryz.prog.globalNamed "usher/api.ErrText" = some 0 := by kernel_rfl
theorem txT : (Tryz.prog.globals[0]?).map (·.type) = some 32 := by kernel_rfl
theorem mnG : Tryz.prog.globalNamed "usher/api.ErrMany" = some 1 := by kernel_rfl
theorem mnT : (Tryz.prog.globals[1]?).map (·.type) = some 32 := by kernel_rfl
theorem loG : Tryz.prog.globalNamed "usher/api.ErrLost" = some 2 := by kernel_rfl
theorem loT : (Tryz.prog.globals[2]?).map (·.type) = some 32 := by kernel_rfl
theorem cellsBaked : Tryz.prog.cellsOf 24 = 6 := by kernel_rfl
set_option maxRecDepth 100000 in
/-- a list of whole numbers as an argument -/
theorem ints_of {H : Type} {enc : TypeId × Value → H} {W : World} {fuel : Nat} {v : Value} {d : DataW H} {pl : List MemPlace}
    (h : DataW.trod enc Tryz.prog W 0 (fun _ => true) true fuel 22 [v] = some (d, pl)) (hsz : (d.weights Tryz.prog 22).all (· ≤ reachBytes) = true) : ∃ l, LiesI W v l ∧ l.length ≤ 4611686018427387904 ∧ ∀ x ∈ l, x ≤ 9223372036854775807 := by
  rcases Deep.open_slice Tryz.underlying22 h with ⟨hcs, hx⟩ | ⟨a, len, cap, m, n, D, Pl, hcs, hb, hl, hm, hmm, hx, hall⟩
  · obtain rfl : v = .slice none 0 0 := by simpa using hcs
    exact ⟨[], ⟨none, 0, rfl, fun i hi => absurd hi (Nat.not_lt_zero _)⟩, by decide, fun x hx => absurd hx (by simp)⟩
  · obtain rfl : v = .slice (some a) len cap := by simpa using hcs
    have hd : d = .slice ((List.range len).map D) ((List.range (m - len)).map fun j => D (len + j)) := (Prod.mk.inj hx).1
    subst hd
    simp only [DataW.weights, Tryz.underlying22, List.all_cons, List.all_append, Bool.and_eq_true] at hsz
    have hl9 : len ≤ 4611686018427387904 := by
      have h1 := hsz.1
      rw [bytesInt] at h1
      simp at h1
      unfold reachBytes at h1
      omega
    have each : ∀ i, ∃ k : Int, i < len → k ≤ 9223372036854775807 ∧ ∃ b o, a = ⟨b, o, none⟩ ∧ b < W.heap.size ∧ W.cell? ⟨b, o + i, none⟩ = some (.int .i64 k) := by
      intro i
      by_cases hi : i < len
      · obtain ⟨cs', h1, h2⟩ := hall i (by rw [hmm]; simp; omega)
        rw [cellsInt] at h1
        obtain ⟨_, hlen, hcell⟩ := World.cells?_some h1
        match cs', hlen with
        | [v0], _ =>
          obtain ⟨k, ek, _, wk⟩ := DataW.trod_int Tryz.underlying3 h2
          simp at ek
          subst ek
          have c0 := hcell 0 (by decide)
          have hsp : a.spot = none := by
            obtain ⟨cs0, g1, _⟩ := hall 0 (by rw [hmm]; simp; omega)
            rw [cellsInt] at g1
            obtain ⟨_, hlen0, hcell0⟩ := World.cells?_some g1
            have g2 := hcell0 0 (by decide)
            rw [List.getElem?_eq_getElem (by omega)] at g2
            have := World.cell?_spot g2
            simpa [Addr.add] using this
          obtain ⟨b, o, sp⟩ := a
          obtain rfl : sp = none := hsp
          have hcl : W.cell? ⟨b, o + i, none⟩ = some (.int .i64 k) := by
            have := c0
            rw [Addr.add_mid, Addr.add_mid] at this
            simpa using this
          exact ⟨k, fun _ => ⟨(bounds_i64 wk).2, b, o, rfl, World.block_lt_of_cell? W _ hcl, hcl⟩⟩
      · exact ⟨0, fun h => absurd h hi⟩
    obtain ⟨f, hf⟩ := Classical.axiomOfChoice each
    have hlen : ((List.range len).map f).length = len := by simp
    refine ⟨(List.range len).map f, ⟨some a, cap, by rw [hlen], fun i hi => ?_⟩, by rw [hlen]; exact hl9, fun x hx => ?_⟩
    rotate_left
    · obtain ⟨i, hi, rfl⟩ := List.mem_map.1 hx
      exact (hf i (List.mem_range.1 hi)).1
    rw [hlen] at hi
    obtain ⟨_, b, o, rfl, h2, h3⟩ := hf i hi
    exact ⟨b, o, rfl, h2, by simpa using h3⟩

set_option maxRecDepth 100000 in
/-- a cookie's story as an argument -/
theorem baked_of {H : Type} {enc : TypeId × Value → H} {W : World} {fuel : Nat} {q0 q1 q2 q3 q4 q5 : Value} {d : DataW H} {pl : List MemPlace}
    (h : DataW.trod enc Tryz.prog W 0 (fun _ => true) true fuel 24 [q0, q1, q2, q3, q4, q5] = some (d, pl)) (hw : (d.weights Tryz.prog 24).all (· ≤ reachBytes) = true) (hB : Rows.uptoBulk d ≤ 1048576) :
    ∃ (nm vl : ByteArray) (age at0 wt0 : Int) (lB : List Int), q0 = .string nm ∧ q1 = .string vl ∧ q2 = .int .i64 age ∧ q3 = .int .i64 at0 ∧ q4 = .int .i64 wt0 ∧ LiesI W q5 lB ∧ lB.length ≤ 4611686018427387904 ∧ (∀ x ∈ lB, x ≤ 9223372036854775807) ∧ age ≤ 9223372036854775807 ∧ nm.size ≤ 1048576 ∧ vl.size ≤ 1048576 := by
  obtain ⟨xs, n, _, hx, hl, hlen, hf⟩ := DataW.trod_struct Tryz.underlying24 h
  match xs, hlen with
  | [y0, y1, y2, y3, y4, y5], _ =>
    have g0 : DataW.trod enc Tryz.prog W 0 (fun _ => true) true n 9 [q0] = some y0 := by have := hf 0 _ rfl; simp only [List.getElem?_cons_zero] at this; rw [← this]; rfl
    have g1 : DataW.trod enc Tryz.prog W 0 (fun _ => true) true n 9 [q1] = some y1 := by have := hf 1 _ rfl; simp only [List.getElem?_cons_zero, List.getElem?_cons_succ] at this; rw [← this]; rfl
    have g2 : DataW.trod enc Tryz.prog W 0 (fun _ => true) true n 3 [q2] = some y2 := by have := hf 2 _ rfl; simp only [List.getElem?_cons_zero, List.getElem?_cons_succ] at this; rw [← this]; rfl
    have g3 : DataW.trod enc Tryz.prog W 0 (fun _ => true) true n 3 [q3] = some y3 := by have := hf 3 _ rfl; simp only [List.getElem?_cons_zero, List.getElem?_cons_succ] at this; rw [← this]; rfl
    have g4 : DataW.trod enc Tryz.prog W 0 (fun _ => true) true n 3 [q4] = some y4 := by have := hf 4 _ rfl; simp only [List.getElem?_cons_zero, List.getElem?_cons_succ] at this; rw [← this]; rfl
    have g5 : DataW.trod enc Tryz.prog W 0 (fun _ => true) true n 22 [q5] = some y5 := by have := hf 5 _ rfl; simp only [List.getElem?_cons_zero, List.getElem?_cons_succ] at this; rw [← this]; rfl
    obtain ⟨s0, e0, rfl, _⟩ := DataW.trod_string Tryz.underlying9 g0
    simp at e0
    subst e0
    obtain ⟨s1, e1, rfl, _⟩ := DataW.trod_string Tryz.underlying9 g1
    simp at e1
    subst e1
    obtain ⟨x2, e2, rfl, w2⟩ := DataW.trod_int Tryz.underlying3 g2
    simp at e2
    subst e2
    obtain ⟨x3, e3, rfl, _⟩ := DataW.trod_int Tryz.underlying3 g3
    simp at e3
    subst e3
    obtain ⟨x4, e4, rfl, _⟩ := DataW.trod_int Tryz.underlying3 g4
    simp at e4
    subst e4
    obtain ⟨d5, p5⟩ := y5
    have hd : d = .agg [.lit (.string s0.data.toList), .lit (.string s1.data.toList), .lit (.int .i64 x2), .lit (.int .i64 x3), .lit (.int .i64 x4), d5] := by
      have := (Prod.mk.inj hx).1
      simpa using this
    subst hd
    have hw5 : (d5.weights Tryz.prog 22).all (· ≤ reachBytes) = true := by
      simp only [DataW.weights, Tryz.underlying24] at hw
      rw [List.all_eq_true] at hw ⊢
      intro x hx
      refine hw x ?_
      simp [DataW.weightsEach, hx]
    obtain ⟨l, hL, hl1, hl2⟩ := ints_of g5 hw5
    have z0 : s0.data.toList.length = s0.size := by simp
    have z1 : s1.data.toList.length = s1.size := by simp
    simp only [Rows.uptoBulk, Rows.uptoBulkAll] at hB
    exact ⟨s0, s1, x2, x3, x4, l, rfl, rfl, rfl, rfl, rfl, hL, hl1, hl2, (bounds_i64 w2).2, by omega, by omega⟩
end Go.Proofs.YtlefalplljgkeaaGreatDoor.ag

namespace Go.Proofs.YtlefalplljgkeaaGreatDoor.fd
open Go
section
variable {H : Type} {enc : TypeId × Value → H}
/-- there is an input that fits, at a world whose shape is told in one pass -/
theorem witness_row_zip {C : Checked} {os : Os} {f : FuncId} {fn : Func} {s : OpenSpec} {conds : List PathCond} {apart : Bool} {laid : List (String × DataW Unit)} (modest : Bool) (w0 : World) (args : Array Value) (hos : w0.os = os)
    (hv : (w0.forCall (fun _ _ => 0) ⟨#[], args, []⟩).variablesZipB C.prog = true)
    (hr : ((w0.forCall (fun _ _ => 0) ⟨#[], args, []⟩).heap.toList.drop C.prog.globals.size).take ((begin C.prog (fun _ _ => 0) default).world.heap.size - C.prog.globals.size) =
      (begin C.prog (fun _ _ => 0) default).world.heap.toList.drop C.prog.globals.size)
    (hok : Input.okWideB C.prog (w0.forCall (fun _ _ => 0) ⟨#[], args, []⟩) f ⟨#[], args, []⟩ = true)
    (hrow : s.preRow enc C.prog fn conds apart laid (w0.forCall (fun _ _ => 0) ⟨#[], args, []⟩).memory args) :
    ∃ (w : World) (tape : Tape) (i : Input), w.os = os ∧ (w.forCall tape i).Shaped C.prog ∧ i.vars = [] ∧ Input.okWide C.prog (w.forCall tape i) .any w.heap.size f i ∧
      s.preRow enc C.prog fn conds apart laid (w.forCall tape i).memory i.args ∧ ({ modest := modest } : Assume).holds C.prog (lone (Frame.enter C.prog f i.args .normal) [] (w.forCall tape i)) :=
  ⟨w0, fun _ _ => 0, ⟨#[], args, []⟩, hos, World.shaped_of_ZipB hv hr, (Input.okWide_of_okWideB (base := 0) hok).1, (Input.okWide_of_okWideB hok).2, hrow, by
    simp only [Assume.holds]
    exact ⟨by simp, by simp, fun _ => Modest.zero, by simp, by simp⟩⟩
end
end Go.Proofs.YtlefalplljgkeaaGreatDoor.fd
