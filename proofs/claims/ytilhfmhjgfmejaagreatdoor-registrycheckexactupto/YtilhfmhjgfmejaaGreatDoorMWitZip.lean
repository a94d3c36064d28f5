import Derived.Test.YtilhfmhjgfmejaaGreatDoorMRgOpen
import Derived.Test.YtilhfmhjgfmejaaGreatDoorMByteKit
import Derived.Lay
import Derived.Deep.DeepWitnessRowRef
namespace Go.Proofs.YtilhfmhjgfmejaaGreatDoor.rg
open Go.ChangeShapes Go.WideShapes Go.ChangeAt Go.RowKit Go.Joins Go.Deep Go.WideElems Go.Maps Go.Proofs.YtilhfmhjgfmejaaGreatDoor.common Go.Proofs.YtilhfmhjgfmejaaGreatDoor.bk

/-- an int -/
def inI (a : Int) : Prop := -9223372036854775808 ≤ a ∧ a ≤ 9223372036854775807
/-- ten numbers that are ints -/
def Ten.ok (t : Ten) : Prop := inI t.a0 ∧ inI t.a1 ∧ inI t.a2 ∧ inI t.a3 ∧ inI t.a4 ∧ inI t.a5 ∧ inI t.a6 ∧ inI t.a7 ∧ inI t.a8 ∧ inI t.a9

set_option maxRecDepth 100000 in
/-- a configuration as an argument -/
theorem cfg_of {H : Type} {enc : TypeId × Value → H} {W : World} {fuel : Nat} {q0 q1 q2 q3 q4 q5 q6 q7 q8 q9 vC vU : Value} {d : DataW H} {pl : List MemPlace}
    (h : DataW.trod enc Tryz.prog W 0 (fun _ => true) true fuel 25 [q0, q1, q2, q3, q4, q5, q6, q7, q8, q9, vC, vU] = some (d, pl)) (hw : (d.weights Tryz.prog 25).all (· ≤ reachBytes) = true) :
    ∃ (t : Ten) (cs : List Cli) (us : List Usr), q0 = .int .i64 t.a0 ∧ q1 = .int .i64 t.a1 ∧ q2 = .int .i64 t.a2 ∧ q3 = .int .i64 t.a3 ∧ q4 = .int .i64 t.a4 ∧ q5 = .int .i64 t.a5 ∧ q6 = .int .i64 t.a6 ∧ q7 = .int .i64 t.a7 ∧ q8 = .int .i64 t.a8 ∧ q9 = .int .i64 t.a9 ∧ LiesC W vC cs ∧ LiesU W vU us ∧ cs.length * 104 ≤ reachBytes ∧ us.length * 48 ≤ reachBytes ∧ cs.length ≤ Rows.uptoBulk d ∧ us.length ≤ Rows.uptoBulk d ∧ (∀ x ∈ cs, Small x (Rows.uptoBulk d) reachBytes) ∧ (∀ x ∈ us, x.name.size ≤ Rows.uptoBulk d ∧ x.salt.size ≤ Rows.uptoBulk d ∧ x.dig.size ≤ Rows.uptoBulk d) ∧ t.ok := by
  obtain ⟨xs, n, _, hx, hl, hlen, hf⟩ := DataW.trod_struct Tryz.underlying25 h
  match xs, hlen with
  | [y0, y1, y2, y3, y4, y5, y6, y7, y8, y9, y10, y11], _ =>
    have g0 : DataW.trod enc Tryz.prog W 0 (fun _ => true) true n 3 [q0] = some y0 := by have := hf 0 _ rfl; simp only [List.getElem?_cons_zero] at this; rw [← this]; rfl
    have g1 : DataW.trod enc Tryz.prog W 0 (fun _ => true) true n 3 [q1] = some y1 := by have := hf 1 _ rfl; simp only [List.getElem?_cons_zero, List.getElem?_cons_succ] at this; rw [← this]; rfl
    have g2 : DataW.trod enc Tryz.prog W 0 (fun _ => true) true n 3 [q2] = some y2 := by have := hf 2 _ rfl; simp only [List.getElem?_cons_zero, List.getElem?_cons_succ] at this; rw [← this]; rfl
    have g3 : DataW.trod enc Tryz.prog W 0 (fun _ => true) true n 3 [q3] = some y3 := by have := hf 3 _ rfl; simp only [List.getElem?_cons_zero, List.getElem?_cons_succ] at this; rw [← this]; rfl
    have g4 : DataW.trod enc Tryz.prog W 0 (fun _ => true) true n 3 [q4] = some y4 := by have := hf 4 _ rfl; simp only [List.getElem?_cons_zero, List.getElem?_cons_succ] at this; rw [← this]; rfl
    have g5 : DataW.trod enc Tryz.prog W 0 (fun _ => true) true n 3 [q5] = some y5 := by have := hf 5 _ rfl; simp only [List.getElem?_cons_zero, List.getElem?_cons_succ] at this; rw [← this]; rfl
    have g6 : DataW.trod enc Tryz.prog W 0 (fun _ => true) true n 3 [q6] = some y6 := by have := hf 6 _ rfl; simp only [List.getElem?_cons_zero, List.getElem?_cons_succ] at this; rw [← this]; rfl
    have g7 : DataW.trod enc Tryz.prog W 0 (fun _ => true) true n 3 [q7] = some y7 := by have := hf 7 _ rfl; simp only [List.getElem?_cons_zero, List.getElem?_cons_succ] at this; rw [← this]; rfl
    have g8 : DataW.trod enc Tryz.prog W 0 (fun _ => true) true n 3 [q8] = some y8 := by have := hf 8 _ rfl; simp only [List.getElem?_cons_zero, List.getElem?_cons_succ] at this; rw [← this]; rfl
    have g9 : DataW.trod enc Tryz.prog W 0 (fun _ => true) true n 3 [q9] = some y9 := by have := hf 9 _ rfl; simp only [List.getElem?_cons_zero, List.getElem?_cons_succ] at this; rw [← this]; rfl
    have g10 : DataW.trod enc Tryz.prog W 0 (fun _ => true) true n 22 [vC] = some y10 := by have := hf 10 _ rfl; simp only [List.getElem?_cons_zero, List.getElem?_cons_succ] at this; rw [← this]; rfl
    have g11 : DataW.trod enc Tryz.prog W 0 (fun _ => true) true n 23 [vU] = some y11 := by have := hf 11 _ rfl; simp only [List.getElem?_cons_zero, List.getElem?_cons_succ] at this; rw [← this]; rfl
    obtain ⟨dC, pC⟩ := y10
    obtain ⟨dU, pU⟩ := y11
    have hd : d = .agg [y0.1, y1.1, y2.1, y3.1, y4.1, y5.1, y6.1, y7.1, y8.1, y9.1, dC, dU] := by
      have := (Prod.mk.inj hx).1
      simpa using this
    subst hd
    simp only [DataW.weights, Tryz.underlying25] at hw
    have hw2 : (y0.1.weights Tryz.prog 3 ++ (y1.1.weights Tryz.prog 3 ++ (y2.1.weights Tryz.prog 3 ++ (y3.1.weights Tryz.prog 3 ++ (y4.1.weights Tryz.prog 3 ++ (y5.1.weights Tryz.prog 3 ++ (y6.1.weights Tryz.prog 3 ++ (y7.1.weights Tryz.prog 3 ++ (y8.1.weights Tryz.prog 3 ++ (y9.1.weights Tryz.prog 3 ++ (dC.weights Tryz.prog 22 ++ (dU.weights Tryz.prog 23 ++ [])))))))))))).all (· ≤ reachBytes) = true := hw
    simp only [List.all_append, List.append_nil, Bool.and_eq_true] at hw2
    have hw3 := hw2.2.2.2.2.2.2.2.2.2.2
    obtain ⟨cs, hC, n1, m1, s1⟩ := clients_of g10 hw3.1
    obtain ⟨us, hU, n2, m2, s2⟩ := users_of g11 hw3.2
    have hbC : Rows.uptoBulk dC ≤ Rows.uptoBulk (.agg [y0.1, y1.1, y2.1, y3.1, y4.1, y5.1, y6.1, y7.1, y8.1, y9.1, dC, dU]) := by
      simp only [Rows.uptoBulk, Rows.uptoBulkAll]
      omega
    have hbU : Rows.uptoBulk dU ≤ Rows.uptoBulk (.agg [y0.1, y1.1, y2.1, y3.1, y4.1, y5.1, y6.1, y7.1, y8.1, y9.1, dC, dU]) := by
      simp only [Rows.uptoBulk, Rows.uptoBulkAll]
      omega
    obtain ⟨x0, ex0, _, w0⟩ := DataW.trod_int Tryz.underlying3 g0
    obtain ⟨x1, ex1, _, w1⟩ := DataW.trod_int Tryz.underlying3 g1
    obtain ⟨x2, ex2, _, w2⟩ := DataW.trod_int Tryz.underlying3 g2
    obtain ⟨x3, ex3, _, w3⟩ := DataW.trod_int Tryz.underlying3 g3
    obtain ⟨x4, ex4, _, w4⟩ := DataW.trod_int Tryz.underlying3 g4
    obtain ⟨x5, ex5, _, w5⟩ := DataW.trod_int Tryz.underlying3 g5
    obtain ⟨x6, ex6, _, w6⟩ := DataW.trod_int Tryz.underlying3 g6
    obtain ⟨x7, ex7, _, w7⟩ := DataW.trod_int Tryz.underlying3 g7
    obtain ⟨x8, ex8, _, w8⟩ := DataW.trod_int Tryz.underlying3 g8
    obtain ⟨x9, ex9, _, w9⟩ := DataW.trod_int Tryz.underlying3 g9
    simp at ex0 ex1 ex2 ex3 ex4 ex5 ex6 ex7 ex8 ex9
    refine ⟨⟨x0, x1, x2, x3, x4, x5, x6, x7, x8, x9⟩, cs, us, ex0, ex1, ex2, ex3, ex4, ex5, ex6, ex7, ex8, ex9, hC, hU, n1, n2, Nat.le_trans m1 hbC, Nat.le_trans m2 hbU, fun x hx => ?_, fun x hx => ?_, ⟨bounds_i64 w0, bounds_i64 w1, bounds_i64 w2, bounds_i64 w3, bounds_i64 w4, bounds_i64 w5, bounds_i64 w6, bounds_i64 w7, bounds_i64 w8, bounds_i64 w9⟩⟩
    · have g := s1 x hx
      exact ⟨Nat.le_trans g.id hbC, Nat.le_trans g.salt hbC, Nat.le_trans g.dig hbC, Nat.le_trans g.tos hbC, Nat.le_trans g.sc hbC, g.tow, g.scw⟩
    · obtain ⟨g0, g1, g2⟩ := s2 x hx
      exact ⟨Nat.le_trans g0 hbU, Nat.le_trans g1 hbU, Nat.le_trans g2 hbU⟩
end Go.Proofs.YtilhfmhjgfmejaaGreatDoor.rg

namespace Go.Proofs.YtilhfmhjgfmejaaGreatDoor.fd
open Go
section
variable {H : Type} {enc : TypeId × Value → H}
/-- there is an input that fits, at a world whose shape is told in one pass -/
theorem witness_row_zip {C : Checked} {os : Os} {f : FuncId} {fn : Func} {s : OpenSpec} {conds : List PathCond} {apart : Bool} {laid : List (String × DataW Unit)} (modest : Bool) (w0 : World) (args : Array Value) (hos : w0.os = os)
    (hv : (w0.forCall (fun _ _ => 0) ⟨#[], args, []⟩).variablesZipB C.prog = true)
    (hr : ((w0.forCall (fun _ _ => 0) ⟨#[], args, []⟩).heap.toList.drop C.prog.globals.size).take ((begin C.prog (fun _ _ => 0) default).world.heap.size - C.prog.globals.size) =
      (begin C.prog (fun _ _ => 0) default).world.heap.toList.drop C.prog.globals.size)
    (hok : Input.okWideB C.prog (w0.forCall (fun _ _ => 0) ⟨#[], args, []⟩) f ⟨#[], args, []⟩ = true)
    (hrow : s.preRow enc C.prog fn conds apart laid (w0.forCall (fun _ _ => 0) ⟨#[], args, []⟩).memory args) :
    ∃ (w : World) (tape : Tape) (i : Input), w.os = os ∧ (w.forCall tape i).Shaped C.prog ∧ i.vars = [] ∧ Input.okWide C.prog (w.forCall tape i) .any w.heap.size f i ∧
      s.preRow enc C.prog fn conds apart laid (w.forCall tape i).memory i.args ∧ ({ modest := modest } : Assume).holds C.prog (lone (Frame.enter C.prog f i.args .normal) [] (w.forCall tape i)) :=
  ⟨w0, fun _ _ => 0, ⟨#[], args, []⟩, hos, World.shaped_of_ZipB hv hr, (Input.okWide_of_okWideB (base := 0) hok).1, (Input.okWide_of_okWideB hok).2, hrow, by
    simp only [Assume.holds]
    exact ⟨by simp, by simp, fun _ => Modest.zero, by simp, by simp⟩⟩
end
end Go.Proofs.YtilhfmhjgfmejaaGreatDoor.fd
