import Derived.Test.YtidccfflpcgkiaaGreatDoorMRcUn
namespace Go.Proofs.YtidccfflpcgkiaaGreatDoor.rc
open Go.ChangeShapes Go.WideShapes Go.ChangeAt Go.RowKit Go.Joins Go.Deep Go.WideElems Go.Maps Go.Proofs.YtidccfflpcgkiaaGreatDoor.common Go.Proofs.YtidccfflpcgkiaaGreatDoor.ss

theorem cells18 : Tryz.prog.cellsOf 37 = 18 := by kernel_rfl
set_option maxRecDepth 100000 in
/-- two records as an argument: each of them, with its data -/
theorem two_of {H : Type} {enc : TypeId × Value → H} {W : World} {fuel : Nat} {q0 q1 q2 q3 q4 q5 q6 q7 q8 p0 p1 p2 p3 p4 p5 p6 p7 p8 : Value} {d : DataW H} {pl : List MemPlace}
    (h : DataW.trod enc Tryz.prog W 0 (fun _ => true) true fuel 37 [q0, q1, q2, q3, q4, q5, q6, q7, q8, p0, p1, p2, p3, p4, p5, p6, p7, p8] = some (d, pl)) (hw : (d.weights Tryz.prog 37).all (· ≤ reachBytes) = true) :
    ∃ (n : Nat) (d1 d2 : DataW H) (pl1 pl2 : List MemPlace), DataW.trod enc Tryz.prog W 0 (fun _ => true) true n 24 [q0, q1, q2, q3, q4, q5, q6, q7, q8] = some (d1, pl1) ∧ DataW.trod enc Tryz.prog W 0 (fun _ => true) true n 24 [p0, p1, p2, p3, p4, p5, p6, p7, p8] = some (d2, pl2) ∧
      (d1.weights Tryz.prog 24).all (· ≤ reachBytes) = true ∧ (d2.weights Tryz.prog 24).all (· ≤ reachBytes) = true ∧ Rows.uptoBulk d1 ≤ Rows.uptoBulk d ∧ Rows.uptoBulk d2 ≤ Rows.uptoBulk d := by
  obtain ⟨xs, n, _, hx, hl, hlen, hf⟩ := DataW.trod_struct Tryz.underlying37 h
  match xs, hlen with
  | [y0, y1], _ =>
    have g0 : DataW.trod enc Tryz.prog W 0 (fun _ => true) true n 24 [q0, q1, q2, q3, q4, q5, q6, q7, q8] = some y0 := by have := hf 0 _ rfl; simp only [List.getElem?_cons_zero] at this; rw [← this]; rfl
    have g1 : DataW.trod enc Tryz.prog W 0 (fun _ => true) true n 24 [p0, p1, p2, p3, p4, p5, p6, p7, p8] = some y1 := by have := hf 1 _ rfl; simp only [List.getElem?_cons_zero, List.getElem?_cons_succ] at this; rw [← this]; rfl
    obtain ⟨d1, pl1⟩ := y0
    obtain ⟨d2, pl2⟩ := y1
    have hd : d = .agg [d1, d2] := by
      have := (Prod.mk.inj hx).1
      simpa using this
    subst hd
    refine ⟨n, d1, d2, pl1, pl2, g0, g1, ?_, ?_, ?_, ?_⟩
    · simp only [DataW.weights, Tryz.underlying37] at hw
      rw [List.all_eq_true] at hw ⊢
      intro x hx
      refine hw x ?_
      simp [DataW.weightsEach, hx]
    · simp only [DataW.weights, Tryz.underlying37] at hw
      rw [List.all_eq_true] at hw ⊢
      intro x hx
      refine hw x ?_
      simp [DataW.weightsEach, hx]
    · simp only [Rows.uptoBulk, Rows.uptoBulkAll]; omega
    · simp only [Rows.uptoBulk, Rows.uptoBulkAll]; omega
end Go.Proofs.YtidccfflpcgkiaaGreatDoor.rc
