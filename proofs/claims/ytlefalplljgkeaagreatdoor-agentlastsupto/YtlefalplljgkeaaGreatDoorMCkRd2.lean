import Derived.Test.YtlefalplljgkeaaGreatDoorMCkRd
namespace Go.Proofs.YtlefalplljgkeaaGreatDoor.fd
open Go.ChangeShapes Go.WideShapes Go.ChangeAt Go.RowKit Go.Proofs.YtlefalplljgkeaaGreatDoor.common Go.Proofs.YtlefalplljgkeaaGreatDoor.bk
attribute [local go_sem ↓] Go.wp_at_zero Go.wp_at_succ

/-- a piece's name, its value, and whether it is a pair -/
def pcName (l : List UInt8) : List UInt8 := before 61 l
def pcVal (l : List UInt8) : List UInt8 := unq (behind 61 l)
def pcOk (l : List UInt8) : Bool := l.contains 61 && isCk ⟨(pcName l).toArray⟩ ⟨(pcVal l).toArray⟩
theorem unq_len (l : List UInt8) : (unq l).length ≤ l.length := by
  unfold unq
  by_cases h : 2 ≤ l.length ∧ l.getD 0 0 = 34 ∧ l.getD (l.length - 1) 0 = 34
  · rw [if_pos h, List.length_drop, List.length_take]; omega
  · rw [if_neg h]; exact Nat.le_refl _
theorem cut_lens (c : UInt8) (l : List UInt8) : (before c l).length ≤ l.length ∧ (behind c l).length ≤ l.length := by
  refine ⟨(List.takeWhile_prefix _).length_le, ?_⟩
  unfold behind
  have := (List.dropWhile_suffix (l := l) fun x => decide (x ≠ c)).length_le
  rw [List.length_tail]; omega

theorem results_ct {fn : Func} {p t : Tmp} {ty : TypeId} {P : Program} {w : World} {b o : Nat} {cs : List Value} {d : TypeDesc} {u : Value} (h : fn.results = #[.cell p ty, .tmp t]) (tmps : Array Value) (hx : tmps.getD p undef = .pointer (some ⟨b, o, none⟩))
    (hc : w.rangeAt b o cs) (hu : P.underlying ty = some d) (hd : d.isRow = true) (hi : (P.info? ty).map (·.size) = some cs.length) (ht : tmps.getD t undef = u) : (results fn tmps).run P w = .ok (.tuple #[.agg cs.toArray, u]) w := by
  have hx' : tmps[p]?.getD undef = .pointer (some ⟨b, o, none⟩) := by simpa using hx
  have ht' : tmps[t]?.getD undef = u := by simpa using ht
  simp only [results, h]
  simp [hx', ht', asAddr, run_loadVar_mid w b o ty cs d hc hu hd hi]

theorem sizePair : (Tryz.prog.info? 37).map (·.size) = some 2 := by kernel_rfl
theorem two_put (w : World) (R : Nat) (x y v0 v1 : Value) (h0 : w.cell? ⟨R, 0, none⟩ = some v0) (h1 : w.cell? ⟨R, 1, none⟩ = some v1) : ((w.setCell ⟨R, 0, none⟩ x).setCell ⟨R, 1, none⟩ y).rangeAt R 0 [x, y] := by
  have r : w.rangeAt R 0 [v0, v1] := by
    intro j u hu
    match j, hu with
    | 0, hu => cases hu; exact h0
    | 1, hu => cases hu; exact h1
  have r1 := range_set r 0 (by simp) x
  have r2 := range_set r1 1 (by simp) y
  simpa using r2

end Go.Proofs.YtlefalplljgkeaaGreatDoor.fd
