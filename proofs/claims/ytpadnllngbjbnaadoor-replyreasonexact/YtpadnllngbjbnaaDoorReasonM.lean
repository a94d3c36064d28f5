import Derived.Test.YtpadnllngbjbnaaDoorCommon
import Derived.Deep.MidRow
import Derived.Test.YtpadnllngbjbnaaDoorRanges
import Derived.Test.YtpadnllngbjbnaaDoorRows
namespace Go.Proofs.YtpadnllngbjbnaaDoor.rp
open Go.ChangeShapes Go.WideShapes Go.ChangeAt Go.RowKit Go.Proofs.YtpadnllngbjbnaaDoor.common
attribute [local go_sem ↓] Go.wp_at_zero Go.wp_at_succ

abbrev S (l : List UInt8) : Value := .string ⟨l.toArray⟩
/-- the statuses and their phrases -/
def tabR : List (Int × List UInt8) := [
  (200, [79, 75]),
  (302, [70, 111, 117, 110, 100]),
  (303, [83, 101, 101, 32, 79, 116, 104, 101, 114]),
  (400, [66, 97, 100, 32, 82, 101, 113, 117, 101, 115, 116]),
  (401, [85, 110, 97, 117, 116, 104, 111, 114, 105, 122, 101, 100]),
  (403, [70, 111, 114, 98, 105, 100, 100, 101, 110]),
  (404, [78, 111, 116, 32, 70, 111, 117, 110, 100]),
  (405, [77, 101, 116, 104, 111, 100, 32, 78, 111, 116, 32, 65, 108, 108, 111, 119, 101, 100]),
  (413, [67, 111, 110, 116, 101, 110, 116, 32, 84, 111, 111, 32, 76, 97, 114, 103, 101]),
  (415, [85, 110, 115, 117, 112, 112, 111, 114, 116, 101, 100, 32, 77, 101, 100, 105, 97, 32, 84, 121, 112, 101]),
  (417, [69, 120, 112, 101, 99, 116, 97, 116, 105, 111, 110, 32, 70, 97, 105, 108, 101, 100]),
  (429, [84, 111, 111, 32, 77, 97, 110, 121, 32, 82, 101, 113, 117, 101, 115, 116, 115]),
  (431, [82, 101, 113, 117, 101, 115, 116, 32, 72, 101, 97, 100, 101, 114, 32, 70, 105, 101, 108, 100, 115, 32, 84, 111, 111, 32, 76, 97, 114, 103, 101]),
  (500, [73, 110, 116, 101, 114, 110, 97, 108, 32, 83, 101, 114, 118, 101, 114, 32, 69, 114, 114, 111, 114]),
  (501, [78, 111, 116, 32, 73, 109, 112, 108, 101, 109, 101, 110, 116, 101, 100]),
  (503, [83, 101, 114, 118, 105, 99, 101, 32, 85, 110, 97, 118, 97, 105, 108, 97, 98, 108, 101]),
  (505, [72, 84, 84, 80, 32, 86, 101, 114, 115, 105, 111, 110, 32, 78, 111, 116, 32, 83, 117, 112, 112, 111, 114, 116, 101, 100])]
def reasonL (n : Int) : List UInt8 := ((tabR.find? fun p => p.1 == n).map (·.2)).getD []
def cellsL : List Value := tabR.flatMap fun p => [.int .i64 p.1, S p.2]
def Stat (w : World) : Prop := w.rangeAt 0 0 cellsL
def tN (i : Nat) : Int := (tabR.getD i (0, [])).1
def tS (i : Nat) : List UInt8 := (tabR.getD i (0, [])).2
theorem cells_len : cellsL.length = 34 := by rfl
theorem cell_at : ∀ i, i < 17 → cellsL[i * 2]? = some (.int .i64 (tN i)) ∧ cellsL[i * 2 + 1]? = some (S (tS i)) := by
  intro i h
  match i, h with
  | 0, _ => exact ⟨rfl, rfl⟩
  | 1, _ => exact ⟨rfl, rfl⟩
  | 2, _ => exact ⟨rfl, rfl⟩
  | 3, _ => exact ⟨rfl, rfl⟩
  | 4, _ => exact ⟨rfl, rfl⟩
  | 5, _ => exact ⟨rfl, rfl⟩
  | 6, _ => exact ⟨rfl, rfl⟩
  | 7, _ => exact ⟨rfl, rfl⟩
  | 8, _ => exact ⟨rfl, rfl⟩
  | 9, _ => exact ⟨rfl, rfl⟩
  | 10, _ => exact ⟨rfl, rfl⟩
  | 11, _ => exact ⟨rfl, rfl⟩
  | 12, _ => exact ⟨rfl, rfl⟩
  | 13, _ => exact ⟨rfl, rfl⟩
  | 14, _ => exact ⟨rfl, rfl⟩
  | 15, _ => exact ⟨rfl, rfl⟩
  | 16, _ => exact ⟨rfl, rfl⟩
  | k + 17, h => omega

theorem find_step (n : Int) : ∀ i, i < 17 → (tabR.drop i).find? (fun p => p.1 == n) = if tN i = n then some (tN i, tS i) else (tabR.drop (i + 1)).find? (fun p => p.1 == n) := by
  intro i h
  have hl : i < tabR.length := h
  rw [List.drop_eq_getElem_cons hl, List.find?_cons]
  have e1 : tabR[i].1 = tN i := by unfold tN; rw [List.getD_eq_getElem?_getD, List.getElem?_eq_getElem hl]; rfl
  have e2 : tabR[i] = (tN i, tS i) := by unfold tN tS; rw [List.getD_eq_getElem?_getD, List.getElem?_eq_getElem hl]; rfl
  by_cases hn : tN i = n
  · rw [if_pos hn, e1]; simp [hn, e2]
  · rw [if_neg hn, e1, beq_false_of_ne hn]

end Go.Proofs.YtpadnllngbjbnaaDoor.rp
