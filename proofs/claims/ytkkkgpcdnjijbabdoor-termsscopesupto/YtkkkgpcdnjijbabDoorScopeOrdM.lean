import Derived.Test.YtkkkgpcdnjijbabDoorTmScopes
import Derived.Test.YtkkkgpcdnjijbabDoorTmSort
import Derived.Test.YtkkkgpcdnjijbabDoorScopeFace
namespace Go.Proofs.YtkkkgpcdnjijbabDoor.tm
open Go.RowKit Go.Proofs.YtkkkgpcdnjijbabDoor.common Go.Proofs.YtkkkgpcdnjijbabDoor.bk
open Go.Proofs.YtkkkgpcdnjijbabDoor.ss (joinS tot)

/-- the words of all of them -/
def wordsOf (l : List ByteArray) : List (List UInt8) := l.flatMap fun x => Tm.split 32 x.data.toList
theorem split_tail (r : List (List UInt8)) : ∀ x : List UInt8, Tm.split 32 (x ++ Lib.joinTail [32] r) = Tm.split 32 x ++ r.flatMap (Tm.split 32) := by
  induction r with
  | nil => intro x; simp [Lib.joinTail]
  | cons y s ih =>
    intro x
    have e : x ++ Lib.joinTail [32] (y :: s) = x ++ 32 :: (y ++ Lib.joinTail [32] s) := by simp [Lib.joinTail]
    rw [e, Tm.split_app, ih y, List.flatMap_cons]
theorem parts_join (l : List ByteArray) (h : l ≠ []) : tsq.parts 32 (⟨(joinS l).toArray⟩ : ByteArray) = (wordsOf l).map fun w => ⟨w.toArray⟩ := by
  unfold tsq.parts wordsOf joinS
  cases l with
  | nil => exact absurd rfl h
  | cons x r =>
    rw [str_list, List.map_cons, Lib.join_cons, split_tail, List.flatMap_cons, List.flatMap_map]
theorem raw_map (ws : List (List UInt8)) : raw (ws.map fun w => (⟨w.toArray⟩ : ByteArray)) = ws := by
  unfold raw
  rw [List.map_map]
  exact (List.map_congr_left (fun _ _ => rfl)).trans (List.map_id ws)
theorem mem_words (l : List ByteArray) (x : List UInt8) : x ∈ wordsOf (l.reverse ++ l) ↔ x ∈ wordsOf l := by
  unfold wordsOf
  simp only [List.mem_flatMap, List.mem_append, List.mem_reverse, or_self]

theorem scope_order (l : List ByteArray) (eT eM : Value) : scE eT eM (⟨(joinS (l.reverse ++ l)).toArray⟩ : ByteArray) = scE eT eM (⟨(joinS l).toArray⟩ : ByteArray) ∧ scL (⟨(joinS (l.reverse ++ l)).toArray⟩ : ByteArray) = scL (⟨(joinS l).toArray⟩ : ByteArray) := by
  by_cases h : l = []
  · subst h; exact ⟨rfl, rfl⟩
  · have h2 : l.reverse ++ l ≠ [] := by simp [h]
    have e1 := parts_join l h
    have e2 := parts_join _ h2
    have er : riseB (tsq.parts 32 (⟨(joinS (l.reverse ++ l)).toArray⟩ : ByteArray)) = riseB (tsq.parts 32 (⟨(joinS l).toArray⟩ : ByteArray)) := by
      rw [e1, e2]
      unfold riseB rise
      rw [raw_map, raw_map, Tm.rise_eq (mem_words l)]
    have ea : areSc (⟨(joinS (l.reverse ++ l)).toArray⟩ : ByteArray) = areSc (⟨(joinS l).toArray⟩ : ByteArray) := by
      unfold areSc
      rw [e1, e2, List.all_map, List.all_map, Bool.eq_iff_iff, List.all_eq_true, List.all_eq_true]
      exact ⟨fun hh x hx => hh x ((mem_words l x).2 hx), fun hh x hx => hh x ((mem_words l x).1 hx)⟩
    constructor
    · unfold scE many; rw [ea, er]
    · unfold scL many; rw [ea, er]

theorem rise_one (x : List UInt8) : rise [x] = [x] := by
  apply Tm.rising_one _ _ (Tm.rise_spec [x]).1 (List.pairwise_singleton _ _)
  exact (Tm.rise_spec [x]).2
theorem one_x (eT eM : Value) : scE eT eM ⟨#[120]⟩ = .nilIface ∧ scL ⟨#[120]⟩ = [⟨#[120]⟩] := by
  have ep : tsq.parts 32 ⟨#[120]⟩ = [⟨#[120]⟩] := rfl
  have ea : areSc ⟨#[120]⟩ = true := rfl
  have er : riseB (tsq.parts 32 ⟨#[120]⟩) = [⟨#[120]⟩] := by
    rw [ep]
    unfold riseB
    rw [show raw [(⟨#[120]⟩ : ByteArray)] = [[120]] from rfl, rise_one]; rfl
  constructor
  · unfold scE many; rw [ea, er]; rfl
  · unfold scL many; rw [ea, er]; rfl

end Go.Proofs.YtkkkgpcdnjijbabDoor.tm
