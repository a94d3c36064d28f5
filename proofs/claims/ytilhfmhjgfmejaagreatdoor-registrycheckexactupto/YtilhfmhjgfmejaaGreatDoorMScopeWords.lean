import Derived.Test.YtilhfmhjgfmejaaGreatDoorMScopeOrdM
namespace Go.Proofs.YtilhfmhjgfmejaaGreatDoor.tm
open Go.RowKit Go.Proofs.YtilhfmhjgfmejaaGreatDoor.common Go.Proofs.YtilhfmhjgfmejaaGreatDoor.bk
open Go.Proofs.YtilhfmhjgfmejaaGreatDoor.ss (joinS tot)

/-- a word ahead of the first -/
def pre (w : List UInt8) : List (List UInt8) → List (List UInt8)
  | h :: t => (w ++ h) :: t
  | [] => [w]
theorem pre_nil (c : UInt8) (l : List UInt8) : pre [] (Tm.split c l) = Tm.split c l := by
  cases h : Tm.split c l with
  | nil => exact absurd h (Tm.split_ne c l)
  | cons u t => rfl
theorem pre_sep (c : UInt8) (w r : List UInt8) : pre w (Tm.split c (c :: r)) = w :: pre [] (Tm.split c r) := by
  rw [pre_nil, Tm.split_cons, if_pos rfl]
  show (w ++ []) :: _ = _
  rw [List.append_nil]
theorem pre_not (c x : UInt8) (h : x ≠ c) (w r : List UInt8) : pre w (Tm.split c (x :: r)) = pre (w ++ [x]) (Tm.split c r) := by
  rw [Tm.split_cons, if_neg h]
  cases hs : Tm.split c r with
  | nil => exact absurd hs (Tm.split_ne c r)
  | cons u t => show (w ++ x :: u) :: t = (w ++ [x] ++ u) :: t; simp
theorem pre_end (c : UInt8) (w : List UInt8) : pre w (Tm.split c []) = [w] := by
  show [w ++ []] = _; rw [List.append_nil]

theorem mem_riseB {zs : List ByteArray} {x : ByteArray} : x ∈ riseB zs ↔ x ∈ zs := by
  unfold riseB
  rw [List.mem_map]
  constructor
  · rintro ⟨y, hy, rfl⟩
    have := ((Tm.rise_spec (raw zs)).2 y).1 hy
    unfold raw at this
    obtain ⟨z, hz, rfl⟩ := List.mem_map.1 this
    exact hz
  · intro h
    refine ⟨x.data.toList, ((Tm.rise_spec (raw zs)).2 _).2 ?_, rfl⟩
    unfold raw
    exact List.mem_map.2 ⟨x, h, rfl⟩
theorem riseB_lt (zs : List ByteArray) : (riseB zs).Pairwise fun a b => a.data.toList < b.data.toList := by
  unfold riseB
  rw [List.pairwise_map]
  exact (Tm.rise_spec (raw zs)).1
end Go.Proofs.YtilhfmhjgfmejaaGreatDoor.tm

namespace Go.Proofs.YtilhfmhjgfmejaaGreatDoor.tm
open Go.ChangeShapes Go.WideShapes Go.ChangeAt Go.RowKit Go.Proofs.YtilhfmhjgfmejaaGreatDoor.common Go.Proofs.YtilhfmhjgfmejaaGreatDoor.bk
open Go.Proofs.YtilhfmhjgfmejaaGreatDoor.ss (sc)
attribute [local go_sem ↓] Go.wp_at_zero Go.wp_at_succ

theorem drop_at (s : ByteArray) (k : Nat) (h : k < s.size) : s.data.toList.drop k = s[k] :: s.data.toList.drop (k + 1) := List.drop_eq_getElem_cons (by simpa using h)
end Go.Proofs.YtilhfmhjgfmejaaGreatDoor.tm
