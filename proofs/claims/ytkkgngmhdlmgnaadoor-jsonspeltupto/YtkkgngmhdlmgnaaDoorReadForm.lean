import Derived.Test.YtkkgngmhdlmgnaaDoorBaseB
namespace Go.Proofs.YtkkgngmhdlmgnaaDoor.jw
open Go.ChangeShapes Go.WideShapes Go.ChangeAt Go.RowKit Go.Proofs.YtkkgngmhdlmgnaaDoor.common

theorem own_form {w : World} {b : Nat} {t : TypeId} {z : Nat} {v : Value} {n : Nat} {xs : List Value} (h : w.ownsRow b t z v n xs) : ∃ oa cap, v = .slice oa n cap := by
  rcases h.2 with ⟨hv, h0⟩ | ⟨g, cap, cur, hv, _⟩
  · exact ⟨none, 0, by rw [hv, h0]⟩
  · exact ⟨_, cap, hv⟩
/-- a refusal comes with no members -/
theorem read_none {l : List UInt8} (h : (Json.read l).1 ≠ 0) : (Json.read l).2 = [] := by
  revert h
  unfold Json.read
  split
  · intro _; rfl
  · split
    · intro _; rfl
    · split
      · intro _; rfl
      · intro h; exact absurd rfl h
theorem read_zero {l : List UInt8} (h : (Json.read l).1 = 0) : Json.read l = (0, (Json.read l).2) := by rw [← h]
theorem errV_no {e : Nat → Addr} {c : Nat} (h : c ≠ 0) : ∃ a, errV e c = X a := ⟨_, if_neg h⟩

end Go.Proofs.YtkkgngmhdlmgnaaDoor.jw
