import Derived.Test.YtjfpjgialdkhkaaDoorDmCut
namespace Go.Proofs.YtjfpjgialdkhkaaDoor.dk
open Go.ChangeShapes Go.WideShapes Go.ChangeAt Go.RowKit Go.Proofs.YtjfpjgialdkhkaaDoor.common

/-- how moves ends -/
def Mvd (base : Nat) (w : World) (e : Nat → Addr) (p : Nat) (F : List Nat) (x' : St) (j : Nat) (r' : Ending) (w' : World) : Prop := r' = .returned (.tuple #[.bool true, .int .i64 (x'.a.length : Int)]) ∧ ∃ F', Run base w' e p F' x' (j + 1) ∧ Fr F w w' ∧ ∀ k ∈ F', k ∈ F ∨ w.heap.size ≤ k
def Fnl (base : Nat) (w : World) (e : Nat → Addr) (p : Nat) (F : List Nat) (x' : St) (j : Nat) (w' : World) : Prop := ∃ F', Run base w' e p F' x' (j + 1) ∧ Fr F w w' ∧ ∀ k ∈ F', k ∈ F ∨ w.heap.size ≤ k
theorem Fnl.mvd {base : Nat} {w : World} {e : Nat → Addr} {p : Nat} {F : List Nat} {x' : St} {j : Nat} {w' : World} (h : Fnl base w e p F x' j w') {n : Int} (hn : n = (x'.a.length : Int)) : Mvd base w e p F x' j (.returned (.tuple #[.bool true, .int .i64 n])) w' := ⟨by rw [hn], h⟩
theorem sub_trans {F F1 F2 : List Nat} {a b : Nat} (h1 : ∀ k ∈ F1, k ∈ F ∨ a ≤ k) (h2 : ∀ k ∈ F2, k ∈ F1 ∨ b ≤ k) (hab : a ≤ b) : ∀ k ∈ F2, k ∈ F ∨ a ≤ k := fun k hk => by
  rcases h2 k hk with h | h
  · exact h1 k h
  · exact Or.inr (Nat.le_trans hab h)

end Go.Proofs.YtjfpjgialdkhkaaDoor.dk
